/-
  acl.Lets.
-/
import Derived.Test.YtgcimcpcnoojnaaRl
namespace Go.Proofs.Ytgcimcpcnoojnaa
open Go.RowKit

theorem letsB_drop {xs : List Rl} {k : Nat} {r : Rl} (h : xs[k]? = some r) (p q s t : Int) : letsB (xs.drop k) p q s t = if inR r p q s t then r.ok else letsB (xs.drop (k + 1)) p q s t := by
  obtain ⟨hk, e⟩ := List.getElem?_eq_some_iff.1 h
  rw [List.drop_eq_getElem_cons hk, e]
  rfl

set_option maxHeartbeats 4000000 in
theorem lets_row (b o cap : Nat) (xs : List Rl) (p q s t : Int) (w : World) (hb : b < w.heap.size) (hn : xs.length ≤ cap) (hcap : cap ≤ maxLen) (hr : RAt w b o xs) :
    Calls Try.prog 25 #[.slice (some ⟨b, o, none⟩) xs.length cap, pk p q s t] w fun e w' => e = .returned (.bool (letsB xs p q s t)) ∧ Below w.heap.size w w' := by
  unfold maxLen at hcap
  have D0 := Below.alloc' (Below.refl w.heap.size w) (.cells #[.int .i64 p, .int .i64 q, .int .i64 s, .int .i64 t] 53)
  have F0 := four_new w (.int .i64 p) (.int .i64 q) (.int .i64 s) (.int .i64 t) 53
  go_enter Try.func25, Try.ntmps25
  go_wp2_with fail
  go_loopw [9] (fun i wr => ∃ k : Nat, i = .int .i64 (k : Int) ∧ k ≤ xs.length ∧ Below w.heap.size w wr ∧ Four wr w.heap.size (.int .i64 p) (.int .i64 q) (.int .i64 s) (.int .i64 t) ∧ letsB xs p q s t = letsB (xs.drop k) p q s t) (fun i _ => xs.length - (intOf i).toNat)
  case atStart => exact ⟨0, rfl, by omega, D0, F0, rfl⟩
  case round =>
    obtain ⟨k, rfl, hk, D1, F1, hl⟩ := hrel
    have Hl : Hid (letsB xs p q s t = letsB (xs.drop k) p q s t) := hl
    clear hl
    by_cases hlt : k < xs.length
    · obtain ⟨r, hxk⟩ : ∃ r, xs[k]? = some r := ⟨_, List.getElem?_eq_getElem hlt⟩
      obtain ⟨c0, c1, c2, c3, c4⟩ := (hr.below D1 hb).at hxk
      have Hd : Hid (letsB (xs.drop k) p q s t = if inR r p q s t then r.ok else letsB (xs.drop (k + 1)) p q s t) := letsB_drop hxk p q s t
      have IN : Hid (∀ w, Calls Try.prog 73 #[mt r.a r.b r.c r.d, pk p q s t] w fun e w' => e = .returned (.bool (inR r p q s t)) ∧ Below w.heap.size w w') := fun w => in_any r.a r.b r.c r.d p q s t w r.ha r.hb r.hc r.hd
      have D2 := Below.alloc' D1 (.cells #[.bool r.ok, .int .u16 (r.a : Int), .int .u16 (r.b : Int), .int .u8 (r.c : Int), .int .u8 (r.d : Int)] 78)
      have F2 := allocFour F1 (.cells #[.bool r.ok, .int .u16 (r.a : Int), .int .u16 (r.b : Int), .int .u8 (r.c : Int), .int .u8 (r.d : Int)] 78)
      have B2 : (wr.alloc (.cells #[.bool r.ok, .int .u16 (r.a : Int), .int .u16 (r.b : Int), .int .u8 (r.c : Int), .int .u8 (r.d : Int)] 78)).cell? ⟨wr.heap.size, 0, none⟩ = some (.bool r.ok) := by simp [go_sem]
      obtain ⟨l0, g0, g1, g2, g3⟩ := id F1
      have lw := D1.size
      clear hr hxk
      generalize inR r p q s t = v at *
      generalize r.ok = ok at *
      generalize r.a = ra at *
      generalize r.b = rb at *
      generalize r.c = rc at *
      generalize r.d = rd at *
      go_wp2_with fail
      refine (IN.out _).mono ?_
      rintro e w3 ⟨rfl, hb3⟩
      have D3 := chain hb3 D2
      have F3 := keepFour hb3 F2
      have c5 : w3.cell? ⟨wr.heap.size, 0, none⟩ = some (.bool ok) := (hb3.cell (p := ⟨wr.heap.size, 0, none⟩) (by simp)).trans B2
      clear hb3 D2 F2 F1 D1 B2 IN c0 c1 c2 c3 c4 g0 g1 g2 g3
      cases v
      · go_wp2_with fail
        go_roundw
        case rel => exact ⟨k + 1, by go_num, by omega, D3, F3, by rw [Hl.out, Hd.out]; simp⟩
        case measure => simp [intOf]; omega
      · go_wp2_with fail
        go_ret
        exact ⟨by rw [Hl.out, Hd.out]; simp, D3⟩
    · go_wp2_with fail
      go_ret
      exact ⟨by rw [Hl.out, List.drop_eq_nil_of_le (by omega)]; rfl, D1⟩

set_option maxHeartbeats 1000000 in
theorem lets_none (A : Option Addr) (cap : Nat) (p q s t : Int) (w : World) :
    Calls Try.prog 25 #[.slice A 0 cap, pk p q s t] w fun e w' => e = .returned (.bool false) ∧ Below w.heap.size w w' := by
  have D0 := Below.alloc' (Below.refl w.heap.size w) (.cells #[.int .i64 p, .int .i64 q, .int .i64 s, .int .i64 t] 53)
  go_enter Try.func25, Try.ntmps25
  go_wp2_with fail
  go_loopw [9] (fun i wr => i = .int .i64 0 ∧ Below w.heap.size w wr) (fun i _ => 0)
  case atStart => exact ⟨rfl, D0⟩
  case round =>
    obtain ⟨rfl, D1⟩ := hrel
    go_wp2_with fail
    go_ret
    exact ⟨rfl, D1⟩

/-- Lets. -/
theorem lets_any {v : Value} {xs : List Rl} (p q s t : Int) (w : World) (h : Rules w.heap.size w v xs) :
    Calls Try.prog 25 #[v, pk p q s t] w fun e w' => e = .returned (.bool (letsB xs p q s t)) ∧ Below w.heap.size w w' := by
  obtain ⟨A, cap, rfl, _, h1, h2, h3⟩ := h
  by_cases hx : xs = []
  · subst hx
    exact lets_none A cap p q s t w
  · obtain ⟨b, o, rfl, hb, hr⟩ := h3 hx
    exact lets_row b o cap xs p q s t w hb h1 h2 hr
end Go.Proofs.Ytgcimcpcnoojnaa


