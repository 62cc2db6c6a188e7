/-
  Lists of rules: as lists, and in memory.
-/
import Derived.Test.YtgmjlkllghlmmaaGreatHas
import Derived.Laws.AppendOwn
namespace Go.Proofs.YtgmjlkllghlmmaaGreat
open Go.RowKit

/-- What In tells. -/
def inB (a b c d : Nat) (p q r s : Int) : Bool := hasB a p && hasB b q && hasB c r && hasB d s
theorem in_any (a b c d : Nat) (p q r s : Int) (w : World) (ha : a < 65536) (hb : b < 65536) (hc : c < 256) (hd : d < 256) :
    Calls Tryz.prog 117 #[mt a b c d, pk p q r s] w fun e w' => e = .returned (.bool (inB a b c d p q r s)) ∧ Below w.heap.size w w' :=
  in_case a b c d p q r s w _ _ _ _ (fun w => addrs_any a w ha) (fun w => addrs_any b w hb) (fun w => ports_any c w hc) (fun w => ports_any d w hd)
    (fun w => has_any a p 16 w ha) (fun w => has_any b q 16 w hb) (fun w => has_any c r 8 w (by omega)) (fun w => has_any d s 8 w (by omega))

/-- A rule: does it let through what its match has? -/
structure Rl where
  ok : Bool
  a : Nat
  b : Nat
  c : Nat
  d : Nat
  ha : a < 65536
  hb : b < 65536
  hc : c < 256
  hd : d < 256
def inR (r : Rl) (p q s t : Int) : Bool := inB r.a r.b r.c r.d p q s t
/-- What a list of rules says of a packet. -/
def letsB : List Rl → Int → Int → Int → Int → Bool
  | [], _, _, _, _ => false
  | r :: l, p, q, s, t => if inR r p q s t then r.ok else letsB l p q s t
def allR (ok : Bool) : Rl := ⟨ok, 65535, 65535, 255, 255, by omega, by omega, by omega, by omega⟩
abbrev rcells (r : Rl) : List Value := [.bool r.ok, .int .u16 (r.a : Int), .int .u16 (r.b : Int), .int .u8 (r.c : Int), .int .u8 (r.d : Int)]
abbrev rv (r : Rl) : Value := .agg #[.bool r.ok, .int .u16 (r.a : Int), .int .u16 (r.b : Int), .int .u8 (r.c : Int), .int .u8 (r.d : Int)]
def cellsR (xs : List Rl) : List Value := xs.flatMap fun r => rcells r

theorem cellsR_cons (r : Rl) (l : List Rl) : cellsR (r :: l) = rcells r ++ cellsR l := rfl
theorem cellsR_length : ∀ xs : List Rl, (cellsR xs).length = xs.length * 5
  | [] => rfl
  | r :: l => by
    have := cellsR_length l
    rw [cellsR_cons, List.length_append, this]
    simp
    omega
theorem cellsR_at : ∀ (xs : List Rl) (k : Nat) (r : Rl), xs[k]? = some r →
    (cellsR xs)[k * 5]? = some (.bool r.ok) ∧ (cellsR xs)[k * 5 + 1]? = some (.int .u16 (r.a : Int)) ∧ (cellsR xs)[k * 5 + 2]? = some (.int .u16 (r.b : Int)) ∧ (cellsR xs)[k * 5 + 3]? = some (.int .u8 (r.c : Int)) ∧ (cellsR xs)[k * 5 + 4]? = some (.int .u8 (r.d : Int))
  | [], k, r, h => by simp at h
  | x :: l, 0, r, h => by
    obtain rfl : x = r := by simpa using h
    exact ⟨rfl, rfl, rfl, rfl, rfl⟩
  | x :: l, k + 1, r, h => by
    have ih := cellsR_at l k r (by simpa using h)
    have sh : ∀ j, (cellsR (x :: l))[(k + 1) * 5 + j]? = (cellsR l)[k * 5 + j]? := fun j => by
      rw [cellsR_cons, List.getElem?_append_right (by simp; omega)]
      congr 1
      simp
      omega
    have s0 := sh 0
    simp only [Nat.add_zero] at s0
    rw [s0, sh 1, sh 2, sh 3, sh 4]
    exact ih

/-- So the rules lie in block b, from cell o on. -/
def RAt (w : World) (b o : Nat) (xs : List Rl) : Prop := ∀ j u, (cellsR xs)[j]? = some u → w.cell? ⟨b, o + j, none⟩ = some u
/-- A slice that holds the rules, below block number base. -/
def Rules (base : Nat) (w : World) (v : Value) (xs : List Rl) : Prop :=
  ∃ A cap, v = .slice A xs.length cap ∧ (A = none → cap = 0) ∧ xs.length ≤ cap ∧ cap ≤ maxLen ∧ (xs ≠ [] → ∃ b o, A = some ⟨b, o, none⟩ ∧ b < base ∧ RAt w b o xs)

theorem RAt.at {w : World} {b o : Nat} {xs : List Rl} (h : RAt w b o xs) {k : Nat} {r : Rl} (hk : xs[k]? = some r) :
    w.cell? ⟨b, o + k * 5, none⟩ = some (.bool r.ok) ∧ w.cell? ⟨b, o + k * 5 + 1, none⟩ = some (.int .u16 (r.a : Int)) ∧ w.cell? ⟨b, o + k * 5 + 2, none⟩ = some (.int .u16 (r.b : Int)) ∧ w.cell? ⟨b, o + k * 5 + 3, none⟩ = some (.int .u8 (r.c : Int)) ∧ w.cell? ⟨b, o + k * 5 + 4, none⟩ = some (.int .u8 (r.d : Int)) := by
  obtain ⟨h0, h1, h2, h3, h4⟩ := cellsR_at xs k r hk
  exact ⟨h _ _ h0, h _ _ h1, h _ _ h2, h _ _ h3, h _ _ h4⟩
theorem RAt.below {base : Nat} {w w' : World} {b o : Nat} {xs : List Rl} (h : RAt w b o xs) (hb : Below base w w') (hl : b < base) : RAt w' b o xs :=
  fun j u hj => (hb.cell (p := ⟨b, _, none⟩) hl).trans (h j u hj)
theorem Rules.below {base : Nat} {w w' : World} {v : Value} {xs : List Rl} (h : Rules base w v xs) (hb : Below base w w') : Rules base w' v xs := by
  obtain ⟨A, cap, e, h0, h1, h2, h3⟩ := h
  refine ⟨A, cap, e, h0, h1, h2, fun hn => ?_⟩
  obtain ⟨b, o, ea, hl, hr⟩ := h3 hn
  exact ⟨b, o, ea, hl, hr.below hb hl⟩
theorem Rules.mono {base base' : Nat} {w : World} {v : Value} {xs : List Rl} (h : Rules base w v xs) (hb : base ≤ base') : Rules base' w v xs := by
  obtain ⟨A, cap, e, h0, h1, h2, h3⟩ := h
  refine ⟨A, cap, e, h0, h1, h2, fun hn => ?_⟩
  obtain ⟨b, o, ea, hl, hr⟩ := h3 hn
  exact ⟨b, o, ea, by omega, hr⟩
/-- A row of a call's own, read as rules. -/
theorem Rules.own {base : Nat} {w : World} {t : TypeId} {v : Value} {xs : List Rl} (h : w.ownsRow base t 5 v xs.length (cellsR xs)) : Rules w.heap.size w v xs := by
  obtain ⟨hl, hc⟩ := h
  rcases hc with ⟨rfl, h0⟩ | ⟨g, cap, cur, rfl, hb, hg, hn, hcap, hs, ht⟩
  · exact ⟨none, 0, by rw [h0], fun _ => rfl, by omega, by unfold maxLen; omega, fun hn => absurd (List.length_eq_zero_iff.1 h0) hn⟩
  · refine ⟨_, cap, rfl, (fun e => by cases e), hn, hcap, fun _ => ⟨g, 0, rfl, (Array.getElem?_eq_some_iff.1 hg).1, fun j u hj => ?_⟩⟩
    have hown : w.ownsRow base t 5 (.slice (some ⟨g, 0, none⟩) xs.length cap) xs.length (cellsR xs) := ⟨hl, .inr ⟨g, cap, cur, rfl, hb, hg, hn, hcap, hs, ht⟩⟩
    have := hown.cells (g := g) rfl j u hj
    rw [Addr.add_lit] at this
    exact this

end Go.Proofs.YtgmjlkllghlmmaaGreat

namespace Go.Proofs.YtgmjlkllghlmmaaGreat
open Go.RowKit

theorem letsB_drop {xs : List Rl} {k : Nat} {r : Rl} (h : xs[k]? = some r) (p q s t : Int) : letsB (xs.drop k) p q s t = if inR r p q s t then r.ok else letsB (xs.drop (k + 1)) p q s t := by
  obtain ⟨hk, e⟩ := List.getElem?_eq_some_iff.1 h
  rw [List.drop_eq_getElem_cons hk, e]
  rfl

set_option maxHeartbeats 4000000 in
theorem lets_row (b o cap : Nat) (xs : List Rl) (p q s t : Int) (w : World) (hb : b < w.heap.size) (hn : xs.length ≤ cap) (hcap : cap ≤ maxLen) (hr : RAt w b o xs) :
    Calls Tryz.prog 98 #[.slice (some ⟨b, o, none⟩) xs.length cap, pk p q s t] w fun e w' => e = .returned (.bool (letsB xs p q s t)) ∧ Below w.heap.size w w' := by
  unfold maxLen at hcap
  have D0 := Below.alloc' (Below.refl w.heap.size w) (.cells #[.int .i64 p, .int .i64 q, .int .i64 s, .int .i64 t] 39)
  have F0 := four_new w (.int .i64 p) (.int .i64 q) (.int .i64 s) (.int .i64 t) 39
  go_enter Tryz.func98, Tryz.ntmps98
  go_wp2_with fail
  go_loopw [9] (fun i wr => ∃ k : Nat, i = .int .i64 (k : Int) ∧ k ≤ xs.length ∧ Below w.heap.size w wr ∧ Four wr w.heap.size (.int .i64 p) (.int .i64 q) (.int .i64 s) (.int .i64 t) ∧ letsB xs p q s t = letsB (xs.drop k) p q s t) (fun i _ => xs.length - (intOf i).toNat)
  case atStart => exact ⟨0, rfl, by omega, D0, F0, rfl⟩
  case round =>
    obtain ⟨k, rfl, hk, D1, F1, hl⟩ := hrel
    have Hl : Hid (letsB xs p q s t = letsB (xs.drop k) p q s t) := hl
    clear hl
    by_cases hlt : k < xs.length
    · obtain ⟨r, hxk⟩ : ∃ r, xs[k]? = some r := ⟨_, List.getElem?_eq_getElem hlt⟩
      obtain ⟨c0, c1, c2, c3, c4⟩ := (hr.below D1 hb).at hxk
      have Hd : Hid (letsB (xs.drop k) p q s t = if inR r p q s t then r.ok else letsB (xs.drop (k + 1)) p q s t) := letsB_drop hxk p q s t
      have IN : Hid (∀ w, Calls Tryz.prog 117 #[mt r.a r.b r.c r.d, pk p q s t] w fun e w' => e = .returned (.bool (inR r p q s t)) ∧ Below w.heap.size w w') := fun w => in_any r.a r.b r.c r.d p q s t w r.ha r.hb r.hc r.hd
      have D2 := Below.alloc' D1 (.cells #[.bool r.ok, .int .u16 (r.a : Int), .int .u16 (r.b : Int), .int .u8 (r.c : Int), .int .u8 (r.d : Int)] 140)
      have F2 := allocFour F1 (.cells #[.bool r.ok, .int .u16 (r.a : Int), .int .u16 (r.b : Int), .int .u8 (r.c : Int), .int .u8 (r.d : Int)] 140)
      have B2 : (wr.alloc (.cells #[.bool r.ok, .int .u16 (r.a : Int), .int .u16 (r.b : Int), .int .u8 (r.c : Int), .int .u8 (r.d : Int)] 140)).cell? ⟨wr.heap.size, 0, none⟩ = some (.bool r.ok) := by simp [go_sem]
      obtain ⟨l0, g0, g1, g2, g3⟩ := id F1
      have lw := D1.size
      clear hr hxk
      generalize inR r p q s t = v at *
      generalize r.ok = ok at *
      generalize r.a = ra at *
      generalize r.b = rb at *
      generalize r.c = rc at *
      generalize r.d = rd at *
      go_wp2_with fail
      refine (IN.out _).mono ?_
      rintro e w3 ⟨rfl, hb3⟩
      have D3 := chain hb3 D2
      have F3 := keepFour hb3 F2
      have c5 : w3.cell? ⟨wr.heap.size, 0, none⟩ = some (.bool ok) := (hb3.cell (p := ⟨wr.heap.size, 0, none⟩) (by simp)).trans B2
      clear hb3 D2 F2 F1 D1 B2 IN c0 c1 c2 c3 c4 g0 g1 g2 g3
      cases v
      · go_wp2_with fail
        go_roundw
        case rel => exact ⟨k + 1, by go_num, by omega, D3, F3, by rw [Hl.out, Hd.out]; simp⟩
        case measure => simp [intOf]; omega
      · go_wp2_with fail
        go_ret
        exact ⟨by rw [Hl.out, Hd.out]; simp, D3⟩
    · go_wp2_with fail
      go_ret
      exact ⟨by rw [Hl.out, List.drop_eq_nil_of_le (by omega)]; rfl, D1⟩

set_option maxHeartbeats 1000000 in
theorem lets_none (A : Option Addr) (cap : Nat) (p q s t : Int) (w : World) :
    Calls Tryz.prog 98 #[.slice A 0 cap, pk p q s t] w fun e w' => e = .returned (.bool false) ∧ Below w.heap.size w w' := by
  have D0 := Below.alloc' (Below.refl w.heap.size w) (.cells #[.int .i64 p, .int .i64 q, .int .i64 s, .int .i64 t] 39)
  go_enter Tryz.func98, Tryz.ntmps98
  go_wp2_with fail
  go_loopw [9] (fun i wr => i = .int .i64 0 ∧ Below w.heap.size w wr) (fun i _ => 0)
  case atStart => exact ⟨rfl, D0⟩
  case round =>
    obtain ⟨rfl, D1⟩ := hrel
    go_wp2_with fail
    go_ret
    exact ⟨rfl, D1⟩

/-- Lets. -/
theorem lets_any {v : Value} {xs : List Rl} (p q s t : Int) (w : World) (h : Rules w.heap.size w v xs) :
    Calls Tryz.prog 98 #[v, pk p q s t] w fun e w' => e = .returned (.bool (letsB xs p q s t)) ∧ Below w.heap.size w w' := by
  obtain ⟨A, cap, rfl, _, h1, h2, h3⟩ := h
  by_cases hx : xs = []
  · subst hx
    exact lets_none A cap p q s t w
  · obtain ⟨b, o, rfl, hb, hr⟩ := h3 hx
    exact lets_row b o cap xs p q s t w hb h1 h2 hr
end Go.Proofs.YtgmjlkllghlmmaaGreat
