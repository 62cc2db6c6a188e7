/-
  What AclDead asks besides: is a rule for all; where is one; is a number among others.
-/
import Derived.Test.YtgcimcpcnoojnaaInts
import Derived.Test.YtgcimcpcnoojnaaAll
import Derived.Deep.RegionHeld3
namespace Go.Proofs.Ytgcimcpcnoojnaa
open Go.RowKit

def isAllB (r : Rl) : Bool := decide (r.a = 65535) && decide (r.b = 65535) && decide (r.c = 255) && decide (r.d = 255)

theorem Five5 (w : World) (a b c d e : Value) (t : TypeId) : (w.alloc (.cells #[a, b, c, d, e] t)).cell? ⟨w.heap.size, 1, none⟩ = some b ∧ (w.alloc (.cells #[a, b, c, d, e] t)).cell? ⟨w.heap.size, 2, none⟩ = some c ∧ (w.alloc (.cells #[a, b, c, d, e] t)).cell? ⟨w.heap.size, 3, none⟩ = some d ∧ (w.alloc (.cells #[a, b, c, d, e] t)).cell? ⟨w.heap.size, 4, none⟩ = some e :=
  ⟨by simp [go_sem], by simp [go_sem], by simp [go_sem], by simp [go_sem]⟩

set_option maxHeartbeats 4000000 in
set_option maxRecDepth 100000 in
theorem pred_r (r : Rl) (w : World) : Calls Try.prog 53 #[rv r] w fun e w' => e = .returned (.bool (isAllB r)) ∧ Below w.heap.size w w' := by
  obtain ⟨ok, a, b, c, d, ha, hb, hc, hd⟩ := r
  have D0 := (Below.alloc' (Below.refl w.heap.size w) (.cells #[.bool ok, .int .u16 (a : Int), .int .u16 (b : Int), .int .u8 (c : Int), .int .u8 (d : Int)] 78)).drew
  obtain ⟨q1, q2, q3, q4⟩ := Five5 w (.bool ok) (.int .u16 (a : Int)) (.int .u16 (b : Int)) (.int .u8 (c : Int)) (.int .u8 (d : Int)) 78
  have AL : Hid (∀ w', Below (w.alloc (.cells #[.bool ok, .int .u16 (a : Int), .int .u16 (b : Int), .int .u8 (c : Int), .int .u8 (d : Int)] 78)).heap.size (w.alloc (.cells #[.bool ok, .int .u16 (a : Int), .int .u16 (b : Int), .int .u8 (c : Int), .int .u8 (d : Int)] 78)) w' → Below w.heap.size w w' → Calls Try.prog 54 #[] w' fun e w'' => e = .returned (mt 65535 65535 255 255) ∧ Below w.heap.size w w'' ∧ w''.cell? ⟨w.heap.size, 1, none⟩ = some (.int .u16 (a : Int)) ∧ w''.cell? ⟨w.heap.size, 2, none⟩ = some (.int .u16 (b : Int)) ∧ w''.cell? ⟨w.heap.size, 3, none⟩ = some (.int .u8 (c : Int)) ∧ w''.cell? ⟨w.heap.size, 4, none⟩ = some (.int .u8 (d : Int))) := fun w' h1 h2 =>
    (all_any w').mono fun e w'' ⟨e1, e2⟩ => by
      have h3 := h1.trans (e2.mono h1.size)
      exact ⟨e1, chain e2 h2, (h3.cell (p := ⟨w.heap.size, 1, none⟩) (by simp)).trans q1, (h3.cell (p := ⟨w.heap.size, 2, none⟩) (by simp)).trans q2, (h3.cell (p := ⟨w.heap.size, 3, none⟩) (by simp)).trans q3, (h3.cell (p := ⟨w.heap.size, 4, none⟩) (by simp)).trans q4⟩
  have R0 : Below (w.alloc (.cells #[.bool ok, .int .u16 (a : Int), .int .u16 (b : Int), .int .u8 (c : Int), .int .u8 (d : Int)] 78)).heap.size (w.alloc (.cells #[.bool ok, .int .u16 (a : Int), .int .u16 (b : Int), .int .u8 (c : Int), .int .u8 (d : Int)] 78)) (w.alloc (.cells #[.bool ok, .int .u16 (a : Int), .int .u16 (b : Int), .int .u8 (c : Int), .int .u8 (d : Int)] 78)).drew := (Below.refl _ _).drew
  simp only [isAllB]
  have EA : decide (a = 65535) = ((a : Int) == 65535) := by rw [Bool.eq_iff_iff]; simp; omega
  have EB : decide (b = 65535) = ((b : Int) == 65535) := by rw [Bool.eq_iff_iff]; simp; omega
  have EC : decide (c = 255) = ((c : Int) == 255) := by rw [Bool.eq_iff_iff]; simp; omega
  have ED : decide (d = 255) = ((d : Int) == 255) := by rw [Bool.eq_iff_iff]; simp; omega
  rw [EA, EB, EC, ED]
  clear EA EB EC ED
  cases eA : ((a : Int) == 65535)
  · go_enter Try.func53, Try.ntmps53
    go_wp2_with fail
    go_region_held3 (fun w' => w'.cell? ⟨w.heap.size, 1, none⟩ = some (.int .u16 (a : Int)) ∧ w'.cell? ⟨w.heap.size, 2, none⟩ = some (.int .u16 (b : Int)) ∧ w'.cell? ⟨w.heap.size, 3, none⟩ = some (.int .u8 (c : Int)) ∧ w'.cell? ⟨w.heap.size, 4, none⟩ = some (.int .u8 (d : Int))) (exact ⟨by assumption, by assumption, by assumption, by assumption⟩)
      (first | (go_at_call 54; refine (AL.out _ (by assumption) (by assumption)).mono ?_; rintro e wn ⟨rfl, hn, z1, z2, z3, z4⟩))
    go_wp2_with fail
    go_ret
    exact ⟨by simp, hn⟩
  cases eB : ((b : Int) == 65535)
  · go_enter Try.func53, Try.ntmps53
    go_wp2_with fail
    go_region_held3 (fun w' => w'.cell? ⟨w.heap.size, 1, none⟩ = some (.int .u16 (a : Int)) ∧ w'.cell? ⟨w.heap.size, 2, none⟩ = some (.int .u16 (b : Int)) ∧ w'.cell? ⟨w.heap.size, 3, none⟩ = some (.int .u8 (c : Int)) ∧ w'.cell? ⟨w.heap.size, 4, none⟩ = some (.int .u8 (d : Int))) (exact ⟨by assumption, by assumption, by assumption, by assumption⟩)
      (first | (go_at_call 54; refine (AL.out _ (by assumption) (by assumption)).mono ?_; rintro e wn ⟨rfl, hn, z1, z2, z3, z4⟩))
    go_wp2_with fail
    go_ret
    exact ⟨by simp, hn⟩
  cases eC : ((c : Int) == 255)
  · go_enter Try.func53, Try.ntmps53
    go_wp2_with fail
    go_region_held3 (fun w' => w'.cell? ⟨w.heap.size, 1, none⟩ = some (.int .u16 (a : Int)) ∧ w'.cell? ⟨w.heap.size, 2, none⟩ = some (.int .u16 (b : Int)) ∧ w'.cell? ⟨w.heap.size, 3, none⟩ = some (.int .u8 (c : Int)) ∧ w'.cell? ⟨w.heap.size, 4, none⟩ = some (.int .u8 (d : Int))) (exact ⟨by assumption, by assumption, by assumption, by assumption⟩)
      (first | (go_at_call 54; refine (AL.out _ (by assumption) (by assumption)).mono ?_; rintro e wn ⟨rfl, hn, z1, z2, z3, z4⟩))
    go_wp2_with fail
    go_ret
    exact ⟨by simp, hn⟩
  cases eD : ((d : Int) == 255)
  · go_enter Try.func53, Try.ntmps53
    go_wp2_with fail
    go_region_held3 (fun w' => w'.cell? ⟨w.heap.size, 1, none⟩ = some (.int .u16 (a : Int)) ∧ w'.cell? ⟨w.heap.size, 2, none⟩ = some (.int .u16 (b : Int)) ∧ w'.cell? ⟨w.heap.size, 3, none⟩ = some (.int .u8 (c : Int)) ∧ w'.cell? ⟨w.heap.size, 4, none⟩ = some (.int .u8 (d : Int))) (exact ⟨by assumption, by assumption, by assumption, by assumption⟩)
      (first | (go_at_call 54; refine (AL.out _ (by assumption) (by assumption)).mono ?_; rintro e wn ⟨rfl, hn, z1, z2, z3, z4⟩))
    go_wp2_with fail
    go_ret
    exact ⟨by simp, hn⟩
  · go_enter Try.func53, Try.ntmps53
    go_wp2_with fail
    go_region_held3 (fun w' => w'.cell? ⟨w.heap.size, 1, none⟩ = some (.int .u16 (a : Int)) ∧ w'.cell? ⟨w.heap.size, 2, none⟩ = some (.int .u16 (b : Int)) ∧ w'.cell? ⟨w.heap.size, 3, none⟩ = some (.int .u8 (c : Int)) ∧ w'.cell? ⟨w.heap.size, 4, none⟩ = some (.int .u8 (d : Int))) (exact ⟨by assumption, by assumption, by assumption, by assumption⟩)
      (first | (go_at_call 54; refine (AL.out _ (by assumption) (by assumption)).mono ?_; rintro e wn ⟨rfl, hn, z1, z2, z3, z4⟩))
    go_wp2_with fail
    go_ret
    exact ⟨by simp, hn⟩

/-- Where the first rule for all is, or -1. -/
def idxAll (xs : List Rl) : Int := if xs.findIdx isAllB < xs.length then (xs.findIdx isAllB : Int) else -1
theorem idx_here {xs : List Rl} {k : Nat} {r : Rl} (h : xs[k]? = some r) (hr : isAllB r = true) (hn : ∀ j r, j < k → xs[j]? = some r → isAllB r = false) : idxAll xs = (k : Int) := by
  obtain ⟨hk, e⟩ := List.getElem?_eq_some_iff.1 h
  have : xs.findIdx isAllB = k := by
    rw [List.findIdx_eq hk]
    refine ⟨by rw [e]; exact hr, fun j hj => ?_⟩
    rw [hn j _ hj (List.getElem?_eq_getElem (by omega))]
  unfold idxAll
  rw [this, if_pos hk]
theorem idx_none {xs : List Rl} (hn : ∀ j r, j < xs.length → xs[j]? = some r → isAllB r = false) : idxAll xs = -1 := by
  unfold idxAll
  rw [if_neg]
  intro h
  have := List.findIdx_getElem (w := h)
  rw [hn _ _ h (List.getElem?_eq_getElem h)] at this
  cases this

set_option maxHeartbeats 4000000 in
set_option maxRecDepth 100000 in
theorem indexFunc_row (b o cap : Nat) (xs : List Rl) (w : World) (hb : b < w.heap.size) (hn : xs.length ≤ cap) (hcap : cap ≤ maxLen) (hr : Hid (RAt w b o xs)) :
    Calls Try.prog 52 #[.slice (some ⟨b, o, none⟩) xs.length cap, .func (.func 53) #[] #[]] w fun e w' => e = .returned (.int .i64 (idxAll xs)) ∧ Below w.heap.size w w' := by
  unfold maxLen at hcap
  go_enter Try.func52, Try.ntmps52
  go_wp2_with fail
  go_loopw [8] (fun i wr => ∃ k : Nat, i = .int .i64 (k : Int) ∧ k ≤ xs.length ∧ Below w.heap.size w wr ∧ Hid (∀ j r, j < k → xs[j]? = some r → isAllB r = false)) (fun i _ => xs.length - (intOf i).toNat)
  case atStart => exact ⟨0, rfl, by omega, Below.refl _ _, fun j r h => by omega⟩
  case round =>
    obtain ⟨k, rfl, hk, D1, hno⟩ := hrel
    by_cases hlt : k < xs.length
    · obtain ⟨r, hxk⟩ : ∃ r, xs[k]? = some r := ⟨_, List.getElem?_eq_getElem hlt⟩
      obtain ⟨c0, c1, c2, c3, c4⟩ := (hr.out.below D1 hb).at hxk
      have PR : Hid (Calls Try.prog 53 #[rv r] wr fun e w' => e = .returned (.bool (isAllB r)) ∧ Below wr.heap.size wr w') := pred_r r wr
      have HX : Hid (xs[k]? = some r) := hxk
      clear hr hxk
      cases hv : isAllB r
      · rw [hv] at PR
        have HV : Hid (isAllB r = false) := hv
        clear hv
        obtain ⟨ok, ra, rb, rc, rd, g1, g2, g3, g4⟩ := r
        go_wp2_with fail
        refine PR.out.mono ?_
        rintro e w2 ⟨rfl, hb2⟩
        have D2 := chain hb2 D1
        clear hb2 D1 c0 c1 c2 c3 c4 PR
        go_wp2_with fail
        go_roundw
        case rel =>
          refine ⟨k + 1, by go_num, by omega, D2, fun j r' hj hx => ?_⟩
          by_cases hjk : j < k
          · exact hno.out j r' hjk hx
          · obtain rfl : j = k := by omega
            rw [HX.out] at hx
            cases hx
            exact HV.out
        case measure => simp [intOf]; omega
      · rw [hv] at PR
        have fin : Hid (idxAll xs = (k : Int)) := idx_here HX.out hv hno.out
        clear hv hno HX
        obtain ⟨ok, ra, rb, rc, rd, g1, g2, g3, g4⟩ := r
        go_wp2_with fail
        refine PR.out.mono ?_
        rintro e w2 ⟨rfl, hb2⟩
        have D2 := chain hb2 D1
        clear hb2 D1 c0 c1 c2 c3 c4 PR
        go_wp2_with fail
        go_ret
        exact ⟨by rw [fin.out]; rfl, D2⟩
    · obtain rfl : k = xs.length := by omega
      have fin : Hid (idxAll xs = -1) := idx_none hno.out
      go_wp2_with fail
      go_ret
      exact ⟨by rw [fin.out]; rfl, D1⟩
set_option maxHeartbeats 1000000 in
theorem indexFunc_none (A : Option Addr) (cap : Nat) (w : World) :
    Calls Try.prog 52 #[.slice A 0 cap, .func (.func 53) #[] #[]] w fun e w' => e = .returned (.int .i64 (-1)) ∧ Below w.heap.size w w' := by
  go_enter Try.func52, Try.ntmps52
  go_wp2_with fail
  go_loopw [8] (fun i wr => i = .int .i64 0 ∧ Below w.heap.size w wr) (fun i _ => 0)
  case atStart => exact ⟨rfl, Below.refl _ _⟩
  case round =>
    obtain ⟨rfl, D1⟩ := hrel
    go_wp2_with fail
    go_ret
    exact ⟨rfl, D1⟩
theorem indexFunc_any {v : Value} {xs : List Rl} (w : World) (h : Rules w.heap.size w v xs) :
    Calls Try.prog 52 #[v, .func (.func 53) #[] #[]] w fun e w' => e = .returned (.int .i64 (idxAll xs)) ∧ Below w.heap.size w w' := by
  obtain ⟨A, cap, rfl, _, h1, h2, h3⟩ := h
  by_cases hx : xs = []
  · subst hx
    exact indexFunc_none A cap w
  · obtain ⟨b, o, rfl, hb, hr⟩ := h3 hx
    exact indexFunc_row b o cap xs w hb h1 h2 hr

set_option maxHeartbeats 4000000 in
set_option maxRecDepth 100000 in
theorem index_row (b o cap : Nat) (ds : List Nat) (x : Nat) (w : World) (hn : ds.length ≤ cap) (hcap : cap ≤ maxLen) (hc : Hid (∀ (j d : Nat), ds[j]? = some d → w.cell? ⟨b, o + j, none⟩ = some (.int .i64 (d : Int)))) (hx : Hid (x ∈ ds)) :
    Calls Try.prog 93 #[.slice (some ⟨b, o, none⟩) ds.length cap, .int .i64 (x : Int)] w fun e w' => ∃ j : Nat, e = .returned (.int .i64 (j : Int)) ∧ w' = w := by
  unfold maxLen at hcap
  go_enter Try.func93, Try.ntmps93
  go_wp2_with fail
  go_loop [8] (fun i => ∃ k : Nat, i = .int .i64 (k : Int) ∧ k ≤ ds.length ∧ Hid (∀ j d, j < k → ds[j]? = some d → d ≠ x)) (fun i => ds.length - (intOf i).toNat)
  case atStart => exact ⟨0, rfl, by omega, fun j d h => by omega⟩
  case round =>
    obtain ⟨k, rfl, hk, hno⟩ := hrel
    by_cases hlt : k < ds.length
    · obtain ⟨d, hd⟩ : ∃ d, ds[k]? = some d := ⟨_, List.getElem?_eq_getElem hlt⟩
      have q := hc.out k d hd
      have HD : Hid (ds[k]? = some d) := hd
      clear hd hc
      by_cases he : x = d
      · subst he
        go_wp2_with fail
        go_ret
        first | exact ⟨k, rfl, rfl⟩ | exact ⟨⟨k, rfl⟩, rfl⟩ | exact ⟨k, rfl⟩
      · have hne : ((x : Int) == (d : Int)) = false := by simp; omega
        have HE : Hid (x ≠ d) := he
        clear he
        go_wp2_with fail
        go_round
        case rel =>
          refine ⟨k + 1, by go_num, by omega, fun j d' hj hx' => ?_⟩
          by_cases hjk : j < k
          · exact hno.out j d' hjk hx'
          · obtain rfl : j = k := by omega
            rw [HD.out] at hx'
            cases hx'
            exact fun e => HE.out e.symm
        case measure => simp [intOf]; omega
    · obtain ⟨j, hj⟩ := List.mem_iff_getElem?.1 hx.out
      exact absurd rfl (hno.out j x (by have := (List.getElem?_eq_some_iff.1 hj).1; omega) hj)
set_option maxHeartbeats 1000000 in
theorem contains_mem {v : Value} {ds : List Nat} {x : Nat} (w : World) (h : IntsAt w v ds) (hx : x ∈ ds) :
    Calls Try.prog 55 #[v, .int .i64 (x : Int)] w fun e w' => e = .returned (.bool true) ∧ w' = w := by
  obtain ⟨A, cap, rfl, h1, h2, h3⟩ := h
  obtain ⟨b, o, rfl, _, hc⟩ := h3 (fun e => by subst e; cases hx)
  have IX : Hid (∀ w', w' = w → Calls Try.prog 93 #[.slice (some ⟨b, o, none⟩) ds.length cap, .int .i64 (x : Int)] w' fun e w'' => ∃ j : Nat, e = .returned (.int .i64 (j : Int)) ∧ w'' = w') := fun w' e => by
    subst e
    exact index_row b o cap ds x _ h1 h2 hc hx
  clear hc hx h3
  go_enter Try.func55, Try.ntmps55
  go_wp2_with fail
  refine (IX.out _ rfl).mono ?_
  rintro e w2 ⟨j, rfl, rfl⟩
  go_wp2_with fail
  go_ret
  exact ⟨by simp, rfl⟩
end Go.Proofs.Ytgcimcpcnoojnaa


