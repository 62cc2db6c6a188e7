/-
  Package ring: Check.
-/
import Derived.Test.YthioedgnambomaaNK
namespace Go.Proofs.Ythioedgnambomaa
open Go.RowKit

/-- What a device does hangs on what it did. -/
def remB (k : Int) : Bool := !(k == 1) && !(k == 2)
set_option maxHeartbeats 1000000 in
theorem rem_any (nm : ByteArray) (k ad : Int) (pl : Nat) (vb vr vt : Value) (w : World) :
    Calls Try.prog 22 #[devA nm k ad pl vb vr vt] w fun e w' => e = .returned (.bool (remB k)) ∧ Below w.heap.size w w' := by
  have D0 := Below.alN (Below.refl w.heap.size w) (.cells #[.string nm, .int .i64 k, .int .i64 ad, .int .u8 (pl : Int), vb, vr, vt] 42)
  by_cases h1 : k = 1
  · subst h1
    go_enter Try.func22, Try.ntmps22
    go_wp2_with fail
    go_ret
    exact ⟨rfl, D0⟩
  by_cases h2 : k = 2
  · subst h2
    go_enter Try.func22, Try.ntmps22
    go_wp2_with fail
    go_ret
    exact ⟨rfl, D0⟩
  have e1 : (k == 1) = false := by simpa using h1
  have e2 : (k == 2) = false := by simpa using h2
  have fin : Hid (remB k = true) := by show _ = _; unfold remB; rw [e1, e2]; rfl
  go_enter Try.func22, Try.ntmps22
  go_wp2_with fail
  go_ret
  exact ⟨by rw [fin.out]; simp [h1, h2], D0⟩
theorem any_takeD {ds : List Dv} {k : Nat} {x : Dv} {p : Dv → Bool} (h : ds[k]? = some x) : (ds.take (k + 1)).any p = ((ds.take k).any p || p x) := by
  rw [List.take_add_one, h]
  simp
set_option maxHeartbeats 4000000 in
set_option maxRecDepth 100000 in
theorem remIdx_any (A : Option Addr) (n cap : Nat) (ds : List Dv) (w : World) (hD : Hid (Devs w.heap.size w (.slice A n cap) ds)) :
    Calls Try.prog 43 #[.slice A n cap, .func (.func 22) #[] #[]] w fun e w' => ∃ j : Int, e = .returned (.int .i64 j) ∧ Hid (decide (0 ≤ j) = ds.any (fun d => remB d.kind)) ∧ Below w.heap.size w w' := by
  obtain ⟨rfl, hc, hm⟩ := hD.out.len
  unfold maxLen at hm
  go_enter Try.func43, Try.ntmps43
  go_wp2_with fail
  go_loopw [8] (fun i wr => ∃ k : Nat, i = .int .i64 (k : Int) ∧ k ≤ ds.length ∧ Below w.heap.size w wr ∧ Hid ((ds.take k).any (fun d => remB d.kind) = false)) (fun i _ => ds.length - (intOf i).toNat)
  case atStart => exact ⟨0, rfl, by omega, Below.refl _ _, rfl⟩
  case round =>
    obtain ⟨k, rfl, hk, D1, hno⟩ := hrel
    by_cases hlt : k < ds.length
    · obtain ⟨d, hxk⟩ : ∃ d, ds[k]? = some d := ⟨_, List.getElem?_eq_getElem hlt⟩
      obtain ⟨b, o, vb, vr, vt, rfl, hb, _, _, _, c0, c1, c2, c3, c4, c5, c6⟩ := (hD.out.below D1).at hxk
      have PR : Hid (Calls Try.prog 22 #[devA d.name d.kind d.addr d.pool vb vr vt] wr fun e w' => e = .returned (.bool (remB d.kind)) ∧ Below wr.heap.size wr w') := rem_any d.name d.kind d.addr d.pool vb vr vt wr
      have HX : Hid (ds[k]? = some d) := hxk
      have k1 : (0 : Int) ≤ (k : Int) := by omega
      have k2 : (k : Int) < (ds.length : Int) := by omega
      clear hxk hD
      cases hv : remB d.kind
      · rw [hv] at PR
        have HV : Hid ((ds.take (k + 1)).any (fun d => remB d.kind) = false) := by show _ = _; rw [any_takeD HX.out, hno.out, hv]; rfl
        clear hv hno HX
        generalize d.name = nm at *
        generalize d.kind = kd at *
        generalize d.addr = ad at *
        generalize d.pool = pl at *
        go_wp2_with fail
        refine PR.out.mono ?_
        rintro e w2 ⟨rfl, hb2⟩
        have D2 := chnN hb2 D1
        clear hb2 D1 c0 c1 c2 c3 c4 c5 c6 PR
        go_wp2_with fail
        go_roundw
        case rel => exact ⟨k + 1, by go_num, by omega, D2, HV⟩
        case measure => simp [intOf]; omega
      · rw [hv] at PR
        have fin : Hid (ds.any (fun d => remB d.kind) = true) := List.any_eq_true.2 ⟨d, List.mem_of_getElem? HX.out, hv⟩
        clear hv hno HX
        generalize d.name = nm at *
        generalize d.kind = kd at *
        generalize d.addr = ad at *
        generalize d.pool = pl at *
        go_wp2_with fail
        refine PR.out.mono ?_
        rintro e w2 ⟨rfl, hb2⟩
        have D2 := chnN hb2 D1
        clear hb2 D1 c0 c1 c2 c3 c4 c5 c6 PR
        go_wp2_with fail
        go_ret
        exact ⟨_, rfl, (by show _ = _; rw [fin.out]; simp), D2⟩
    · have fin : Hid (ds.any (fun d => remB d.kind) = false) := by
        have := hno.out
        rw [show k = ds.length by omega, List.take_length] at this
        exact this
      go_wp2_with fail
      go_ret
      exact ⟨_, rfl, (by show _ = _; rw [fin.out]; simp), D1⟩
set_option maxHeartbeats 1000000 in
theorem remHas_any (A : Option Addr) (n cap : Nat) (ds : List Dv) (w : World) (hD : Hid (Devs w.heap.size w (.slice A n cap) ds)) :
    Calls Try.prog 21 #[.slice A n cap, .func (.func 22) #[] #[]] w fun e w' => e = .returned (.bool (ds.any (fun d => remB d.kind))) ∧ Below w.heap.size w w' := by
  have IX : Hid (Calls Try.prog 43 #[.slice A n cap, .func (.func 22) #[] #[]] w fun e w' => ∃ j : Int, e = .returned (.int .i64 j) ∧ Hid (decide (0 ≤ j) = ds.any (fun d => remB d.kind)) ∧ Below w.heap.size w w') := remIdx_any A n cap ds w hD
  clear hD
  generalize ds.any (fun d => remB d.kind) = x at *
  go_enter Try.func21, Try.ntmps21
  go_wp2_with fail
  refine IX.out.mono ?_
  rintro e w2 ⟨j, rfl, hj, hb2⟩
  clear IX
  go_wp2_with fail
  go_ret
  exact ⟨by rw [hj.out]; rfl, hb2⟩
/-- What ring.Check tells. -/
def ringV (ds : List Dv) (ls : List Lk) : Int := if netV ds ls = 0 then (if ds.any (fun d => remB d.kind) then 1 else 0) else netV ds ls
theorem ringV_zero {ds : List Dv} {ls : List Lk} (h : ringV ds ls = 0) : netV ds ls = 0 ∧ ∀ d ∈ ds, d.kind = 1 ∨ d.kind = 2 := by
  unfold ringV at h
  split at h
  · rename_i hz
    refine ⟨hz, fun d hd => ?_⟩
    split at h
    · cases h
    · rename_i hn
      by_cases h1 : d.kind = 1
      · exact Or.inl h1
      by_cases h2 : d.kind = 2
      · exact Or.inr h2
      refine absurd (List.any_eq_true.2 ⟨d, hd, ?_⟩) hn
      unfold remB
      simp [h1, h2]
  · rename_i hz
    exact absurd h hz
set_option maxHeartbeats 2000000 in
theorem ringCheck_any (A B : Option Addr) (cap cap' : Nat) (ds : List Dv) (ls : List Lk) (w : World) (hD : Hid (Devs w.heap.size w (.slice A ds.length cap) ds)) (hL : Hid (Links w.heap.size w (.slice B ls.length cap') ls)) :
    Calls Try.prog 12 #[.agg #[.slice A ds.length cap, .slice B ls.length cap']] w fun e w' => e = .returned (.int .i64 (ringV ds ls)) ∧ Below w.heap.size w w' := by
  have D0 := Below.alN (Below.refl w.heap.size w) (.cells #[.slice A ds.length cap, .slice B ls.length cap'] 25)
  have B0 := box2_new w (.slice A ds.length cap) (.slice B ls.length cap') 25
  have CK : Hid (∀ W, Below w.heap.size w W → Calls Try.prog 16 #[.agg #[.slice A ds.length cap, .slice B ls.length cap']] W fun e w' => e = .returned (.int .i64 (netV ds ls)) ∧ Below W.heap.size W w') := fun W h => net_any _ _ ds ls W ((hD.out.below h).mono h.size) ((hL.out.below h).mono h.size)
  have RH : Hid (∀ W, Below w.heap.size w W → Calls Try.prog 21 #[.slice A ds.length cap, .func (.func 22) #[] #[]] W fun e w' => e = .returned (.bool (ds.any (fun d => remB d.kind))) ∧ Below W.heap.size W w') := fun W h => remHas_any A _ cap ds W ((hD.out.below h).mono h.size)
  have HV : Hid (ringV ds ls = if netV ds ls = 0 then (if ds.any (fun d => remB d.kind) then 1 else 0) else netV ds ls) := rfl
  generalize ringV ds ls = rv at *
  generalize netV ds ls = nv at *
  generalize ds.any (fun d => remB d.kind) = x at *
  clear hD hL
  obtain ⟨_, q0, q1, _⟩ := id B0
  go_enter Try.func12, Try.ntmps12
  go_wp2_with fail
  refine (CK.out _ D0).mono ?_
  rintro e w1 ⟨rfl, hb1⟩
  have D1 := chnN hb1 D0
  have B1 : Box2 w1 w.heap.size (.slice A ds.length cap) (.slice B ls.length cap') := B0.below hb1 B0.1
  clear hb1 B0 D0 q0 q1 CK
  obtain ⟨_, q0, q1, _⟩ := id B1
  by_cases hn : nv = 0
  · have hv := HV.out
    rw [if_pos hn] at hv
    have HV2 : Hid (rv = if x = true then 1 else 0) := hv
    clear HV hv
    subst hn
    go_wp2_with fail
    refine (RH.out _ D1).mono ?_
    rintro e w2 ⟨rfl, hb2⟩
    have D2 := chnN hb2 D1
    clear hb2 B1 D1 q0 q1 RH
    cases x
    · go_wp2_with fail
      go_ret
      exact ⟨by rw [HV2.out]; rfl, D2⟩
    · go_wp2_with fail
      go_ret
      exact ⟨by rw [HV2.out]; rfl, D2⟩
  · have hz1 : (nv == 0) = false := by simpa using hn
    have hv := HV.out
    rw [if_neg hn] at hv
    have HV2 : Hid (rv = nv) := hv
    clear HV hv
    have HNZ : Hid (¬ nv = 0) := hn
    clear hn
    go_wp2_with fail
    all_goals first | exact absurd (by assumption) HNZ.out | skip
    all_goals
      go_ret
      exact ⟨by rw [HV2.out]; first | rfl | simp, D1⟩
end Go.Proofs.Ythioedgnambomaa
