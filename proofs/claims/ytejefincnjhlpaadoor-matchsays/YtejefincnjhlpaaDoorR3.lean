/-
  The document's answer: ReadMatch.
-/
import Derived.Test.YtejefincnjhlpaaDoorR2
import Derived.Test.YtejefincnjhlpaaDoorM7p
namespace Go.Proofs.YtejefincnjhlpaaDoor
open Go.RowKit

theorem Texts.four {w : World} {g : Nat} {p q r t : ByteArray} (h : Texts w g [p, q, r, t]) : w.cell? ⟨g, 0, none⟩ = some (.string p) ∧ w.cell? ⟨g, 1, none⟩ = some (.string q) ∧ w.cell? ⟨g, 2, none⟩ = some (.string r) ∧ w.cell? ⟨g, 3, none⟩ = some (.string t) :=
  ⟨h.2 0 p rfl, h.2 1 q rfl, h.2 2 r rfl, h.2 3 t rfl⟩
theorem Texts.drew {w : World} {g : Nat} {xs : List ByteArray} (h : Texts w g xs) : Texts w.drew g xs := h
theorem FourU.drew {w : World} {n : Nat} {a b c d : Value} (h : FourU w n a b c d) : FourU w.drew n a b c d := h

set_option maxHeartbeats 1000000 in
theorem rread_large (s : ByteArray) (w : World) (h : 300 < s.size) (hm : s.size ≤ maxLen) :
    Calls Tryd.prog 18 #[.string s] w fun e w' => e = .returned (matV ((0, 0, 0, 0), 2)) ∧ Below w.heap.size w w' := by
  unfold maxLen at hm
  have D0 := Below.alloc' (Below.refl w.heap.size w) (.cells #[.int .u16 0, .int .u16 0, .int .u8 0, .int .u8 0] 41)
  go_enter Tryd.func18, Tryd.ntmps18
  go_wp2_with fail
  exact bodyPost_ret (v := .tuple #[mt 0 0 0 0, .int .i64 2]) (by simp [results, Tryd.results18, go_sem]) rfl ⟨rfl, D0⟩

set_option maxHeartbeats 1000000 in
theorem rread_few (s : ByteArray) (w : World) (hs : s.size ≤ 300) (n : Nat) (hn : n ≠ 4)
    (SP : Hid (∀ w, Calls Tryd.prog 29 #[.string s, .int .u8 32] w fun e w' => ∃ g cap, e = .returned (.slice (some ⟨g, 0, none⟩) n cap) ∧ Below w.heap.size w w')) :
    Calls Tryd.prog 18 #[.string s] w fun e w' => e = .returned (matV ((0, 0, 0, 0), 3)) ∧ Below w.heap.size w w' := by
  have t : ((n : Int) != 4) = true := by simp; omega
  have B0 := fourU_new w (.int .u16 0) (.int .u16 0) (.int .u8 0) (.int .u8 0) 41
  have D0 := Below.alloc' (Below.refl w.heap.size w) (.cells #[.int .u16 0, .int .u16 0, .int .u8 0, .int .u8 0] 41)
  go_enter Tryd.func18, Tryd.ntmps18
  go_wp2_with fail
  refine (SP.out _).mono ?_
  rintro e w1 ⟨g, cap, rfl, hb⟩
  have B1 := keepFourU hb B0
  have D1 := chain hb D0
  clear B0 D0 hb
  obtain ⟨⟨l0, c0, c1, c2, c3⟩, f0, f1, f2, f3⟩ := B1
  go_wp2_with fail
  exact bodyPost_ret (v := .tuple #[mt 0 0 0 0, .int .i64 3]) (by simp [results, Tryd.results18, go_sem, c0, c1, c2, c3]) rfl ⟨rfl, below_set4 D1 (Nat.le_refl _) _ _ _ _⟩

theorem optV_neg (z : Nat) : decide (optV (some z) < 0) = false := decide_eq_false (by show ¬ ((z : Int) < 0); omega)

set_option maxHeartbeats 4000000 in
set_option maxRecDepth 100000 in
theorem rread_four (s : ByteArray) (w : World) (hs : s.size ≤ 300) (p q r t : ByteArray) (o1 o2 o3 o4 : Option Nat)
    (b1 : ∀ z, o1 = some z → z < 65536) (b2 : ∀ z, o2 = some z → z < 256) (b3 : ∀ z, o3 = some z → z < 65536) (b4 : ∀ z, o4 = some z → z < 256)
    (SP : Hid (∀ w, Calls Tryd.prog 29 #[.string s, .int .u8 32] w fun e w' => ∃ g cap, e = .returned (.slice (some ⟨g, 0, none⟩) 4 cap) ∧ 4 ≤ cap ∧ Texts w' g [p, q, r, t] ∧ Below w.heap.size w w'))
    (h1 : Hid (∀ w, Calls Tryd.prog 35 #[.string p, .int .i64 16] w fun e w' => e = .returned (.int .i64 (optV o1)) ∧ Below w.heap.size w w'))
    (h2 : Hid (∀ w, Calls Tryd.prog 35 #[.string q, .int .i64 8] w fun e w' => e = .returned (.int .i64 (optV o2)) ∧ Below w.heap.size w w'))
    (h3 : Hid (∀ w, Calls Tryd.prog 35 #[.string r, .int .i64 16] w fun e w' => e = .returned (.int .i64 (optV o3)) ∧ Below w.heap.size w w'))
    (h4 : Hid (∀ w, Calls Tryd.prog 35 #[.string t, .int .i64 8] w fun e w' => e = .returned (.int .i64 (optV o4)) ∧ Below w.heap.size w w')) :
    Calls Tryd.prog 18 #[.string s] w fun e w' => e = .returned (matV (four4 o1 o2 o3 o4)) ∧ Below w.heap.size w w' := by
  have B0 := fourU_new w (.int .u16 0) (.int .u16 0) (.int .u8 0) (.int .u8 0) 41
  have D0 := Below.alloc' (Below.refl w.heap.size w) (.cells #[.int .u16 0, .int .u16 0, .int .u8 0, .int .u8 0] 41)
  go_enter Tryd.func18, Tryd.ntmps18
  go_wp2_with fail
  refine (SP.out _).mono ?_
  rintro e w1 ⟨g, cap, rfl, hcap, T1, hb⟩
  have B1 := (keepFourU hb B0).drew
  have D1 := (chain hb D0).drew
  have T1d := T1.drew
  clear B0 D0 hb SP T1
  go_wp2_with fail
  go_region_held3 (fun w' => w'.cell? ⟨g, 0, none⟩ = some (.string p) ∧ w'.cell? ⟨g, 1, none⟩ = some (.string q) ∧ w'.cell? ⟨g, 2, none⟩ = some (.string r) ∧ w'.cell? ⟨g, 3, none⟩ = some (.string t)) (exact Texts.four (by assumption))
    (first
      | (go_at_call_of 35 (Value.string p); refine (h1.out _).mono ?_; rintro e wz ⟨rfl, hbz⟩; have Dz := chain hbz (by assumption); have Tz := keepTexts hbz (by assumption); have Fz := keepFourU hbz (by assumption); clear hbz)
      | (go_at_call_of 35 (Value.string q); refine (h2.out _).mono ?_; rintro e wz ⟨rfl, hbz⟩; have Dz := chain hbz (by assumption); have Tz := keepTexts hbz (by assumption); have Fz := keepFourU hbz (by assumption); clear hbz)
      | (go_at_call_of 35 (Value.string r); refine (h3.out _).mono ?_; rintro e wz ⟨rfl, hbz⟩; have Dz := chain hbz (by assumption); have Tz := keepTexts hbz (by assumption); have Fz := keepFourU hbz (by assumption); clear hbz)
      | (go_at_call_of 35 (Value.string t); refine (h4.out _).mono ?_; rintro e wz ⟨rfl, hbz⟩; have Dz := chain hbz (by assumption); have Tz := keepTexts hbz (by assumption); have Fz := keepFourU hbz (by assumption); clear hbz))
  obtain ⟨⟨l0, c0, c1, c2, c3⟩, f0, f1, f2, f3⟩ := Fz
  clear h1 h2 h3 h4
  rcases o1 with _ | z1
  · have t0 : decide (optV none < 0) = true := by decide
    go_wp2_with fail
    exact bodyPost_ret (v := .tuple #[mt 0 0 0 0, .int .i64 3]) (by simp [results, Tryd.results18, go_sem, c0, c1, c2, c3]) rfl ⟨rfl, below_set4 Dz (Nat.le_refl _) _ _ _ _⟩
  have t1 := optV_neg z1
  rcases o2 with _ | z2
  · have t0 : decide (optV none < 0) = true := by decide
    go_wp2_with fail
    exact bodyPost_ret (v := .tuple #[mt 0 0 0 0, .int .i64 3]) (by simp [results, Tryd.results18, go_sem, c0, c1, c2, c3]) rfl ⟨rfl, below_set4 Dz (Nat.le_refl _) _ _ _ _⟩
  have t2 := optV_neg z2
  rcases o3 with _ | z3
  · have t0 : decide (optV none < 0) = true := by decide
    go_wp2_with fail
    exact bodyPost_ret (v := .tuple #[mt 0 0 0 0, .int .i64 3]) (by simp [results, Tryd.results18, go_sem, c0, c1, c2, c3]) rfl ⟨rfl, below_set4 Dz (Nat.le_refl _) _ _ _ _⟩
  have t3 := optV_neg z3
  rcases o4 with _ | z4
  · have t0 : decide (optV none < 0) = true := by decide
    go_wp2_with fail
    exact bodyPost_ret (v := .tuple #[mt 0 0 0 0, .int .i64 3]) (by simp [results, Tryd.results18, go_sem, c0, c1, c2, c3]) rfl ⟨rfl, below_set4 Dz (Nat.le_refl _) _ _ _ _⟩
  have t4 := optV_neg z4
  have g1 : optV (some z1) < 65536 := by have := b1 z1 rfl; simp only [optV]; omega
  have g2 : optV (some z2) < 256 := by have := b2 z2 rfl; simp only [optV]; omega
  have g3 : optV (some z3) < 65536 := by have := b3 z3 rfl; simp only [optV]; omega
  have g4 : optV (some z4) < 256 := by have := b4 z4 rfl; simp only [optV]; omega
  have k1 : 0 ≤ optV (some z1) := by simp only [optV]; omega
  have k2 : 0 ≤ optV (some z2) := by simp only [optV]; omega
  have k3 : 0 ≤ optV (some z3) := by simp only [optV]; omega
  have k4 : 0 ≤ optV (some z4) := by simp only [optV]; omega
  clear b1 b2 b3 b4
  go_wp2_with fail
  exact bodyPost_ret (v := .tuple #[mt z1 z3 z2 z4, .int .i64 0]) (by simp [results, Tryd.results18, go_sem, c0, c1, c2, c3]; exact ⟨rfl, rfl, rfl, rfl⟩) rfl ⟨rfl, below_set4 Dz (Nat.le_refl _) _ _ _ _⟩

theorem rread_any (s : ByteArray) (w : World) (hm : s.size ≤ maxLen) :
    Calls Tryd.prog 18 #[.string s] w fun e w' => e = .returned (matV (Mt.matP s.data.toList)) ∧ Below w.heap.size w w' := by
  have hl : s.data.toList.length = s.size := (Lib.size_eq s).symm
  unfold Mt.matP
  by_cases h : 300 < s.size
  · rw [if_pos (by omega)]
    exact rread_large s w h hm
  · rw [if_neg (by omega)]
    have hL1 := Pk.pieces_len 32 s.data.toList
    have hcl := List.count_le_length (a := (32 : UInt8)) (l := s.data.toList)
    have SF : ∀ w, Calls Tryd.prog 29 #[.string s, .int .u8 32] w fun e w' => ∃ g cap, e = .returned (.slice (some ⟨g, 0, none⟩) (Mt.spl 32 s.data.toList).length cap) ∧ (Mt.spl 32 s.data.toList).length ≤ cap ∧ Texts w' g (txts (Mt.spl 32 s.data.toList)) ∧ Below w.heap.size w w' := fun w => by
      refine (pieces_any s 32 w (by omega)).mono fun e w' ⟨v, he, ho, hb⟩ => ?_
      rw [Mt.pieces_spl] at ho hL1
      obtain ⟨m, hmm⟩ : ∃ m, (Mt.spl 32 s.data.toList).length = m + 1 := ⟨(Mt.spl 32 s.data.toList).length - 1, by omega⟩
      have ho' := ho
      rw [hmm] at ho'
      obtain ⟨g, cap, rfl, hg, hcap⟩ := own_shape ho'
      rw [← hmm] at ho'
      refine ⟨g, cap, by rw [he, hmm], by omega, ⟨own_lt ho', fun j x hx => ?_⟩, hb⟩
      unfold txts at hx
      rw [List.getElem?_map] at hx
      cases hq : (Mt.spl 32 s.data.toList)[j]? with
      | none => rw [hq] at hx; cases hx
      | some y =>
        rw [hq] at hx
        simp only [Option.map_some, Option.some.injEq] at hx
        rw [← hx]
        exact own_cell ho' rfl hq
    rw [Mt.pieces_spl] at hL1
    have hsl := spl_len 32 s.data.toList
    generalize Mt.spl 32 s.data.toList = L at *
    have FEW : L.length ≠ 4 → Calls Tryd.prog 18 #[.string s] w fun e w' => e = .returned (matV ((0, 0, 0, 0), 3)) ∧ Below w.heap.size w w' := fun hne =>
      rread_few s w (by omega) L.length hne (fun w => (SF w).mono fun e w' ⟨g, cap, h1, _, _, h2⟩ => ⟨g, cap, h1, h2⟩)
    match L, SF, hsl, FEW with
    | [p, q, r, t], SF, hsl, _ =>
      have sz : ∀ x : List UInt8, x.length ≤ s.data.toList.length → (⟨x.toArray⟩ : ByteArray).size ≤ 300 := fun x hx => by
        rw [Lib.size_eq]; simp; omega
      have hp := sz p (hsl p (by simp))
      have hq := sz q (hsl q (by simp))
      have hr := sz r (hsl r (by simp))
      have ht := sz t (hsl t (by simp))
      have H := rread_four s w (by omega) ⟨p.toArray⟩ ⟨q.toArray⟩ ⟨r.toArray⟩ ⟨t.toArray⟩ (Mt.setP 16 p) (Mt.setP 8 q) (Mt.setP 16 r) (Mt.setP 8 t) (fun z hz => Mt.setP_lt 16 _ z hz) (fun z hz => Mt.setP_lt 8 _ z hz) (fun z hz => Mt.setP_lt 16 _ z hz) (fun z hz => Mt.setP_lt 8 _ z hz) (fun w => SF w)
        (fun w => readRows_any ⟨p.toArray⟩ 16 w (Or.inl rfl) hp) (fun w => readRows_any ⟨q.toArray⟩ 8 w (Or.inr rfl) hq)
        (fun w => readRows_any ⟨r.toArray⟩ 16 w (Or.inl rfl) hr) (fun w => readRows_any ⟨t.toArray⟩ 8 w (Or.inr rfl) ht)
      simp only []
      generalize Mt.setP 16 p = o1 at H ⊢
      generalize Mt.setP 8 q = o2 at H ⊢
      generalize Mt.setP 16 r = o3 at H ⊢
      generalize Mt.setP 8 t = o4 at H ⊢
      cases o1 <;> cases o2 <;> cases o3 <;> cases o4 <;> exact H
    | [], _, _, F => exact F (by simp)
    | [_], _, _, F => exact F (by simp)
    | [_, _], _, _, F => exact F (by simp)
    | [_, _, _], _, _, F => exact F (by simp)
    | _ :: _ :: _ :: _ :: _ :: _, _, _, F => exact F (by simp)
end Go.Proofs.YtejefincnjhlpaaDoor
