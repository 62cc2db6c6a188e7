/-
  Parse of any text; MatchBack: it returns true, whatever is handed in.
-/
import Derived.Test.YtejefincnjhlpadDoorM6
namespace Go.Proofs.YtejefincnjhlpadDoor
open Go.RowKit

/-- The pieces, as texts. -/
def txts (l : List (List UInt8)) : List ByteArray := l.map fun p => ⟨p.toArray⟩
theorem txts_of (xs : List ByteArray) (l : List (List UInt8)) (h : xs.map (·.data.toList) = l) : xs = txts l := by
  subst h
  unfold txts
  rw [List.map_map]
  have : ((fun p : List UInt8 => (⟨p.toArray⟩ : ByteArray)) ∘ fun x : ByteArray => x.data.toList) = id := by
    funext x; cases x; simp
  rw [this, List.map_id]
theorem split_fix (s : ByteArray) (c : UInt8) (w : World) (hs : s.size ≤ 300) :
    Calls Tryd.prog 10 #[.string s, .string ⟨#[c]⟩] w fun e w' => e = .returned (.slice (some ⟨w.heap.size, 0, none⟩) (txts (Mt.spl c s.data.toList)).length (txts (Mt.spl c s.data.toList)).length) ∧ w' = w.alloc (.cells ((txts (Mt.spl c s.data.toList)).map Value.string).toArray 9) := by
  refine (split_one s c w hs).mono fun e w' ⟨xs, hx, _, he, hw⟩ => ?_
  rw [← txts_of xs _ hx.out]
  exact ⟨he, hw⟩

theorem parse_any (s : ByteArray) (w : World) (hm : s.size ≤ maxLen) :
    Calls Tryd.prog 5 #[.string s] w fun e w' => e = .returned (matV (Mt.matP s.data.toList)) ∧ Below w.heap.size w w' := by
  have hl : s.data.toList.length = s.size := (Lib.size_eq s).symm
  unfold Mt.matP
  by_cases h : 300 < s.size
  · rw [if_pos (by omega)]
    exact parse_large s w h hm
  · rw [if_neg (by omega)]
    have SF := fun w => split_fix s 32 w (by omega)
    have hsl := spl_len 32 s.data.toList
    generalize Mt.spl 32 s.data.toList = L at *
    match L, SF, hsl with
    | [p, q, r, t], SF, hsl =>
      have hp := hsl p (by simp)
      have hq := hsl q (by simp)
      have hr := hsl r (by simp)
      have ht := hsl t (by simp)
      have sz : ∀ x : List UInt8, x.length ≤ s.data.toList.length → (⟨x.toArray⟩ : ByteArray).size ≤ 300 := fun x hx => by
        rw [Lib.size_eq]; simp; omega
      have H := parse_four s w (by omega) ⟨p.toArray⟩ ⟨q.toArray⟩ ⟨r.toArray⟩ ⟨t.toArray⟩ (Mt.setP 16 p) (Mt.setP 8 q) (Mt.setP 16 r) (Mt.setP 8 t) (fun z hz => Mt.setP_lt 16 _ z hz) (fun z hz => Mt.setP_lt 8 _ z hz) (fun z hz => Mt.setP_lt 16 _ z hz) (fun z hz => Mt.setP_lt 8 _ z hz) (fun w => SF w)
        (fun w => by rw [← setV_eq]; exact parseSet_any ⟨p.toArray⟩ 16 w (Or.inl rfl) (sz p hp)) (fun w => by rw [← setV_eq]; exact parseSet_any ⟨q.toArray⟩ 8 w (Or.inr rfl) (sz q hq))
        (fun w => by rw [← setV_eq]; exact parseSet_any ⟨r.toArray⟩ 16 w (Or.inl rfl) (sz r hr)) (fun w => by rw [← setV_eq]; exact parseSet_any ⟨t.toArray⟩ 8 w (Or.inr rfl) (sz t ht))
      simp only []
      generalize Mt.setP 16 p = o1 at H ⊢
      generalize Mt.setP 8 q = o2 at H ⊢
      generalize Mt.setP 16 r = o3 at H ⊢
      generalize Mt.setP 8 t = o4 at H ⊢
      cases o1 <;> cases o2 <;> cases o3 <;> cases o4 <;> exact H
    | [], SF, _ => exact parse_few s w (by omega) (txts []) (by simp [txts]) (fun w => SF w)
    | [_], SF, _ => exact parse_few s w (by omega) (txts [_]) (by simp [txts]) (fun w => SF w)
    | [_, _], SF, _ => exact parse_few s w (by omega) (txts [_, _]) (by simp [txts]) (fun w => SF w)
    | [_, _, _], SF, _ => exact parse_few s w (by omega) (txts [_, _, _]) (by simp [txts]) (fun w => SF w)
    | _ :: _ :: _ :: _ :: _ :: _, SF, _ => exact parse_few s w (by omega) (txts (_ :: _ :: _ :: _ :: _ :: _)) (by simp [txts]) (fun w => SF w)

set_option maxHeartbeats 4000000 in
set_option maxRecDepth 100000 in
theorem back_case (a b c d x0 x1 x2 x3 er : Nat) (s t u : ByteArray) (w : World)
    (K0 : Hid (∀ w, Calls Tryd.prog 4 #[mt 14 1 255 0] w fun e w' => e = .returned (.string ⟨#[49, 45, 51, 32, 42, 32, 48, 32, 45]⟩) ∧ Below w.heap.size w w'))
    (K1 : Hid (∀ w, Calls Tryd.prog 4 #[mt a b c d] w fun e w' => e = .returned (.string t) ∧ Below w.heap.size w w'))
    (K2 : Hid (∀ w, Calls Tryd.prog 5 #[.string t] w fun e w' => e = .returned (.tuple #[mt a b c d, .int .i64 0]) ∧ Below w.heap.size w w'))
    (K3 : Hid (∀ w, Calls Tryd.prog 5 #[.string s] w fun e w' => e = .returned (.tuple #[mt x0 x1 x2 x3, .int .i64 (er : Int)]) ∧ Below w.heap.size w w'))
    (K4 : Hid (∀ w, Calls Tryd.prog 4 #[mt x0 x1 x2 x3] w fun e w' => e = .returned (.string u) ∧ Below w.heap.size w w'))
    (K5 : Hid (∀ w, Calls Tryd.prog 5 #[.string u] w fun e w' => e = .returned (.tuple #[mt x0 x1 x2 x3, .int .i64 0]) ∧ Below w.heap.size w w')) :
    Calls Tryd.prog 3 #[mt a b c d, .string s] w fun e w' => e = .returned (.bool true) ∧ Below w.heap.size w w' := by
  have F0 := four_new w (.int .u16 (a : Int)) (.int .u16 (b : Int)) (.int .u8 (c : Int)) (.int .u8 (d : Int)) 24
  have D0 := Below.alloc' (Below.refl w.heap.size w) (.cells #[.int .u16 (a : Int), .int .u16 (b : Int), .int .u8 (c : Int), .int .u8 (d : Int)] 24)
  go_enter Tryd.func3, Tryd.ntmps3
  go_wp2_with fail
  refine (K0.out _).mono ?_
  rintro e w1 ⟨rfl, hb1⟩
  have F1 := keepFour hb1 F0
  have D1 := chain hb1 D0
  clear F0 D0 hb1 K0
  obtain ⟨l1, c0, c1, c2, c3⟩ := id F1
  go_wp2_with fail
  refine (K1.out _).mono ?_
  rintro e w2 ⟨rfl, hb2⟩
  have F2 := keepFour hb2 F1
  have D2 := chain hb2 D1
  clear F1 D1 hb2 K1 l1 c0 c1 c2 c3
  go_wp2_with fail
  refine (K2.out _).mono ?_
  rintro e w3 ⟨rfl, hb3⟩
  have F3 := allocFour (keepFour hb3 F2) (.cells #[.int .u16 (a : Int), .int .u16 (b : Int), .int .u8 (c : Int), .int .u8 (d : Int)] 24)
  have G3 := four_new w3 (.int .u16 (a : Int)) (.int .u16 (b : Int)) (.int .u8 (c : Int)) (.int .u8 (d : Int)) 24
  have D3 := Below.alloc' (chain hb3 D2) (.cells #[.int .u16 (a : Int), .int .u16 (b : Int), .int .u8 (c : Int), .int .u8 (d : Int)] 24)
  clear F2 D2 hb3 K2
  obtain ⟨l1, c0, c1, c2, c3⟩ := id F3
  obtain ⟨l2, d0, d1, d2, d3⟩ := id G3
  go_wp2_with fail
  refine (K3.out _).mono ?_
  rintro e w4 ⟨rfl, hb4⟩
  have F4 := four_new w4 (.int .u16 (x0 : Int)) (.int .u16 (x1 : Int)) (.int .u8 (x2 : Int)) (.int .u8 (x3 : Int)) 24
  have D4 := Below.alloc' (chain hb4 D3) (.cells #[.int .u16 (x0 : Int), .int .u16 (x1 : Int), .int .u8 (x2 : Int), .int .u8 (x3 : Int)] 24)
  clear F3 G3 D3 hb4 K3 l1 c0 c1 c2 c3 l2 d0 d1 d2 d3
  obtain ⟨l1, c0, c1, c2, c3⟩ := id F4
  go_wp2_with fail
  refine (K4.out _).mono ?_
  rintro e w5 ⟨rfl, hb5⟩
  have F5 := keepFour hb5 F4
  have D5 := chain hb5 D4
  clear F4 D4 hb5 K4 l1 c0 c1 c2 c3
  go_wp2_with fail
  refine (K5.out _).mono ?_
  rintro e w6 ⟨rfl, hb6⟩
  have F6 := allocFour (keepFour hb6 F5) (.cells #[.int .u16 (x0 : Int), .int .u16 (x1 : Int), .int .u8 (x2 : Int), .int .u8 (x3 : Int)] 24)
  have G6 := four_new w6 (.int .u16 (x0 : Int)) (.int .u16 (x1 : Int)) (.int .u8 (x2 : Int)) (.int .u8 (x3 : Int)) 24
  have D6 := Below.alloc' (chain hb6 D5) (.cells #[.int .u16 (x0 : Int), .int .u16 (x1 : Int), .int .u8 (x2 : Int), .int .u8 (x3 : Int)] 24)
  clear F5 D5 hb6 K5
  obtain ⟨l1, c0, c1, c2, c3⟩ := id F6
  obtain ⟨l2, d0, d1, d2, d3⟩ := id G6
  clear F6 G6
  by_cases her : er = 0
  · subst her
    go_wp2_with fail
    go_ret
    exact ⟨by simp, D6⟩
  · have t0 : ((er : Int) != 0) = true := by simp; omega
    go_wp2_with fail
    go_ret
    exact ⟨by simp, D6⟩

theorem back_any (a b c d : Nat) (s : ByteArray) (w : World) (ha : a < 2 ^ 16) (hb : b < 2 ^ 16) (hc : c < 2 ^ 8) (hd : d < 2 ^ 8) (hm : s.size ≤ maxLen) :
    Calls Tryd.prog 3 #[mt a b c d, .string s] w fun e w' => e = .returned (.bool true) ∧ Below w.heap.size w w' := by
  have rt : ∀ (a b c d : Nat), a < 2 ^ 16 → b < 2 ^ 16 → c < 2 ^ 8 → d < 2 ^ 8 → ∀ w, Calls Tryd.prog 5 #[.string ⟨(Mt.matT a b c d).toArray⟩] w fun e w' => e = .returned (.tuple #[mt a b c d, .int .i64 0]) ∧ Below w.heap.size w w' := fun a b c d ha hb hc hd w => by
    have hl := Mt.matT_len a b c d
    have := parse_any ⟨(Mt.matT a b c d).toArray⟩ w (by rw [Lib.size_eq]; unfold maxLen; simp; omega)
    simp only [Mt.matP_matT a b c d ha hb hc hd] at this
    exact this
  obtain ⟨h0, h1, h2, h3⟩ := Mt.matP_lt s.data.toList
  refine back_case a b c d (Mt.matP s.data.toList).1.1 (Mt.matP s.data.toList).1.2.1 (Mt.matP s.data.toList).1.2.2.1 (Mt.matP s.data.toList).1.2.2.2 (Mt.matP s.data.toList).2 s ⟨(Mt.matT a b c d).toArray⟩ ⟨(Mt.matT _ _ _ _).toArray⟩ w
    (fun w => ?_) (fun w => print_match a b c d w ha hb hc hd) (fun w => rt a b c d ha hb hc hd w) (fun w => parse_any s w hm) (fun w => print_match _ _ _ _ w h0 h1 h2 h3) (fun w => rt _ _ _ _ h0 h1 h2 h3 w)
  have := print_match 14 1 255 0 w (by decide) (by decide) (by decide) (by decide)
  rw [show (Mt.matT 14 1 255 0) = [49, 45, 51, 32, 42, 32, 48, 32, 45] by decide] at this
  exact this
end Go.Proofs.YtejefincnjhlpadDoor
