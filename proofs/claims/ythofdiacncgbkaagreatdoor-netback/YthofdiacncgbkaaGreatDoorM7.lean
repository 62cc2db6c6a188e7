/-
  Parse of any text; MatchBack: it returns true, whatever is handed in.
-/
import Derived.Test.YthofdiacncgbkaaGreatDoorM6
namespace Go.Proofs.YthofdiacncgbkaaGreatDoor
open Go.RowKit

/-- The pieces, as texts. -/
def txts (l : List (List UInt8)) : List ByteArray := l.map fun p => ⟨p.toArray⟩
theorem txts_of (xs : List ByteArray) (l : List (List UInt8)) (h : xs.map (·.data.toList) = l) : xs = txts l := by
  subst h
  unfold txts
  rw [List.map_map]
  have : ((fun p : List UInt8 => (⟨p.toArray⟩ : ByteArray)) ∘ fun x : ByteArray => x.data.toList) = id := by
    funext x; cases x; simp
  rw [this, List.map_id]
theorem split_fix (s : ByteArray) (c : UInt8) (w : World) (hs : s.size ≤ 300) :
    Calls Tryz.prog 29 #[.string s, .string ⟨#[c]⟩] w fun e w' => e = .returned (.slice (some ⟨w.heap.size, 0, none⟩) (txts (Mt.spl c s.data.toList)).length (txts (Mt.spl c s.data.toList)).length) ∧ w' = w.alloc (.cells ((txts (Mt.spl c s.data.toList)).map Value.string).toArray 9) := by
  refine (split_one s c w hs).mono fun e w' ⟨xs, hx, _, he, hw⟩ => ?_
  rw [← txts_of xs _ hx.out]
  exact ⟨he, hw⟩

theorem parse_any (s : ByteArray) (w : World) (hm : s.size ≤ maxLen) :
    Calls Tryz.prog 60 #[.string s] w fun e w' => e = .returned (matV (Mt.matP s.data.toList)) ∧ Below w.heap.size w w' := by
  have hl : s.data.toList.length = s.size := (Lib.size_eq s).symm
  unfold Mt.matP
  by_cases h : 300 < s.size
  · rw [if_pos (by omega)]
    exact parse_large s w h hm
  · rw [if_neg (by omega)]
    have SF := fun w => split_fix s 32 w (by omega)
    have hsl := spl_len 32 s.data.toList
    generalize Mt.spl 32 s.data.toList = L at *
    match L, SF, hsl with
    | [p, q, r, t], SF, hsl =>
      have hp := hsl p (by simp)
      have hq := hsl q (by simp)
      have hr := hsl r (by simp)
      have ht := hsl t (by simp)
      have sz : ∀ x : List UInt8, x.length ≤ s.data.toList.length → (⟨x.toArray⟩ : ByteArray).size ≤ 300 := fun x hx => by
        rw [Lib.size_eq]; simp; omega
      have H := parse_four s w (by omega) ⟨p.toArray⟩ ⟨q.toArray⟩ ⟨r.toArray⟩ ⟨t.toArray⟩ (Mt.setP 16 p) (Mt.setP 8 q) (Mt.setP 16 r) (Mt.setP 8 t) (fun z hz => Mt.setP_lt 16 _ z hz) (fun z hz => Mt.setP_lt 8 _ z hz) (fun z hz => Mt.setP_lt 16 _ z hz) (fun z hz => Mt.setP_lt 8 _ z hz) (fun w => SF w)
        (fun w => by rw [← setV_eq]; exact parseSet_any ⟨p.toArray⟩ 16 w (Or.inl rfl) (sz p hp)) (fun w => by rw [← setV_eq]; exact parseSet_any ⟨q.toArray⟩ 8 w (Or.inr rfl) (sz q hq))
        (fun w => by rw [← setV_eq]; exact parseSet_any ⟨r.toArray⟩ 16 w (Or.inl rfl) (sz r hr)) (fun w => by rw [← setV_eq]; exact parseSet_any ⟨t.toArray⟩ 8 w (Or.inr rfl) (sz t ht))
      simp only []
      generalize Mt.setP 16 p = o1 at H ⊢
      generalize Mt.setP 8 q = o2 at H ⊢
      generalize Mt.setP 16 r = o3 at H ⊢
      generalize Mt.setP 8 t = o4 at H ⊢
      cases o1 <;> cases o2 <;> cases o3 <;> cases o4 <;> exact H
    | [], SF, _ => exact parse_few s w (by omega) (txts []) (by simp [txts]) (fun w => SF w)
    | [_], SF, _ => exact parse_few s w (by omega) (txts [_]) (by simp [txts]) (fun w => SF w)
    | [_, _], SF, _ => exact parse_few s w (by omega) (txts [_, _]) (by simp [txts]) (fun w => SF w)
    | [_, _, _], SF, _ => exact parse_few s w (by omega) (txts [_, _, _]) (by simp [txts]) (fun w => SF w)
    | _ :: _ :: _ :: _ :: _ :: _, SF, _ => exact parse_few s w (by omega) (txts (_ :: _ :: _ :: _ :: _ :: _)) (by simp [txts]) (fun w => SF w)

end Go.Proofs.YthofdiacncgbkaaGreatDoor


