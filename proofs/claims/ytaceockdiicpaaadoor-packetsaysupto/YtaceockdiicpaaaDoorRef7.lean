/-
  ReadPacket of the document's answer tells what 'pkt' tells, for every text of at most 2097152 bytes.
-/
import Derived.Test.YtaceockdiicpaaaDoorRef6
import Derived.Test.YtaceockdiicpaaaDoorPlain3
namespace Go.Proofs.YtaceockdiicpaaaDoor
open Go.RowKit

theorem ends_two (l a b : List UInt8) (hp : Pk.pieces 58 l = [a, b]) (hm : l.length ≤ 2097152) : Ends ⟨l.toArray⟩ (fun w g n => n = 2 ∧ Two w g a b) := by
  constructor
  · intro w
    refine (two_any ⟨l.toArray⟩ 58 a b hp (by rw [mk_size]; exact hm) w).mono ?_
    rintro e w' ⟨g, cap, rfl, hc, ht, hb⟩
    exact ⟨g, 2, cap, rfl, hc, by omega, ⟨rfl, ht⟩, hb⟩
  · rintro W w' g n hb ⟨h1, h2⟩
    exact ⟨h1, keepTwo hb h2⟩

theorem ends_not (l : List UInt8) (hp : (Pk.pieces 58 l).length ≠ 2) (hm : l.length ≤ 2097152) : Ends ⟨l.toArray⟩ (fun _ _ n => ((n : Int) != 2) = true) := by
  constructor
  · intro w
    refine (pieces_any ⟨l.toArray⟩ 58 w (by rw [mk_size]; exact hm)).mono ?_
    rintro e w' ⟨v, rfl, hown, hb⟩
    rw [mk_list] at hown
    have hl := Pk.pieces_len 58 l
    have hc := List.count_le_length (a := (58 : UInt8)) (l := l)
    generalize hq : (Pk.pieces 58 l).length = n at *
    obtain ⟨m, rfl⟩ : ∃ m, n = m + 1 := ⟨n - 1, by omega⟩
    obtain ⟨g, cap, rfl, hg, hcap⟩ := own_shape (m := m) hown
    exact ⟨g, m + 1, cap, rfl, hcap, by omega, (show (((m + 1 : Nat) : Int) != 2) = true by rw [bne_iff_ne]; omega), hb⟩
  · intro W w' g n _ h
    exact h

theorem ends_any (l : List UInt8) (hm : l.length ≤ 2097152) : ∃ P, Ends ⟨l.toArray⟩ P := by
  by_cases hp : (Pk.pieces 58 l).length ≠ 2
  · exact ⟨_, ends_not l hp hm⟩
  · rcases Pk.pieces_cases 58 l with ⟨h, _⟩ | ⟨a, b, _, _, h⟩
    · exact absurd h hp
    · exact ⟨_, ends_two l a b h hm⟩

theorem read_any (s : ByteArray) (w : World) (hm : s.size ≤ 2097152) :
    Calls Tryd.prog 13 #[.string s] w fun e w' => e = .returned (pktV (Pk.pkt s.data.toList)) ∧ Below w.heap.size w w' := by
  rcases Pk.pieces_cases 62 s.data.toList with ⟨hp, _⟩ | ⟨f, t, hbk, hnt, hp⟩
  · rw [Pk.pkt_len _ hp]
    exact read_bad1 s w (fun w => not_two s 62 hp hm w)
  · have hl := (Pk.brk_some 62 _ f t hbk).1
    have hs : s.size = f.length + (t.length + 1) := by rw [Lib.size_eq, hl]; simp
    have k1 : Hid (∀ w, Calls Tryd.prog 29 #[.string s, .int .u8 62] w fun e w' => ∃ g cap, e = .returned (.slice (some ⟨g, 0, none⟩) 2 cap) ∧ 2 ≤ cap ∧ Two w' g f t ∧ Below w.heap.size w w') := fun w => two_any s 62 f t hp hm w
    rcases Pk.pieces_cases 58 f with ⟨hpf, _⟩ | ⟨a, b, hbf, _, hpf⟩
    · obtain ⟨P6, k6⟩ := ends_any t (by omega)
      rw [Pk.pkt_bad _ f t hbk (Or.inl (Pk.pend_len f hpf))]
      exact read_bad5 s f t _ P6 w k1 (ends_not f hpf (by omega)) k6 (fun _ _ _ h => h)
    · rcases Pk.pieces_cases 58 t with ⟨hpt, _⟩ | ⟨c, d, hbt, _, hpt⟩
      · rw [Pk.pkt_bad _ f t hbk (Or.inr (Pk.pend_len t hpt))]
        exact read_bad6 s f t _ _ w k1 (ends_two f a b hpf (by omega)) (ends_not t hpt (by omega)) (fun _ _ _ h => h.1) (fun _ _ _ h => h)
      · have hlf := congrArg List.length (Pk.brk_some 58 _ a b hbf).1
        have hlt := congrArg List.length (Pk.brk_some 58 _ c d hbt).1
        rw [List.length_append, List.length_cons] at hlf hlt
        have kdig : ∀ (l : List UInt8) (m : Int) (w : World), l.length ≤ 2097152 → Calls Tryd.prog 30 #[.string ⟨l.toArray⟩, .int .i64 m] w fun e w' => e = .returned (.int .i64 (Pk.dg m l)) ∧ w' = w := fun l m w h => digits_any ⟨l.toArray⟩ m w (by rw [mk_size]; unfold maxLen; omega)
        refine read_four s f t a b c d (Pk.dg 15 a) (Pk.dg 7 b) (Pk.dg 15 c) (Pk.dg 7 d) _ _ w k1 (ends_two f a b hpf (by omega)) (ends_two t c d hpt (by omega)) (fun _ _ _ h => h) (fun _ _ _ h => h)
          (fun w => kdig a 15 w (by omega)) (fun w => kdig b 7 w (by omega)) (fun w => kdig c 15 w (by omega)) (fun w => kdig d 7 w (by omega)) _ ?_
        rcases Pk.pkt_four _ f t a b c d hbk hbf hbt with ⟨n1, n2, m1, m2, e, ⟨b1, b2, b3, b4⟩, g1, g2, g3, g4⟩ | ⟨hn, e⟩
        · left
          rw [e, g1, g2, g3, g4]
          exact ⟨⟨⟨by omega, by omega⟩, ⟨by omega, by omega⟩, ⟨by omega, by omega⟩, ⟨by omega, by omega⟩⟩, rfl⟩
        · right
          rw [e]
          exact ⟨hn, rfl⟩
end Go.Proofs.YtaceockdiicpaaaDoor
