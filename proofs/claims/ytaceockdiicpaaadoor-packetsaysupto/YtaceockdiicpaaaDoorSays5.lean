/-
  PacketSays at whatever packet, code and text (of at most 2097152 bytes): it returns true, and turns no memory that was there.
-/
import Derived.Test.YtaceockdiicpaaaDoorSays1
import Derived.Test.YtaceockdiicpaaaDoorSays2
import Derived.Test.YtaceockdiicpaaaDoorSays3
import Derived.Test.YtaceockdiicpaaaDoorSays4
namespace Go.Proofs.YtaceockdiicpaaaDoor
open Go.RowKit

theorem pktV_shape (o : Option (Nat × Nat × Nat × Nat)) : ∃ x0 x1 x2 x3 jr : Int, pktV o = .tuple #[pk x0 x1 x2 x3, .int .i64 jr] := by
  cases o with
  | none => exact ⟨0, 0, 0, 0, 3, rfl⟩
  | some q => obtain ⟨a, b, c, d⟩ := q; exact ⟨a, b, c, d, 0, rfl⟩

theorem says_any (a b c d code : Int) (s : ByteArray) (w : World) (hs : s.size ≤ 2097152) :
    Calls Tryd.prog 3 #[pk a b c d, .int .i64 code, .string s] w fun e w' => e = .returned (.bool true) ∧ Below w.heap.size w w' := by
  have kpa := fun w => parse_any s w (by unfold maxLen; omega)
  have kre := fun w => read_any s w hs
  obtain ⟨x0, x1, x2, x3, jr, hv⟩ := pktV_shape (Pk.pkt s.data.toList)
  rw [hv] at kpa kre
  by_cases hr : (0 ≤ a ∧ a < 16) ∧ (0 ≤ b ∧ b < 16) ∧ (0 ≤ c ∧ c < 8) ∧ (0 ≤ d ∧ d < 8)
  · have hr2 := hr
    obtain ⟨⟨a0, a1⟩, ⟨b0, b1⟩, ⟨c0, c1⟩, ⟨d0, d1⟩⟩ := hr2
    obtain ⟨a, rfl⟩ := Int.eq_ofNat_of_zero_le a0
    obtain ⟨b, rfl⟩ := Int.eq_ofNat_of_zero_le b0
    obtain ⟨c, rfl⟩ := Int.eq_ofNat_of_zero_le c0
    obtain ⟨d, rfl⟩ := Int.eq_ofNat_of_zero_le d0
    by_cases hc : 0 ≤ code ∧ code < 16384
    · exact says_right_in a b c d code _ 0 _ _ _ _ 0 x0 x1 x2 x3 jr s _ w rfl (fun w => right_yes a b c d w hr) (fun w => rcode_yes a b c d w hr) (fun w => ptext_yes a b c d w (by omega) (by omega) (by omega) (by omega)) rfl hc.1 hc.2 (fun w => rpacket_yes code w hc.1 hc.2)
        (fun w => check_yes a b c d w hr) (fun w => code_yes a b c d w hr) (fun w => of_yes code w hc.1 hc.2) (fun w => print_yes a b c d w (by omega) (by omega) (by omega) (by omega)) kpa kre
    · exact says_right_out a b c d code _ 0 0 0 0 0 1 x0 x1 x2 x3 jr s _ w rfl (fun w => right_yes a b c d w hr) (fun w => rcode_yes a b c d w hr) (fun w => ptext_yes a b c d w (by omega) (by omega) (by omega) (by omega)) rfl ⟨rfl, rfl, rfl, rfl⟩ (by simp; omega)
        (fun w => check_yes a b c d w hr) (fun w => code_yes a b c d w hr) (fun w => of_no code w hc) (fun w => print_yes a b c d w (by omega) (by omega) (by omega) (by omega)) kpa kre
  · by_cases hc : 0 ≤ code ∧ code < 16384
    · exact says_wrong_in a b c d code 0 1 _ _ _ _ 0 x0 x1 x2 x3 jr s _ w rfl rfl rfl (fun w => right_no a b c d w hr) rfl hc.1 hc.2 (fun w => rpacket_yes code w hc.1 hc.2)
        (fun w => check_no a b c d w hr) (fun w => code_no a b c d w hr) (fun w => of_yes code w hc.1 hc.2) (fun w => print_no a b c d w hr) kpa kre
    · exact says_wrong_out a b c d code 0 1 0 0 0 0 1 x0 x1 x2 x3 jr s _ w rfl rfl rfl (fun w => right_no a b c d w hr) rfl ⟨rfl, rfl, rfl, rfl⟩ (by simp; omega)
        (fun w => check_no a b c d w hr) (fun w => code_no a b c d w hr) (fun w => of_no code w hc) (fun w => print_no a b c d w hr) kpa kre
end Go.Proofs.YtaceockdiicpaaaDoor
