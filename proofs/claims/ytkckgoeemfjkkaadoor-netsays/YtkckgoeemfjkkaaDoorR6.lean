/-
  The document's answer: Has, MatchText.
-/
import Derived.Test.YtkckgoeemfjkkaaDoorR5
import Derived.Test.YtkckgoeemfjkkaaDoorM6
namespace Go.Proofs.YtkckgoeemfjkkaaDoor
open Go.RowKit

theorem sz (l : List UInt8) : (⟨l.toArray⟩ : ByteArray).size = l.length := by rw [Lib.size_eq]
theorem cat_text (a b c d : List UInt8) : ((⟨a.toArray⟩ : ByteArray) ++ (⟨#[32]⟩ : ByteArray) ++ (⟨c.toArray⟩ : ByteArray) ++ (⟨#[32]⟩ : ByteArray) ++ (⟨b.toArray⟩ : ByteArray) ++ (⟨#[32]⟩ : ByteArray) ++ (⟨d.toArray⟩ : ByteArray)) = ⟨(Lib.join [a, c, b, d] [32]).toArray⟩ := by
  apply ByteArray.ext
  simp only [ByteArray.data_append]
  rw [Lib.join_cons]
  simp [Lib.joinTail]

set_option maxHeartbeats 4000000 in
set_option maxRecDepth 100000 in
theorem mtext_any (a b c d : Nat) (w : World) (ha : a < 2 ^ 16) (hb : b < 2 ^ 16) (hc : c < 2 ^ 8) (hd : d < 2 ^ 8) :
    Calls Tryd.prog 18 #[mt a b c d] w fun e w' => e = .returned (.string ⟨(Mt.matT a b c d).toArray⟩) ∧ Below w.heap.size w w' := by
  have pA : Hid (∀ w, Calls Tryd.prog 31 #[.int .i64 (a : Int), .int .i64 16] w fun e w' => e = .returned (.string ⟨(Mt.setT 16 a).toArray⟩) ∧ Below w.heap.size w w') := fun w => rows_any a 16 w (Or.inl rfl) ha
  have pB : Hid (∀ w, Calls Tryd.prog 31 #[.int .i64 (b : Int), .int .i64 16] w fun e w' => e = .returned (.string ⟨(Mt.setT 16 b).toArray⟩) ∧ Below w.heap.size w w') := fun w => rows_any b 16 w (Or.inl rfl) hb
  have pC : Hid (∀ w, Calls Tryd.prog 31 #[.int .i64 (c : Int), .int .i64 8] w fun e w' => e = .returned (.string ⟨(Mt.setT 8 c).toArray⟩) ∧ Below w.heap.size w w') := fun w => rows_any c 8 w (Or.inr rfl) hc
  have pD : Hid (∀ w, Calls Tryd.prog 31 #[.int .i64 (d : Int), .int .i64 8] w fun e w' => e = .returned (.string ⟨(Mt.setT 8 d).toArray⟩) ∧ Below w.heap.size w w') := fun w => rows_any d 8 w (Or.inr rfl) hd
  have l1 := Mt.setT_len 16 a (by omega)
  have l2 := Mt.setT_len 16 b (by omega)
  have l3 := Mt.setT_len 8 c (by omega)
  have l4 := Mt.setT_len 8 d (by omega)
  have E : Hid (((⟨(Mt.setT 16 a).toArray⟩ : ByteArray) ++ (⟨#[32]⟩ : ByteArray) ++ (⟨(Mt.setT 8 c).toArray⟩ : ByteArray) ++ (⟨#[32]⟩ : ByteArray) ++ (⟨(Mt.setT 16 b).toArray⟩ : ByteArray) ++ (⟨#[32]⟩ : ByteArray) ++ (⟨(Mt.setT 8 d).toArray⟩ : ByteArray)) = ⟨(Mt.matT a b c d).toArray⟩) := cat_text _ _ _ _
  generalize Mt.setT 16 a = ta at *
  generalize Mt.setT 16 b = tb at *
  generalize Mt.setT 8 c = tc at *
  generalize Mt.setT 8 d = td at *
  generalize Mt.matT a b c d = tt at *
  have ha' : a < 65536 := ha
  have hb' : b < 65536 := hb
  have hc' : c < 256 := hc
  have hd' : d < 256 := hd
  have wa : IntKind.i64.wrap (a : Int) = (a : Int) := IntWalk.i64_in _ (by omega)
  have wb : IntKind.i64.wrap (b : Int) = (b : Int) := IntWalk.i64_in _ (by omega)
  have wc : IntKind.i64.wrap (c : Int) = (c : Int) := IntWalk.i64_in _ (by omega)
  have wd : IntKind.i64.wrap (d : Int) = (d : Int) := IntWalk.i64_in _ (by omega)
  clear ha hb hc hd
  have q0 : ta.length + 1 ≤ 9223372036854775807 := by omega
  have r0 : ∀ w : World, (Op.stringOp .add ((⟨ta.toArray⟩ : ByteArray)) (⟨#[32]⟩ : ByteArray)).run Tryd.prog w = .ok (.string ((⟨ta.toArray⟩ : ByteArray) ++ (⟨#[32]⟩ : ByteArray))) w := fun w => run_string_add_sum w _ _ (by simp only [sz]; omega)
  have q1 : ta.length + 1 + tc.length ≤ 9223372036854775807 := by omega
  have r1 : ∀ w : World, (Op.stringOp .add ((⟨ta.toArray⟩ : ByteArray) ++ (⟨#[32]⟩ : ByteArray)) (⟨tc.toArray⟩ : ByteArray)).run Tryd.prog w = .ok (.string ((⟨ta.toArray⟩ : ByteArray) ++ (⟨#[32]⟩ : ByteArray) ++ (⟨tc.toArray⟩ : ByteArray))) w := fun w => run_string_add_sum w _ _ (by simp only [ByteArray.size_append, sz]; omega)
  have q2 : ta.length + 1 + tc.length + 1 ≤ 9223372036854775807 := by omega
  have r2 : ∀ w : World, (Op.stringOp .add ((⟨ta.toArray⟩ : ByteArray) ++ (⟨#[32]⟩ : ByteArray) ++ (⟨tc.toArray⟩ : ByteArray)) (⟨#[32]⟩ : ByteArray)).run Tryd.prog w = .ok (.string ((⟨ta.toArray⟩ : ByteArray) ++ (⟨#[32]⟩ : ByteArray) ++ (⟨tc.toArray⟩ : ByteArray) ++ (⟨#[32]⟩ : ByteArray))) w := fun w => run_string_add_sum w _ _ (by simp only [ByteArray.size_append, sz]; omega)
  have q3 : ta.length + 1 + tc.length + 1 + tb.length ≤ 9223372036854775807 := by omega
  have r3 : ∀ w : World, (Op.stringOp .add ((⟨ta.toArray⟩ : ByteArray) ++ (⟨#[32]⟩ : ByteArray) ++ (⟨tc.toArray⟩ : ByteArray) ++ (⟨#[32]⟩ : ByteArray)) (⟨tb.toArray⟩ : ByteArray)).run Tryd.prog w = .ok (.string ((⟨ta.toArray⟩ : ByteArray) ++ (⟨#[32]⟩ : ByteArray) ++ (⟨tc.toArray⟩ : ByteArray) ++ (⟨#[32]⟩ : ByteArray) ++ (⟨tb.toArray⟩ : ByteArray))) w := fun w => run_string_add_sum w _ _ (by simp only [ByteArray.size_append, sz]; omega)
  have q4 : ta.length + 1 + tc.length + 1 + tb.length + 1 ≤ 9223372036854775807 := by omega
  have r4 : ∀ w : World, (Op.stringOp .add ((⟨ta.toArray⟩ : ByteArray) ++ (⟨#[32]⟩ : ByteArray) ++ (⟨tc.toArray⟩ : ByteArray) ++ (⟨#[32]⟩ : ByteArray) ++ (⟨tb.toArray⟩ : ByteArray)) (⟨#[32]⟩ : ByteArray)).run Tryd.prog w = .ok (.string ((⟨ta.toArray⟩ : ByteArray) ++ (⟨#[32]⟩ : ByteArray) ++ (⟨tc.toArray⟩ : ByteArray) ++ (⟨#[32]⟩ : ByteArray) ++ (⟨tb.toArray⟩ : ByteArray) ++ (⟨#[32]⟩ : ByteArray))) w := fun w => run_string_add_sum w _ _ (by simp only [ByteArray.size_append, sz]; omega)
  have q5 : ta.length + 1 + tc.length + 1 + tb.length + 1 + td.length ≤ 9223372036854775807 := by omega
  have r5 : ∀ w : World, (Op.stringOp .add ((⟨ta.toArray⟩ : ByteArray) ++ (⟨#[32]⟩ : ByteArray) ++ (⟨tc.toArray⟩ : ByteArray) ++ (⟨#[32]⟩ : ByteArray) ++ (⟨tb.toArray⟩ : ByteArray) ++ (⟨#[32]⟩ : ByteArray)) (⟨td.toArray⟩ : ByteArray)).run Tryd.prog w = .ok (.string ((⟨ta.toArray⟩ : ByteArray) ++ (⟨#[32]⟩ : ByteArray) ++ (⟨tc.toArray⟩ : ByteArray) ++ (⟨#[32]⟩ : ByteArray) ++ (⟨tb.toArray⟩ : ByteArray) ++ (⟨#[32]⟩ : ByteArray) ++ (⟨td.toArray⟩ : ByteArray))) w := fun w => run_string_add_sum w _ _ (by simp only [ByteArray.size_append, sz]; omega)
  have F1 := (four_new w (.int .u16 (a : Int)) (.int .u16 (b : Int)) (.int .u8 (c : Int)) (.int .u8 (d : Int)) 55).drew
  have D1 := (Below.alloc' (Below.refl w.heap.size w) (.cells #[.int .u16 (a : Int), .int .u16 (b : Int), .int .u8 (c : Int), .int .u8 (d : Int)] 55)).drew
  go_enter Tryd.func18, Tryd.ntmps18
  go_wp2_with fail
  go_region_held3 (fun w' => w'.cell? ⟨w.heap.size, 0, none⟩ = some (.int .u16 (a : Int)) ∧ w'.cell? ⟨w.heap.size, 1, none⟩ = some (.int .u16 (b : Int)) ∧ w'.cell? ⟨w.heap.size, 2, none⟩ = some (.int .u8 (c : Int)) ∧ w'.cell? ⟨w.heap.size, 3, none⟩ = some (.int .u8 (d : Int)))
    (exact Four.cells (by assumption))
    (first
      | (go_at_call_of 31 (Value.int .i64 (a : Int)); refine (pA.out _).mono ?_; rintro e wz ⟨rfl, hbz⟩; have Dz := chain hbz (by assumption); have Pz := keepFour (n := w.heap.size) hbz (by assumption); clear hbz)
      | (go_at_call_of 31 (Value.int .i64 (b : Int)); refine (pB.out _).mono ?_; rintro e wz ⟨rfl, hbz⟩; have Dz := chain hbz (by assumption); have Pz := keepFour (n := w.heap.size) hbz (by assumption); clear hbz)
      | (go_at_call_of 31 (Value.int .i64 (c : Int)); refine (pC.out _).mono ?_; rintro e wz ⟨rfl, hbz⟩; have Dz := chain hbz (by assumption); have Pz := keepFour (n := w.heap.size) hbz (by assumption); clear hbz)
      | (go_at_call_of 31 (Value.int .i64 (d : Int)); refine (pD.out _).mono ?_; rintro e wz ⟨rfl, hbz⟩; have Dz := chain hbz (by assumption); have Pz := keepFour (n := w.heap.size) hbz (by assumption); clear hbz))
  go_wp2_with fail
  go_ret
  exact ⟨congrArg (fun x => Ending.returned (Value.string x)) E.out, Dz⟩
end Go.Proofs.YtkckgoeemfjkkaaDoor


