/-
  StepNat: a map from ints to packets.
-/
import Derived.Test.YtepfckicaafilaaSg3
namespace Go.Proofs.Ytepfckicaafilaa
open Go.RowKit Go.Maps

noncomputable def intE : KeyEnc 3 Int := ⟨fun x => .int .i64 x, i64ok, fun n => .int .i64 n, int_keyed Try.underlying3, fun _ h => keyOf_int_mk Try.underlying3 h, fun x y h => by simpa using h⟩
def fourR : List Value → Option (DataW Unit × List MemPlace)
  | [.int .i64 a, .int .i64 b, .int .i64 c, .int .i64 d] => some (.agg [.lit (.int .i64 a), .lit (.int .i64 b), .lit (.int .i64 c), .lit (.int .i64 d)], [])
  | _ => none
theorem fourR_inv (l : List Value) (z : DataW Unit × List MemPlace) (h : fourR l = some z) : ∃ p : Pk, l = [.int .i64 p.s, .int .i64 p.d, .int .i64 p.sp, .int .i64 p.dp] ∧ z = (.agg [.lit (.int .i64 p.s), .lit (.int .i64 p.d), .lit (.int .i64 p.sp), .lit (.int .i64 p.dp)], []) := by
  unfold fourR at h
  split at h
  · cases h; exact ⟨⟨_, _, _, _⟩, rfl, rfl⟩
  · cases h
def pktR : Value → Option (DataW Unit × List MemPlace)
  | .agg cs => fourR cs.toList
  | _ => none
theorem pktR_inv (v : Value) (z : DataW Unit × List MemPlace) (h : pktR v = some z) : ∃ p : Pk, v = pkV p ∧ z = (.agg [.lit (.int .i64 p.s), .lit (.int .i64 p.d), .lit (.int .i64 p.sp), .lit (.int .i64 p.dp)], []) := by
  unfold pktR at h
  split at h
  · rename_i cs
    obtain ⟨x, e, rfl⟩ := fourR_inv _ _ h
    refine ⟨x, ?_, rfl⟩
    rw [pkV, ← e]
  · cases h
theorem zeroPkt (w : World) : (zeroValue 24).run Try.prog w = .ok (pkV zeroP) w := by kernel_rfl
def pktV : ElEnc 24 Pk := ⟨pkV, pktR, fun p => .agg [.lit (.int .i64 p.s), .lit (.int .i64 p.d), .lit (.int .i64 p.sp), .lit (.int .i64 p.dp)], fun _ => rfl, pktR_inv, fun x y h => by
  obtain ⟨a, b, c, d⟩ := x
  obtain ⟨a', b', c', d'⟩ := y
  simpa using h, zeroP, zeroPkt⟩
end Go.Proofs.Ytepfckicaafilaa
