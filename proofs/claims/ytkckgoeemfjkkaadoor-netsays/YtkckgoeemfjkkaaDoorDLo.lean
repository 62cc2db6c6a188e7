/-
  The table of the kinds' words, as the row lists it, where it lies.
-/
import Derived.Test.YtkckgoeemfjkkaaDoorRows
import Derived.Test.YtkckgoeemfjkkaaDoorPW1
import Derived.ProofKit
import Derived.LaidMore
import Derived.OpenShut
namespace Go.Proofs.YtkckgoeemfjkkaaDoor
open Go.ChangeShapes Go.WideShapes Go.RowKit

theorem nLine : Tryd.prog.cellsOf 100 = 3 := by kernel_rfl
theorem nLines : Tryd.prog.cellsOf 101 = 15 := by kernel_rfl
set_option maxRecDepth 100000 in
theorem line_open {H : Type} {enc : TypeId × Value → H} {W : World} {sp : Nat → Bool} {held : Bool} {fuel : Nat} {cs : List Value} {bs : List UInt8} {a b : Int} {p : List MemPlace} (hl : cs.length = 3)
    (h : DataW.trod enc Tryd.prog W 0 sp held fuel 100 cs = some (.agg [.lit (.string bs), .lit (.int .i64 a), .lit (.int .i64 b)], p)) : cs = [.string ⟨bs.toArray⟩, .int .i64 a, .int .i64 b] := by
  obtain ⟨xs, k, hk, hxy, _, hxl, hf⟩ := DataW.trod_struct Tryd.underlying100 h
  match xs, hxl, cs, hl with
  | [y0, y1, y2], _, [v0, v1, v2], _ =>
    have g0 := hf 0 _ rfl
    have g1 := hf 1 _ rfl
    have g2 := hf 2 _ rfl
    simp [nInt, nStr] at g0 g1 g2
    obtain ⟨s, e0, q0, _⟩ := DataW.trod_string Tryd.underlying9 g0
    obtain ⟨x1, e1, q1, _⟩ := DataW.trod_int Tryd.underlying3 g1
    obtain ⟨x2, e2, q2, _⟩ := DataW.trod_int Tryd.underlying3 g2
    subst q0 q1 q2
    simp only [List.map_cons, List.map_nil, Prod.mk.injEq, DataW.agg.injEq, List.cons.injEq, DataW.lit.injEq, Lit.string.injEq, Lit.int.injEq, true_and, and_true] at hxy
    obtain ⟨⟨h0, h1, h2⟩, _⟩ := hxy
    subst h0 h1 h2
    simp only [List.cons.injEq, and_true] at e0 e1 e2
    subst e0 e1 e2
    simp
set_option maxRecDepth 100000 in
theorem lines_open {W : World} {fuel : Nat} {cs : Array Value} {p : List MemPlace}
    (h : DataW.trod (fun _ => ()) Tryd.prog W 0 (fun _ => true) false fuel 101 cs.toList = some (Rows.laid_wireward_net_deviceLines, p)) : cs = linesC := by
  obtain ⟨xs, m, _, hx, hl, hxl, hall⟩ := DataW.trod_array Tryd.underlying101 h
  rw [nLines] at hl
  have hsz : cs.size = 15 := by simpa using hl
  rw [nLine] at hall
  unfold Rows.laid_wireward_net_deviceLines at hx
  simp only [Prod.mk.injEq, DataW.agg.injEq] at hx
  have hm := hx.1
  match xs, hxl with
  | [⟨d0, p0⟩, ⟨d1, p1⟩, ⟨d2, p2⟩, ⟨d3, p3⟩, ⟨d4, p4⟩], _ =>
    simp only [List.map_cons, List.map_nil, List.cons.injEq, and_true] at hm
    obtain ⟨rfl, rfl, rfl, rfl, rfl⟩ := hm
    have a0 := line_open (by simp; omega) (hall 0 (by omega))
    have a1 := line_open (by simp; omega) (hall 1 (by omega))
    have a2 := line_open (by simp; omega) (hall 2 (by omega))
    have a3 := line_open (by simp; omega) (hall 3 (by omega))
    have a4 := line_open (by simp; omega) (hall 4 (by omega))
    obtain ⟨l⟩ := cs
    simp only at a0 a1 a2 a3 a4 hl
    have e : l = l.take 3 ++ ((l.drop 3).take 3 ++ ((l.drop 6).take 3 ++ ((l.drop 9).take 3 ++ (l.drop 12).take 3))) := by
      have t : ∀ n : Nat, l.drop n = (l.drop n).take 3 ++ l.drop (n + 3) := fun n => by
        conv => lhs; rw [← List.take_append_drop 3 (l.drop n)]
        rw [List.drop_drop]
      have t4 : (l.drop 12).take 3 = l.drop 12 := List.take_of_length_le (by simp; omega)
      rw [t4, ← t 9, ← t 6, ← t 3]
      exact (List.take_append_drop 3 l).symm
    simp only [Nat.zero_mul, List.drop_zero, Nat.one_mul, Nat.reduceMul] at a0 a1 a2 a3 a4
    rw [a0, a1, a2, a3, a4] at e
    rw [e]
    rfl
set_option maxRecDepth 100000 in
theorem lines_laid {W : World} (h : laidMet Tryd.prog Rows.netSaysRow.laid W) : DLn 0 W := by
  obtain ⟨ps, hv, _⟩ := h
  have hr : ∀ (l : List (String × DataW Unit)) (ps : List MemPlace), DataW.LaidVars Tryd.prog W l ps → ("wireward/net.deviceLines", Rows.laid_wireward_net_deviceLines) ∈ l → ∃ t cs fuel p, (Tryd.prog.globals[(0 : Nat)]?).map (·.type) = some t ∧ W.var? Tryd.prog "wireward/net.deviceLines" = some cs ∧ DataW.trod (fun _ => ()) Tryd.prog W 0 (fun _ => true) false fuel t cs.toList = some (Rows.laid_wireward_net_deviceLines, p) := by
    intro l
    induction l with
    | nil => intro ps _ hm; cases hm
    | cons x r ih =>
      intro ps hv hm
      obtain ⟨n, d⟩ := x
      obtain ⟨g, t, cs, fuel, p, q, h1, h2, h3, h4, h5, _⟩ := hv
      rcases List.mem_cons.1 hm with e | e
      · cases e
        have eg : Tryd.prog.globalNamed "wireward/net.deviceLines" = some 0 := by kernel_rfl
        rw [eg] at h1
        obtain rfl := Option.some.inj h1
        exact ⟨t, cs, fuel, p, h2, h3, h4⟩
      · exact ih q h5 e
  obtain ⟨t, cs, fuel, p, h2, h3, h4⟩ := hr _ _ hv (by unfold Rows.netSaysRow; simp)
  have et : (Tryd.prog.globals[(0 : Nat)]?).map (·.type) = some 101 := by kernel_rfl
  rw [et] at h2
  obtain rfl := Option.some.inj h2
  have ec := lines_open h4
  subst ec
  have eg : Tryd.prog.globalNamed "wireward/net.deviceLines" = some 0 := by kernel_rfl
  unfold World.var? at h3
  rw [eg] at h3
  simp only [Option.bind_some] at h3
  split at h3
  · rename_i c t' fr hh
    obtain rfl := Option.some.inj h3
    exact ⟨t', fr, hh⟩
  · cases h3
end Go.Proofs.YtkckgoeemfjkkaaDoor
