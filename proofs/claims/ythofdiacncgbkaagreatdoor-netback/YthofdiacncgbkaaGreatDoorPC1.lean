/-
  Texts of nets: a route's line, read or not.
-/
import Derived.Test.YthofdiacncgbkaaGreatDoorPB
namespace Go.Proofs.YthofdiacncgbkaaGreatDoor
open Go.RowKit

set_option maxHeartbeats 4000000 in
set_option maxRecDepth 100000 in
theorem readRoute_no (B rb g nw : Nat) (P : Option Addr) (o : Option NRoute) (w : World) (hB : B ≤ w.heap.size) (hP : P = none ∨ o = none)
    (OP : Hid (Calls Tryz.prog 59 #[.pointer (some ⟨rb, 0, none⟩)] w fun e w' => e = .returned (.pointer P) ∧ w' = w))
    (PR : Hid (Calls Tryz.prog 61 #[.slice (some ⟨g, 0, none⟩) nw nw] w fun e w' => e = .returned (routeV o) ∧ Below w.heap.size w w')) :
    Calls Tryz.prog 31 #[.pointer (some ⟨rb, 0, none⟩), .slice (some ⟨g, 0, none⟩) nw nw] w fun e w' => LineOut B rb w none e w' := by
  obtain ⟨v, b, p, ok, ho, hok⟩ : ∃ v b p ok, routeV o = .tuple #[routeA v b p, .bool ok] ∧ (P = none ∨ ok = false) := by
    cases o with
    | none => exact ⟨0, 0, 0, false, rfl, .inr rfl⟩
    | some r => exact ⟨r.v, r.b, r.p, true, rfl, .inl (by rcases hP with h | h; exact h; cases h)⟩
  rw [ho] at PR
  unfold routeA at PR
  clear ho hP
  rcases hok with rfl | rfl
  · go_enter Tryz.func31, Tryz.ntmps31
    go_wp2_with fail
    refine OP.out.mono ?_
    rintro e w1 ⟨rfl, rfl⟩
    go_wp2_with fail
    refine PR.out.mono ?_
    rintro e w5 ⟨rfl, hb5⟩
    have D6 := (hb5.mono hB).alloc (Nat.le_trans hB hb5.size) (.cells #[.int .i64 v, .int .i64 b, .int .i64 p] 63)
    go_wp2_with fail
    go_ret
    exact ⟨D6, rfl⟩
  · cases P
    all_goals
      go_enter Tryz.func31, Tryz.ntmps31
      go_wp2_with fail
      refine OP.out.mono ?_
      rintro e w1 ⟨rfl, rfl⟩
      go_wp2_with fail
      refine PR.out.mono ?_
      rintro e w5 ⟨rfl, hb5⟩
      have D6 := (hb5.mono hB).alloc (Nat.le_trans hB hb5.size) (.cells #[.int .i64 v, .int .i64 b, .int .i64 p] 63)
      go_wp2_with fail
      go_ret
      exact ⟨D6, rfl⟩
theorem own_head {w : World} {B e size n : Nat} {A : Option Addr} {cap : Nat} {xs : List Value} (h : w.ownsRow B e size (.slice A n cap) n xs) (hn : n ≠ 0) : ∃ g, A = some ⟨g, 0, none⟩ := by
  rcases h.2 with ⟨_, h0⟩ | ⟨g, cap', cur, h1, _⟩
  · exact absurd h0 hn
  · simp only [Value.slice.injEq] at h1
    exact ⟨g, h1.1⟩
/-- What the reader's open tells. -/
theorem open_any (B rb : Nat) (ds : List Dv) (ls : List Lk) (w : World) (R : Rd B rb w ds ls) (hn : ds.length ≤ 5000) (hl : ls.length ≤ 5000) (h : ls ≠ [] ∨ ds = []) :
    Calls Tryz.prog 59 #[.pointer (some ⟨rb, 0, none⟩)] w fun e w' => e = .returned (.pointer none) ∧ w' = w := by
  obtain ⟨xs, vd, vl, rfl, hrb, K0, R0⟩ := R
  obtain ⟨A, cap, rfl⟩ := own_slice R0.dev
  obtain ⟨C, cap', rfl⟩ := own_slice R0.lnk
  refine open_none rb xs.length ls.length cap cap' A C w (K0.cell 0 _ rfl) (K0.cell 1 _ rfl) (by simpa using hn) hl ?_
  rcases h with h | h
  · exact .inr (List.length_pos_iff.2 h)
  · exact .inl (by simpa using h)
theorem readRoute_any (B rb g : Nat) (ds : List Dv) (ls : List Lk) (ws : List ByteArray) (w : World) (hB : B ≤ w.heap.size) (R : Rd B rb w ds ls) (hn : ds.length ≤ 5000) (hl : ls.length ≤ 5000) (hr : ∀ d ∈ ds, d.routes.length ≤ 5000) (T : Texts w g ws) (hs : ∀ x ∈ ws, x.size ≤ 4096) :
    Calls Tryz.prog 31 #[.pointer (some ⟨rb, 0, none⟩), .slice (some ⟨g, 0, none⟩) ws.length ws.length] w fun e w' => LineOut B rb w (if ls = [] ∧ ds ≠ [] then (routeP ((ws.map (·.data.toList)).drop 1)).map fun t => (addRoute ds t, ls) else none) e w' := by
  have PR := parseRoute_any g ws w T hs
  by_cases hc : ls = [] ∧ ds ≠ []
  · rw [if_pos hc]
    obtain ⟨rfl, hd⟩ := hc
    obtain ⟨xs, vd, vl, rfl, hrb, K0, R0⟩ := R
    rcases List.eq_nil_or_concat xs with rfl | ⟨ys, x, rfl⟩
    · exact absurd rfl hd
    rw [List.concat_eq_append] at *
    obtain ⟨d, vb, vr, vt⟩ := x
    obtain ⟨A, cap, rfl⟩ := own_slice R0.dev
    obtain ⟨C, cap', rfl⟩ := own_slice R0.lnk
    obtain ⟨At, ct, rfl⟩ : ∃ A cap, vt = .slice A d.routes.length cap := own_slice (R0.rout (d, vb, vr, vt) (by simp))
    obtain ⟨gd, rfl⟩ := own_head R0.dev (by simp)
    have hy : ys.length ≤ 5000 := by simp at hn; omega
    have e1 : (ys ++ [(d, vb, vr, Value.slice At d.routes.length ct)]).length = ys.length + 1 := by simp
    rw [e1] at K0
    have R1 : RdOk B w (ys ++ [(d, vb, vr, .slice At d.routes.length ct)]) [] (.slice (some ⟨gd, 0, none⟩) (ys.length + 1) cap) (.slice C 0 cap') := by
      rw [e1] at R0
      exact R0
    rcases ho : routeP ((ws.map (·.data.toList)).drop 1) with _ | t
    · rw [ho] at PR ⊢
      exact readRoute_no B rb g ws.length _ none w hB (.inr rfl) (open_last rb ys.length cap cap' gd C w (K0.cell 0 _ rfl) (K0.cell 1 _ rfl) hy) PR
    · rw [ho] at PR ⊢
      have := readRoute_yes B rb g ws.length gd ys C cap cap' d vb vr At ct t w hB hrb K0 R1 (hr d (by simp)) hy PR
      have e2 : addRoute ((ys ++ [(d, vb, vr, Value.slice At d.routes.length ct)]).map Prod.fst) t = ys.map Prod.fst ++ [{ d with routes := d.routes ++ [t] }] := by
        rw [List.map_append]
        exact addRoute_eq _ _ _
      rw [Option.map_some, e2]
      exact this
  · rw [if_neg hc]
    exact readRoute_no B rb g ws.length none _ w hB (.inl rfl) (open_any B rb ds ls w R hn hl (by
      by_cases h1 : ls = []
      · exact .inr (Classical.not_not.1 fun h2 => hc ⟨h1, h2⟩)
      · exact .inl h1)) PR
end Go.Proofs.YthofdiacncgbkaaGreatDoor
