/-
  Slices told by their cells; slices.Clone.
-/
import Derived.Test.YtgmjlkllghlmmaaGreatSq
import Derived.Laws.AppendOwnNone
import Derived.Lib.SliceRun
import Derived.Test.YtgmjlkllghlmmaaGreatSs
namespace Go.Proofs.YtgmjlkllghlmmaaGreat
open Go.RowKit Go.Maps

/-- A slice of N elements of n cells, which are cs. -/
def RowAt (base : Nat) (w : World) (v : Value) (N n : Nat) (cs : List Value) : Prop :=
  ∃ A cap, v = .slice A N cap ∧ (A = none → cap = 0) ∧ N ≤ cap ∧ cap ≤ maxLen ∧ cs.length = N * n ∧ (∀ u ∈ cs, u.oneCell' = true) ∧
    (N ≠ 0 → ∃ b o, A = some ⟨b, o, none⟩ ∧ b < base ∧ ∀ j u, cs[j]? = some u → w.cell? ⟨b, o + j, none⟩ = some u)
theorem flat_cells {α : Type} {w : World} {n : Nat} {R : List Value → α → Prop} (h1 : ∀ cs x, R cs x → ∀ u ∈ cs, u.oneCell' = true) {b : Nat} : ∀ (xs : List α) (o : Nat), (∀ k x, xs[k]? = some x → ∃ c : List Value, c.length = n ∧ R c x ∧ ∀ j u, c[j]? = some u → w.cell? ⟨b, o + k * n + j, none⟩ = some u) →
    ∃ cs : List Value, cs.length = xs.length * n ∧ (∀ j u, cs[j]? = some u → w.cell? ⟨b, o + j, none⟩ = some u) ∧ (∀ u ∈ cs, u.oneCell' = true) ∧ ∀ k x, xs[k]? = some x → R ((cs.drop (k * n)).take n) x
  | [], _, _ => ⟨[], by simp, (fun j u hj => by simp at hj), (fun u hu => by cases hu), (fun k x hx => by simp at hx)⟩
  | x :: xs, o, h => by
    obtain ⟨c0, l0, r0, e0⟩ := h 0 x rfl
    obtain ⟨cs, l1, e1, o1, r1⟩ := flat_cells h1 xs (o + n) (fun k y hy => by
      obtain ⟨c, l, r, e⟩ := h (k + 1) y (by simpa using hy)
      exact ⟨c, l, r, fun j u hj => by
        have := e j u hj
        rwa [show o + (k + 1) * n + j = o + n + k * n + j by rw [Nat.add_mul, Nat.one_mul]; omega] at this⟩)
    refine ⟨c0 ++ cs, ?_, fun j u hj => ?_, fun u hu => ?_, fun k y hy => ?_⟩
    · rw [List.length_append, l0, l1, List.length_cons, Nat.add_mul]
      omega
    · by_cases hl : j < n
      · rw [List.getElem?_append_left (by omega)] at hj
        have := e0 j u hj
        simpa using this
      · rw [List.getElem?_append_right (by omega), l0] at hj
        have := e1 (j - n) u hj
        rwa [show o + n + (j - n) = o + j by omega] at this
    · rcases List.mem_append.1 hu with hu | hu
      · exact h1 _ _ r0 u hu
      · exact o1 u hu
    · cases k with
      | zero =>
        obtain rfl : x = y := by simpa using hy
        rw [Nat.zero_mul, List.drop_zero, ← l0, List.take_left']
        · exact r0
        · rfl
      | succ k =>
        have e : (c0 ++ cs).drop ((k + 1) * n) = cs.drop (k * n) := by
          rw [List.drop_append, List.drop_eq_nil_of_le (by rw [Nat.add_mul, l0]; omega), List.nil_append, l0]
          congr 1
          rw [Nat.add_mul]
          omega
        rw [e]
        exact r1 k y (by simpa using hy)
theorem SlAt.row {α : Type} {base n : Nat} {w : World} {R : List Value → α → Prop} {v : Value} {xs : List α} (h : SlAt base w n R v xs) (h1 : ∀ cs x, R cs x → ∀ u ∈ cs, u.oneCell' = true) :
    ∃ cs, RowAt base w v xs.length n cs ∧ ∀ k x, xs[k]? = some x → R ((cs.drop (k * n)).take n) x := by
  obtain ⟨A, cap, e, h0, hl, hm, h3⟩ := h
  by_cases hx : xs = []
  · subst hx
    exact ⟨[], ⟨A, cap, e, h0, hl, hm, by simp, (fun u hu => by cases hu), fun hn => absurd rfl hn⟩, fun k x hx => by simp at hx⟩
  · obtain ⟨b, o, ea, hb, hr⟩ := h3 hx
    obtain ⟨cs, l1, e1, o1, r1⟩ := flat_cells h1 xs o hr
    exact ⟨cs, ⟨A, cap, e, h0, hl, hm, l1, o1, fun _ => ⟨b, o, ea, hb, e1⟩⟩, r1⟩
/-- A row of the call's own, as a slice. -/
theorem SlAt.own {α : Type} {base n : Nat} {w : World} {t : TypeId} {R : List Value → α → Prop} {v : Value} {xs : List α} {cs : List Value} (h : w.ownsRow base t n v xs.length cs) (hr : ∀ k x, xs[k]? = some x → R ((cs.drop (k * n)).take n) x) : SlAt w.heap.size w n R v xs := by
  have h' := h
  obtain ⟨hl, hc⟩ := h
  rcases hc with ⟨rfl, h0⟩ | ⟨g, cap, cur, rfl, hb, hg, hn, hcap, hs, ht⟩
  · exact ⟨none, 0, by rw [h0], fun _ => rfl, by omega, by unfold maxLen; omega, fun hn => absurd (List.length_eq_zero_iff.1 h0) hn⟩
  · refine ⟨_, cap, rfl, (fun e => by cases e), hn, hcap, fun _ => ⟨g, 0, rfl, (Array.getElem?_eq_some_iff.1 hg).1, fun k x hx => ?_⟩⟩
    have hk := (List.getElem?_eq_some_iff.1 hx).1
    have hle : k * n + n ≤ cs.length := by
      have hm := Nat.mul_le_mul_right n (show k + 1 ≤ xs.length from hk)
      rw [Nat.add_mul, Nat.one_mul] at hm
      omega
    refine ⟨(cs.drop (k * n)).take n, ?_, hr k x hx, fun j u hj => ?_⟩
    · rw [List.length_take, List.length_drop]
      omega
    · have hjn : j < n := by
        have := (List.getElem?_eq_some_iff.1 hj).1
        rw [List.length_take] at this
        omega
      rw [List.getElem?_take_of_lt hjn, List.getElem?_drop] at hj
      have := h'.cells (g := g) rfl (k * n + j) u hj
      rw [Addr.add_lit] at this
      rwa [show 0 + k * n + j = 0 + (k * n + j) by omega]
theorem append_runC {P : Program} {w w' : World} {ops : Array Oper} {rest : List Oper} {o : Oper} {a : Act} {Q : Exit → Act → World → Prop} (hgd : o.guard = none) (s x : Operand) (t : TypeId)
    (ho : o.op = .call { callee := .builtin .append, args := #[s, x], argTypes := #[t, t] }) {v x' v' : Value} (hs : a.eval s = v) (hx : a.eval x = x') (hr : (Builtin.append_ #[t, t] o.type #[v, x']).run P w = .ok v' w')
    (h : wpList P ops Q rest (a.put o.dst v') w') : wpList P ops Q (o :: rest) a w := by
  refine wpList_plain hgd fun K hK => ?_
  unfold Oper.wp execOp
  simp only [ho, resolve, invoke, builtin, Sem.run_bind, Sem.run_pure, Result.andThen_ok, List.map_toArray, List.map_cons, List.map_nil, hs, hx, hr]
  exact hK _ _ h
theorem Below.appC {B base : Nat} {w0 w w' : World} {t : TypeId} {s n : Nat} {v : Value} {cs : List Value} (h : Below B w0 w) (ho : w.ownsRow base t s v n cs) (hg : w.grownBy w' v.ownBlock) (hB : B ≤ base) (hb : base ≤ w.heap.size) : Below B w0 w' :=
  h.grown hg (by omega) (fun k e => by have := (ho.lt k e).1; omega)
theorem oneI (cs : List Value) (x : Int) (h : IsI cs x) : ∀ u ∈ cs, u.oneCell' = true := by
  unfold IsI at h
  subst h
  intro u hu
  simp only [List.mem_cons, List.not_mem_nil, or_false] at hu
  subst hu
  rfl
theorem oneLk (cs : List Value) (x : Lk) (h : IsLk cs x) : ∀ u ∈ cs, u.oneCell' = true := by
  unfold IsLk at h
  subst h
  intro u hu
  simp only [List.mem_cons, List.not_mem_nil, or_false] at hu
  rcases hu with rfl | rfl | rfl | rfl <;> rfl
theorem oneRule (cs : List Value) (x : NRule) (h : IsRule cs x) : ∀ u ∈ cs, u.oneCell' = true := by
  unfold IsRule at h
  subst h
  intro u hu
  simp only [List.mem_cons, List.not_mem_nil, or_false] at hu
  rcases hu with rfl | rfl | rfl | rfl | rfl <;> rfl
theorem oneRoute (cs : List Value) (x : NRoute) (h : IsRoute cs x) : ∀ u ∈ cs, u.oneCell' = true := by
  unfold IsRoute at h
  subst h
  intro u hu
  simp only [List.mem_cons, List.not_mem_nil, or_false] at hu
  rcases hu with rfl | rfl | rfl <;> rfl
theorem oneDv {base : Nat} {w : World} (cs : List Value) (x : Dv) (h : IsDv base w cs x) : ∀ u ∈ cs, u.oneCell' = true := by
  obtain ⟨vb, vr, vt, rfl, h1, h2, h3⟩ := h
  obtain ⟨_, _, rfl, _⟩ := h1
  obtain ⟨_, _, rfl, _⟩ := h2
  obtain ⟨_, _, rfl, _⟩ := h3
  intro u hu
  simp only [List.mem_cons, List.not_mem_nil, or_false] at hu
  rcases hu with rfl | rfl | rfl | rfl | rfl | rfl | rfl <;> rfl
theorem u_ints : Tryz.prog.underlying 74 = some (.slice 3) := by kernel_rfl
theorem info_ints : (Tryz.prog.info? 3).map (fun i => (i.zero, i.size, i.bytes)) = some (some (.int .i64 0), 1, 8) := by kernel_rfl
set_option maxHeartbeats 1000000 in
set_option maxRecDepth 100000 in
theorem clone_ints {v : Value} {N : Nat} {cs : List Value} (w : World) (h : RowAt w.heap.size w v N 1 cs) (hs : N ≤ 1048576) :
    Calls Tryz.prog 61 #[v] w fun e w' => ∃ v', e = .returned v' ∧ w'.ownsRow w.heap.size 3 1 v' N cs ∧ Below w.heap.size w w' := by
  have q : ∀ (w : World) (a : Option Addr) (n c n' c' : Nat), (binOp .eql 74 (.slice a n c) (.slice none n' c')).run Tryz.prog w = .ok (.bool a.isNone) w := fun w a n c n' c' => Lib.run_eql_slice_nil w _ _ a n c n' c' u_ints
  obtain ⟨i0, hi, hz0, hz1, hz2⟩ := info_parts info_ints
  have D0 := Below.alN (Below.refl w.heap.size w) (.cells #[] 3)
  have o0 : (w.alloc (.cells #[] 3)).ownsRow w.heap.size 3 1 (.slice (some ⟨w.heap.size, 0, none⟩) 0 0) 0 [] := World.ownsRow_made w #[] 0 (Nat.le_refl _) (Nat.zero_le _) (by simp)
  obtain ⟨A, cap, rfl, h0, h1, h2, hl, ho, h3⟩ := h
  cases A with
  | none =>
    have hN : N = 0 := by
      by_cases hn : N = 0
      · exact hn
      · obtain ⟨_, _, e, _⟩ := h3 hn
        cases e
    subst hN
    have hcs : cs = [] := List.length_eq_zero_iff.1 (by simpa using hl)
    subst hcs
    clear h3 ho hl hs o0
    go_enter Tryz.func61, Tryz.ntmps61
    go_wp2_with fail
    go_ret
    exact ⟨_, rfl, World.ownsRow_nil _ _ _ _, Below.refl _ _⟩
  | some ad =>
    obtain ⟨v', w', hr, h4, h5, _⟩ := run_append_own (P := Tryz.prog) (w.alloc (.cells #[] 3)) w.heap.size 74 74 3 i0 _ 1 8 u_ints hi hz0 hz1 hz2 rfl (by decide) _ 0 [] o0 ad N cap cs hl (fun j u hj => by
      have hn : N ≠ 0 := fun e => by
        subst e
        have : cs = [] := List.length_eq_zero_iff.1 (by simpa using hl)
        subst this
        simp at hj
      obtain ⟨b, o, e, hb, hr⟩ := h3 hn
      cases e
      rw [Addr.add_lit]
      exact (D0.cell (p := ⟨b, o + j, none⟩) hb).trans (hr j u hj)) ho (by unfold maxLen; omega) (by omega) (by simp)
    have D1 := Below.appC D0 o0 h5 (Nat.le_refl _) (by simp)
    simp only [List.nil_append, Nat.zero_add] at h4
    have fin : Hid (w'.ownsRow w.heap.size 3 1 v' N cs ∧ Below w.heap.size w w') := ⟨h4, D1⟩
    clear h0 h1 h2 h3 h5 hs o0 D0 h4 D1 hl ho
    go_enter Tryz.func61, Tryz.ntmps61
    go_wp2_with (at_builtin; refine append_runC rfl _ _ 74 rfl rfl rfl hr ?_)
    go_ret
    exact ⟨_, rfl, fin.out⟩
theorem u_links : Tryz.prog.underlying 23 = some (.slice 83) := by kernel_rfl
theorem info_links : (Tryz.prog.info? 83).map (fun i => (i.zero, i.size, i.bytes)) = some (some (.agg #[.int .i64 0, .int .i64 0, .int .i64 0, .int .i64 0]), 4, 32) := by kernel_rfl
set_option maxHeartbeats 1000000 in
set_option maxRecDepth 100000 in
theorem clone_links {v : Value} {N : Nat} {cs : List Value} (w : World) (h : RowAt w.heap.size w v N 4 cs) (hs : N ≤ 1048576) :
    Calls Tryz.prog 60 #[v] w fun e w' => ∃ v', e = .returned v' ∧ w'.ownsRow w.heap.size 83 4 v' N cs ∧ Below w.heap.size w w' := by
  have q : ∀ (w : World) (a : Option Addr) (n c n' c' : Nat), (binOp .eql 23 (.slice a n c) (.slice none n' c')).run Tryz.prog w = .ok (.bool a.isNone) w := fun w a n c n' c' => Lib.run_eql_slice_nil w _ _ a n c n' c' u_links
  obtain ⟨i0, hi, hz0, hz1, hz2⟩ := info_parts info_links
  have D0 := Below.alN (Below.refl w.heap.size w) (.cells #[] 83)
  have o0 : (w.alloc (.cells #[] 83)).ownsRow w.heap.size 83 4 (.slice (some ⟨w.heap.size, 0, none⟩) 0 0) 0 [] := World.ownsRow_made w #[] 0 (Nat.le_refl _) (Nat.zero_le _) (by simp)
  obtain ⟨A, cap, rfl, h0, h1, h2, hl, ho, h3⟩ := h
  cases A with
  | none =>
    have hN : N = 0 := by
      by_cases hn : N = 0
      · exact hn
      · obtain ⟨_, _, e, _⟩ := h3 hn
        cases e
    subst hN
    have hcs : cs = [] := List.length_eq_zero_iff.1 (by simpa using hl)
    subst hcs
    clear h3 ho hl hs o0
    go_enter Tryz.func60, Tryz.ntmps60
    go_wp2_with fail
    go_ret
    exact ⟨_, rfl, World.ownsRow_nil _ _ _ _, Below.refl _ _⟩
  | some ad =>
    obtain ⟨v', w', hr, h4, h5, _⟩ := run_append_own (P := Tryz.prog) (w.alloc (.cells #[] 83)) w.heap.size 23 23 83 i0 _ 4 32 u_links hi hz0 hz1 hz2 rfl (by decide) _ 0 [] o0 ad N cap cs hl (fun j u hj => by
      have hn : N ≠ 0 := fun e => by
        subst e
        have : cs = [] := List.length_eq_zero_iff.1 (by simpa using hl)
        subst this
        simp at hj
      obtain ⟨b, o, e, hb, hr⟩ := h3 hn
      cases e
      rw [Addr.add_lit]
      exact (D0.cell (p := ⟨b, o + j, none⟩) hb).trans (hr j u hj)) ho (by unfold maxLen; omega) (by omega) (by simp)
    have D1 := Below.appC D0 o0 h5 (Nat.le_refl _) (by simp)
    simp only [List.nil_append, Nat.zero_add] at h4
    have fin : Hid (w'.ownsRow w.heap.size 83 4 v' N cs ∧ Below w.heap.size w w') := ⟨h4, D1⟩
    clear h0 h1 h2 h3 h5 hs o0 D0 h4 D1 hl ho
    go_enter Tryz.func60, Tryz.ntmps60
    go_wp2_with (at_builtin; refine append_runC rfl _ _ 23 rfl rfl rfl hr ?_)
    go_ret
    exact ⟨_, rfl, fin.out⟩
theorem u_rules : Tryz.prog.underlying 75 = some (.slice 140) := by kernel_rfl
theorem info_rules : (Tryz.prog.info? 140).map (fun i => (i.zero, i.size, i.bytes)) = some (some (.agg #[.bool false, .int .u16 0, .int .u16 0, .int .u8 0, .int .u8 0]), 5, 8) := by kernel_rfl
set_option maxHeartbeats 1000000 in
set_option maxRecDepth 100000 in
theorem clone_rules {v : Value} {N : Nat} {cs : List Value} (w : World) (h : RowAt w.heap.size w v N 5 cs) (hs : N ≤ 1048576) :
    Calls Tryz.prog 62 #[v] w fun e w' => ∃ v', e = .returned v' ∧ w'.ownsRow w.heap.size 140 5 v' N cs ∧ Below w.heap.size w w' := by
  have q : ∀ (w : World) (a : Option Addr) (n c n' c' : Nat), (binOp .eql 75 (.slice a n c) (.slice none n' c')).run Tryz.prog w = .ok (.bool a.isNone) w := fun w a n c n' c' => Lib.run_eql_slice_nil w _ _ a n c n' c' u_rules
  obtain ⟨i0, hi, hz0, hz1, hz2⟩ := info_parts info_rules
  have D0 := Below.alN (Below.refl w.heap.size w) (.cells #[] 140)
  have o0 : (w.alloc (.cells #[] 140)).ownsRow w.heap.size 140 5 (.slice (some ⟨w.heap.size, 0, none⟩) 0 0) 0 [] := World.ownsRow_made w #[] 0 (Nat.le_refl _) (Nat.zero_le _) (by simp)
  obtain ⟨A, cap, rfl, h0, h1, h2, hl, ho, h3⟩ := h
  cases A with
  | none =>
    have hN : N = 0 := by
      by_cases hn : N = 0
      · exact hn
      · obtain ⟨_, _, e, _⟩ := h3 hn
        cases e
    subst hN
    have hcs : cs = [] := List.length_eq_zero_iff.1 (by simpa using hl)
    subst hcs
    clear h3 ho hl hs o0
    go_enter Tryz.func62, Tryz.ntmps62
    go_wp2_with fail
    go_ret
    exact ⟨_, rfl, World.ownsRow_nil _ _ _ _, Below.refl _ _⟩
  | some ad =>
    obtain ⟨v', w', hr, h4, h5, _⟩ := run_append_own (P := Tryz.prog) (w.alloc (.cells #[] 140)) w.heap.size 75 75 140 i0 _ 5 8 u_rules hi hz0 hz1 hz2 rfl (by decide) _ 0 [] o0 ad N cap cs hl (fun j u hj => by
      have hn : N ≠ 0 := fun e => by
        subst e
        have : cs = [] := List.length_eq_zero_iff.1 (by simpa using hl)
        subst this
        simp at hj
      obtain ⟨b, o, e, hb, hr⟩ := h3 hn
      cases e
      rw [Addr.add_lit]
      exact (D0.cell (p := ⟨b, o + j, none⟩) hb).trans (hr j u hj)) ho (by unfold maxLen; omega) (by omega) (by simp)
    have D1 := Below.appC D0 o0 h5 (Nat.le_refl _) (by simp)
    simp only [List.nil_append, Nat.zero_add] at h4
    have fin : Hid (w'.ownsRow w.heap.size 140 5 v' N cs ∧ Below w.heap.size w w') := ⟨h4, D1⟩
    clear h0 h1 h2 h3 h5 hs o0 D0 h4 D1 hl ho
    go_enter Tryz.func62, Tryz.ntmps62
    go_wp2_with (at_builtin; refine append_runC rfl _ _ 75 rfl rfl rfl hr ?_)
    go_ret
    exact ⟨_, rfl, fin.out⟩
theorem u_routes : Tryz.prog.underlying 76 = some (.slice 143) := by kernel_rfl
theorem info_routes : (Tryz.prog.info? 143).map (fun i => (i.zero, i.size, i.bytes)) = some (some (.agg #[.int .i64 0, .int .i64 0, .int .i64 0]), 3, 24) := by kernel_rfl
set_option maxHeartbeats 1000000 in
set_option maxRecDepth 100000 in
theorem clone_routes {v : Value} {N : Nat} {cs : List Value} (w : World) (h : RowAt w.heap.size w v N 3 cs) (hs : N ≤ 1048576) :
    Calls Tryz.prog 63 #[v] w fun e w' => ∃ v', e = .returned v' ∧ w'.ownsRow w.heap.size 143 3 v' N cs ∧ Below w.heap.size w w' := by
  have q : ∀ (w : World) (a : Option Addr) (n c n' c' : Nat), (binOp .eql 76 (.slice a n c) (.slice none n' c')).run Tryz.prog w = .ok (.bool a.isNone) w := fun w a n c n' c' => Lib.run_eql_slice_nil w _ _ a n c n' c' u_routes
  obtain ⟨i0, hi, hz0, hz1, hz2⟩ := info_parts info_routes
  have D0 := Below.alN (Below.refl w.heap.size w) (.cells #[] 143)
  have o0 : (w.alloc (.cells #[] 143)).ownsRow w.heap.size 143 3 (.slice (some ⟨w.heap.size, 0, none⟩) 0 0) 0 [] := World.ownsRow_made w #[] 0 (Nat.le_refl _) (Nat.zero_le _) (by simp)
  obtain ⟨A, cap, rfl, h0, h1, h2, hl, ho, h3⟩ := h
  cases A with
  | none =>
    have hN : N = 0 := by
      by_cases hn : N = 0
      · exact hn
      · obtain ⟨_, _, e, _⟩ := h3 hn
        cases e
    subst hN
    have hcs : cs = [] := List.length_eq_zero_iff.1 (by simpa using hl)
    subst hcs
    clear h3 ho hl hs o0
    go_enter Tryz.func63, Tryz.ntmps63
    go_wp2_with fail
    go_ret
    exact ⟨_, rfl, World.ownsRow_nil _ _ _ _, Below.refl _ _⟩
  | some ad =>
    obtain ⟨v', w', hr, h4, h5, _⟩ := run_append_own (P := Tryz.prog) (w.alloc (.cells #[] 143)) w.heap.size 76 76 143 i0 _ 3 24 u_routes hi hz0 hz1 hz2 rfl (by decide) _ 0 [] o0 ad N cap cs hl (fun j u hj => by
      have hn : N ≠ 0 := fun e => by
        subst e
        have : cs = [] := List.length_eq_zero_iff.1 (by simpa using hl)
        subst this
        simp at hj
      obtain ⟨b, o, e, hb, hr⟩ := h3 hn
      cases e
      rw [Addr.add_lit]
      exact (D0.cell (p := ⟨b, o + j, none⟩) hb).trans (hr j u hj)) ho (by unfold maxLen; omega) (by omega) (by simp)
    have D1 := Below.appC D0 o0 h5 (Nat.le_refl _) (by simp)
    simp only [List.nil_append, Nat.zero_add] at h4
    have fin : Hid (w'.ownsRow w.heap.size 143 3 v' N cs ∧ Below w.heap.size w w') := ⟨h4, D1⟩
    clear h0 h1 h2 h3 h5 hs o0 D0 h4 D1 hl ho
    go_enter Tryz.func63, Tryz.ntmps63
    go_wp2_with (at_builtin; refine append_runC rfl _ _ 76 rfl rfl rfl hr ?_)
    go_ret
    exact ⟨_, rfl, fin.out⟩
theorem u_devs : Tryz.prog.underlying 22 = some (.slice 78) := by kernel_rfl
theorem info_devs : (Tryz.prog.info? 78).map (fun i => (i.zero, i.size, i.bytes)) = some (some (.agg #[.string ⟨#[]⟩, .int .i64 0, .int .i64 0, .int .u8 0, .slice none 0 0, .slice none 0 0, .slice none 0 0]), 7, 112) := by kernel_rfl
set_option maxHeartbeats 1000000 in
set_option maxRecDepth 100000 in
theorem clone_devs {v : Value} {N : Nat} {cs : List Value} (w : World) (h : RowAt w.heap.size w v N 7 cs) (hs : N ≤ 1048576) :
    Calls Tryz.prog 59 #[v] w fun e w' => ∃ v', e = .returned v' ∧ w'.ownsRow w.heap.size 78 7 v' N cs ∧ Below w.heap.size w w' := by
  have q : ∀ (w : World) (a : Option Addr) (n c n' c' : Nat), (binOp .eql 22 (.slice a n c) (.slice none n' c')).run Tryz.prog w = .ok (.bool a.isNone) w := fun w a n c n' c' => Lib.run_eql_slice_nil w _ _ a n c n' c' u_devs
  obtain ⟨i0, hi, hz0, hz1, hz2⟩ := info_parts info_devs
  have D0 := Below.alN (Below.refl w.heap.size w) (.cells #[] 78)
  have o0 : (w.alloc (.cells #[] 78)).ownsRow w.heap.size 78 7 (.slice (some ⟨w.heap.size, 0, none⟩) 0 0) 0 [] := World.ownsRow_made w #[] 0 (Nat.le_refl _) (Nat.zero_le _) (by simp)
  obtain ⟨A, cap, rfl, h0, h1, h2, hl, ho, h3⟩ := h
  cases A with
  | none =>
    have hN : N = 0 := by
      by_cases hn : N = 0
      · exact hn
      · obtain ⟨_, _, e, _⟩ := h3 hn
        cases e
    subst hN
    have hcs : cs = [] := List.length_eq_zero_iff.1 (by simpa using hl)
    subst hcs
    clear h3 ho hl hs o0
    go_enter Tryz.func59, Tryz.ntmps59
    go_wp2_with fail
    go_ret
    exact ⟨_, rfl, World.ownsRow_nil _ _ _ _, Below.refl _ _⟩
  | some ad =>
    obtain ⟨v', w', hr, h4, h5, _⟩ := run_append_own (P := Tryz.prog) (w.alloc (.cells #[] 78)) w.heap.size 22 22 78 i0 _ 7 112 u_devs hi hz0 hz1 hz2 rfl (by decide) _ 0 [] o0 ad N cap cs hl (fun j u hj => by
      have hn : N ≠ 0 := fun e => by
        subst e
        have : cs = [] := List.length_eq_zero_iff.1 (by simpa using hl)
        subst this
        simp at hj
      obtain ⟨b, o, e, hb, hr⟩ := h3 hn
      cases e
      rw [Addr.add_lit]
      exact (D0.cell (p := ⟨b, o + j, none⟩) hb).trans (hr j u hj)) ho (by unfold maxLen; omega) (by omega) (by simp)
    have D1 := Below.appC D0 o0 h5 (Nat.le_refl _) (by simp)
    simp only [List.nil_append, Nat.zero_add] at h4
    have fin : Hid (w'.ownsRow w.heap.size 78 7 v' N cs ∧ Below w.heap.size w w') := ⟨h4, D1⟩
    clear h0 h1 h2 h3 h5 hs o0 D0 h4 D1 hl ho
    go_enter Tryz.func59, Tryz.ntmps59
    go_wp2_with (at_builtin; refine append_runC rfl _ _ 22 rfl rfl rfl hr ?_)
    go_ret
    exact ⟨_, rfl, fin.out⟩
end Go.Proofs.YtgmjlkllghlmmaaGreat

namespace Go.Proofs.YtgmjlkllghlmmaaGreat
open Go.RowKit Go.Maps

theorem cell_of_blockC {w w' : World} {b o : Nat} (h : w'.heap[b]? = w.heap[b]?) : w'.cell? ⟨b, o, none⟩ = w.cell? ⟨b, o, none⟩ := by
  unfold World.cell?
  rw [h]
/-- The slice's array isn't block k. -/
def NotB (k : Nat) (v : Value) : Prop := ∀ b o n c, v = .slice (some ⟨b, o, none⟩) n c → n ≠ 0 → b ≠ k
/-- The slice's array lies below lo, or from hi on. -/
def NotIn (lo hi : Nat) (v : Value) : Prop := ∀ b o n c, v = .slice (some ⟨b, o, none⟩) n c → n ≠ 0 → b < lo ∨ hi ≤ b
theorem NotIn.b {lo hi k : Nat} {v : Value} (h : NotIn lo hi v) (h1 : lo ≤ k) (h2 : k < hi) : NotB k v := fun b o n c e hn => by
  have := h b o n c e hn
  omega
theorem SlAt.setB {α : Type} {base n k j : Nat} {w : World} {R : List Value → α → Prop} {v u : Value} {xs : List α} (h : SlAt base w n R v xs) (hn : NotB k v) : SlAt base (w.setCell ⟨k, j, none⟩ u) n R v xs := by
  obtain ⟨A, cap, rfl, h0, h1, h2, h3⟩ := h
  refine ⟨A, cap, rfl, h0, h1, h2, fun hx => ?_⟩
  obtain ⟨b, o, rfl, hl, hr⟩ := h3 hx
  have hb : b ≠ k := hn b o _ _ rfl (fun e => hx (List.length_eq_zero_iff.1 e))
  refine ⟨b, o, rfl, hl, fun i x hi => ?_⟩
  obtain ⟨cs, c1, c2, c3⟩ := hr i x hi
  exact ⟨cs, c1, c2, fun j' u' hj => (cell_of_blockC (Below.heap_setCell w ⟨k, j, none⟩ u b hb)).trans (c3 j' u' hj)⟩
theorem SlAt.notIn {α : Type} {base n hi : Nat} {w : World} {R : List Value → α → Prop} {v : Value} {xs : List α} (h : SlAt base w n R v xs) : NotIn base hi v := fun b o m c e hn => by
  obtain ⟨A, cap, rfl, h0, h1, h2, h3⟩ := h
  obtain ⟨b', o', e', hl, _⟩ := h3 (fun e0 => hn (by cases e; rw [e0]; rfl))
  cases e
  cases e'
  exact .inl hl
theorem own_notIn {base lo hi n N : Nat} {t : TypeId} {w : World} {v : Value} {cs : List Value} (h : w.ownsRow base t n v N cs) (hb : hi ≤ base) : NotIn lo hi v := fun b o m c e hn => by
  rcases h.2 with ⟨rfl, _⟩ | ⟨g, cap, cur, rfl, hg, _⟩
  · cases e
  · cases e
    exact .inr (by omega)
/-- A row of devices in block g: as the devices are, their lists apart from blocks lo to hi. -/
def DvRow (lo hi g : Nat) (w : World) (ds : List Dv) : Prop := ∀ k d, ds[k]? = some d → ∃ vb vr vt, (w.cell? ⟨g, k * 7, none⟩ = some (.string d.name) ∧ w.cell? ⟨g, k * 7 + 1, none⟩ = some (.int .i64 d.kind) ∧ w.cell? ⟨g, k * 7 + 2, none⟩ = some (.int .i64 d.addr) ∧ w.cell? ⟨g, k * 7 + 3, none⟩ = some (.int .u8 (d.pool : Int)) ∧ w.cell? ⟨g, k * 7 + 4, none⟩ = some vb ∧ w.cell? ⟨g, k * 7 + 5, none⟩ = some vr ∧ w.cell? ⟨g, k * 7 + 6, none⟩ = some vt) ∧ (SlAt w.heap.size w 1 IsI vb d.backs ∧ SlAt w.heap.size w 5 IsRule vr d.rules ∧ SlAt w.heap.size w 3 IsRoute vt d.routes) ∧ NotIn lo hi vb ∧ NotIn lo hi vr ∧ NotIn lo hi vt
theorem cell_set {w : World} {a : Addr} {u v : Value} (h : w.cell? a = some v) : (w.setCell a u).cell? a = some u := by
  have hs := spotN h
  obtain ⟨b, o, sp⟩ := a
  simp only at hs
  subst hs
  simp [go_sem, h]
theorem cell_off {w : World} {b i j : Nat} {u : Value} (h : i ≠ j) : (w.setCell ⟨b, j, none⟩ u).cell? ⟨b, i, none⟩ = w.cell? ⟨b, i, none⟩ := by
  simp [go_sem]
section
variable {lo hi g : Nat} {w w' : World} {ds : List Dv}
theorem DvRow.below (h : DvRow lo hi g w ds) (hb : Below w.heap.size w w') : DvRow lo hi g w' ds := fun k d hk => by
  obtain ⟨vb, vr, vt, ⟨c0, c1, c2, c3, c4, c5, c6⟩, ⟨s1, s2, s3⟩, n1, n2, n3⟩ := h k d hk
  have C := fun {o : Nat} {v : Value} (hc : w.cell? ⟨g, o, none⟩ = some v) => (CK.of_below hb).cell hc
  exact ⟨vb, vr, vt, ⟨C c0, C c1, C c2, C c3, C c4, C c5, C c6⟩, ⟨SlAt.mono (SlAt.below s1 hb (fun _ _ _ h => h)) hb.size (fun _ _ _ h => h), SlAt.mono (SlAt.below s2 hb (fun _ _ _ h => h)) hb.size (fun _ _ _ h => h), SlAt.mono (SlAt.below s3 hb (fun _ _ _ h => h)) hb.size (fun _ _ _ h => h)⟩, n1, n2, n3⟩
theorem DvRow.other (h : DvRow lo hi g w ds) {k j : Nat} {u : Value} (hne : g ≠ k) (h1 : lo ≤ k) (h2 : k < hi) : DvRow lo hi g (w.setCell ⟨k, j, none⟩ u) ds := fun i d hi' => by
  obtain ⟨vb, vr, vt, ⟨c0, c1, c2, c3, c4, c5, c6⟩, ⟨s1, s2, s3⟩, n1, n2, n3⟩ := h i d hi'
  have C := fun {o : Nat} {v : Value} (hc : w.cell? ⟨g, o, none⟩ = some v) => (cell_of_blockC (o := o) (Below.heap_setCell w ⟨k, j, none⟩ u g hne)).trans hc
  have sz : (w.setCell ⟨k, j, none⟩ u).heap.size = w.heap.size := by simp [World.setCell]
  rw [sz]
  exact ⟨vb, vr, vt, ⟨C c0, C c1, C c2, C c3, C c4, C c5, C c6⟩, ⟨s1.setB (n1.b h1 h2), s2.setB (n2.b h1 h2), s3.setB (n3.b h1 h2)⟩, n1, n2, n3⟩
theorem DvRow.set4 (h : DvRow lo hi g w ds) {k : Nat} {d : Dv} {u : Value} (hk : ds[k]? = some d) (hs : SlAt w.heap.size w 1 IsI u d.backs) (hn : NotIn lo hi u) (h1 : lo ≤ g) (h2 : g < hi) : DvRow lo hi g (w.setCell ⟨g, k * 7 + 4, none⟩ u) ds := fun i d' hi' => by
  have sz : (w.setCell ⟨g, k * 7 + 4, none⟩ u).heap.size = w.heap.size := by simp [World.setCell]
  rw [sz]
  by_cases e : i = k
  · subst e
    rw [hk] at hi'
    obtain rfl := Option.some.inj hi'
    obtain ⟨vb, vr, vt, ⟨c0, c1, c2, c3, c4, c5, c6⟩, ⟨s1, s2, s3⟩, n1, n2, n3⟩ := h i d hk
    exact ⟨u, vr, vt, ⟨(cell_off (by omega)).trans c0, (cell_off (by omega)).trans c1, (cell_off (by omega)).trans c2, (cell_off (by omega)).trans c3, (cell_set c4), (cell_off (by omega)).trans c5, (cell_off (by omega)).trans c6⟩, ⟨hs.setB (hn.b h1 h2), s2.setB (n2.b h1 h2), s3.setB (n3.b h1 h2)⟩, hn, n2, n3⟩
  · obtain ⟨vb, vr, vt, ⟨e0, e1, e2, e3, e4, e5, e6⟩, ⟨s1, s2, s3⟩, n1, n2, n3⟩ := h i d' hi'
    exact ⟨vb, vr, vt, ⟨(cell_off (by omega)).trans e0, (cell_off (by omega)).trans e1, (cell_off (by omega)).trans e2, (cell_off (by omega)).trans e3, (cell_off (by omega)).trans e4, (cell_off (by omega)).trans e5, (cell_off (by omega)).trans e6⟩, ⟨s1.setB (n1.b h1 h2), s2.setB (n2.b h1 h2), s3.setB (n3.b h1 h2)⟩, n1, n2, n3⟩
theorem DvRow.set5 (h : DvRow lo hi g w ds) {k : Nat} {d : Dv} {u : Value} (hk : ds[k]? = some d) (hs : SlAt w.heap.size w 5 IsRule u d.rules) (hn : NotIn lo hi u) (h1 : lo ≤ g) (h2 : g < hi) : DvRow lo hi g (w.setCell ⟨g, k * 7 + 5, none⟩ u) ds := fun i d' hi' => by
  have sz : (w.setCell ⟨g, k * 7 + 5, none⟩ u).heap.size = w.heap.size := by simp [World.setCell]
  rw [sz]
  by_cases e : i = k
  · subst e
    rw [hk] at hi'
    obtain rfl := Option.some.inj hi'
    obtain ⟨vb, vr, vt, ⟨c0, c1, c2, c3, c4, c5, c6⟩, ⟨s1, s2, s3⟩, n1, n2, n3⟩ := h i d hk
    exact ⟨vb, u, vt, ⟨(cell_off (by omega)).trans c0, (cell_off (by omega)).trans c1, (cell_off (by omega)).trans c2, (cell_off (by omega)).trans c3, (cell_off (by omega)).trans c4, (cell_set c5), (cell_off (by omega)).trans c6⟩, ⟨s1.setB (n1.b h1 h2), hs.setB (hn.b h1 h2), s3.setB (n3.b h1 h2)⟩, n1, hn, n3⟩
  · obtain ⟨vb, vr, vt, ⟨e0, e1, e2, e3, e4, e5, e6⟩, ⟨s1, s2, s3⟩, n1, n2, n3⟩ := h i d' hi'
    exact ⟨vb, vr, vt, ⟨(cell_off (by omega)).trans e0, (cell_off (by omega)).trans e1, (cell_off (by omega)).trans e2, (cell_off (by omega)).trans e3, (cell_off (by omega)).trans e4, (cell_off (by omega)).trans e5, (cell_off (by omega)).trans e6⟩, ⟨s1.setB (n1.b h1 h2), s2.setB (n2.b h1 h2), s3.setB (n3.b h1 h2)⟩, n1, n2, n3⟩
theorem DvRow.set6 (h : DvRow lo hi g w ds) {k : Nat} {d : Dv} {u : Value} (hk : ds[k]? = some d) (hs : SlAt w.heap.size w 3 IsRoute u d.routes) (hn : NotIn lo hi u) (h1 : lo ≤ g) (h2 : g < hi) : DvRow lo hi g (w.setCell ⟨g, k * 7 + 6, none⟩ u) ds := fun i d' hi' => by
  have sz : (w.setCell ⟨g, k * 7 + 6, none⟩ u).heap.size = w.heap.size := by simp [World.setCell]
  rw [sz]
  by_cases e : i = k
  · subst e
    rw [hk] at hi'
    obtain rfl := Option.some.inj hi'
    obtain ⟨vb, vr, vt, ⟨c0, c1, c2, c3, c4, c5, c6⟩, ⟨s1, s2, s3⟩, n1, n2, n3⟩ := h i d hk
    exact ⟨vb, vr, u, ⟨(cell_off (by omega)).trans c0, (cell_off (by omega)).trans c1, (cell_off (by omega)).trans c2, (cell_off (by omega)).trans c3, (cell_off (by omega)).trans c4, (cell_off (by omega)).trans c5, (cell_set c6)⟩, ⟨s1.setB (n1.b h1 h2), s2.setB (n2.b h1 h2), hs.setB (hn.b h1 h2)⟩, n1, n2, hn⟩
  · obtain ⟨vb, vr, vt, ⟨e0, e1, e2, e3, e4, e5, e6⟩, ⟨s1, s2, s3⟩, n1, n2, n3⟩ := h i d' hi'
    exact ⟨vb, vr, vt, ⟨(cell_off (by omega)).trans e0, (cell_off (by omega)).trans e1, (cell_off (by omega)).trans e2, (cell_off (by omega)).trans e3, (cell_off (by omega)).trans e4, (cell_off (by omega)).trans e5, (cell_off (by omega)).trans e6⟩, ⟨s1.setB (n1.b h1 h2), s2.setB (n2.b h1 h2), s3.setB (n3.b h1 h2)⟩, n1, n2, n3⟩

end
theorem DvRow.devs {lo hi g : Nat} {w : World} {ds : List Dv} {cap : Nat} (h : DvRow lo hi g w ds) (hg : g < w.heap.size) (h1 : ds.length ≤ cap) (h2 : cap ≤ maxLen) : Devs w.heap.size w (.slice (some ⟨g, 0, none⟩) ds.length cap) ds := by
  refine ⟨_, cap, rfl, (fun e => by cases e), h1, h2, fun _ => ⟨g, 0, rfl, hg, fun k d hk => ?_⟩⟩
  obtain ⟨vb, vr, vt, ⟨c0, c1, c2, c3, c4, c5, c6⟩, ⟨s1, s2, s3⟩, _⟩ := h k d hk
  refine ⟨[.string d.name, .int .i64 d.kind, .int .i64 d.addr, .int .u8 (d.pool : Int), vb, vr, vt], rfl, ⟨vb, vr, vt, rfl, s1, s2, s3⟩, fun j u hj => ?_⟩
  rw [Nat.zero_add]
  match j, hj with
  | 0, hj => obtain rfl := Option.some.inj hj; exact c0
  | 1, hj => obtain rfl := Option.some.inj hj; exact c1
  | 2, hj => obtain rfl := Option.some.inj hj; exact c2
  | 3, hj => obtain rfl := Option.some.inj hj; exact c3
  | 4, hj => obtain rfl := Option.some.inj hj; exact c4
  | 5, hj => obtain rfl := Option.some.inj hj; exact c5
  | 6, hj => obtain rfl := Option.some.inj hj; exact c6
/-- Block g is one of cells, which may be written. -/
def IsB (w : World) (g : Nat) : Prop := ∃ cs t, Bk w g cs t
theorem IsB.below {w w' : World} {g : Nat} (h : IsB w g) (hb : Below w.heap.size w w') : IsB w' g := by
  obtain ⟨cs, t, h⟩ := h
  exact ⟨cs, t, h.keep hb⟩
theorem IsB.set {w : World} {g k j : Nat} {u : Value} (h : IsB w g) : IsB (w.setCell ⟨k, j, none⟩ u) g := by
  obtain ⟨cs, t, h⟩ := h
  by_cases e : g = k
  · subst e
    exact ⟨_, t, h.setS u⟩
  · exact ⟨cs, t, h.setO e u⟩
theorem IsB.fz {w : World} {g : Nat} (h : IsB w g) (o : Nat) : w.frozen? ⟨g, o, none⟩ = false := by
  obtain ⟨cs, t, h⟩ := h
  exact h.fz o
/-- A clone of devices, fresh: the lists are the elder ones. -/
def Fresh (lo : Nat) (w : World) (A : Option Addr) (cap : Nat) (w0 : World) (ds : List Dv) : Prop :=
  (A = none → cap = 0) ∧ ds.length ≤ cap ∧ cap ≤ maxLen ∧ (ds.length ≠ 0 → ∃ g, A = some ⟨g, 0, none⟩ ∧ lo ≤ g ∧ g < w.heap.size ∧ IsB w g ∧ ∀ k d, ds[k]? = some d → ∃ vb vr vt, (w.cell? ⟨g, k * 7, none⟩ = some (.string d.name) ∧ w.cell? ⟨g, k * 7 + 1, none⟩ = some (.int .i64 d.kind) ∧ w.cell? ⟨g, k * 7 + 2, none⟩ = some (.int .i64 d.addr) ∧ w.cell? ⟨g, k * 7 + 3, none⟩ = some (.int .u8 (d.pool : Int)) ∧ w.cell? ⟨g, k * 7 + 4, none⟩ = some vb ∧ w.cell? ⟨g, k * 7 + 5, none⟩ = some vr ∧ w.cell? ⟨g, k * 7 + 6, none⟩ = some vt) ∧ (SlAt w0.heap.size w0 1 IsI vb d.backs ∧ SlAt w0.heap.size w0 5 IsRule vr d.rules ∧ SlAt w0.heap.size w0 3 IsRoute vt d.routes))
theorem Fresh.below {lo : Nat} {w w' w0 : World} {A : Option Addr} {cap : Nat} {ds : List Dv} (h : Fresh lo w A cap w0 ds) (hb : Below w.heap.size w w') : Fresh lo w' A cap w0 ds := by
  obtain ⟨h0, h1, h2, h3⟩ := h
  refine ⟨h0, h1, h2, fun hn => ?_⟩
  obtain ⟨g, e, hl, hg, hB, hr⟩ := h3 hn
  refine ⟨g, e, hl, Nat.lt_of_lt_of_le hg hb.size, hB.below hb, fun k d hk => ?_⟩
  obtain ⟨vb, vr, vt, ⟨c0, c1, c2, c3, c4, c5, c6⟩, s⟩ := hr k d hk
  have C := fun {o : Nat} {v : Value} (hc : w.cell? ⟨g, o, none⟩ = some v) => (CK.of_below hb).cell hc
  exact ⟨vb, vr, vt, ⟨C c0, C c1, C c2, C c3, C c4, C c5, C c6⟩, s⟩
theorem Fresh.set {lo k j : Nat} {w w0 : World} {A : Option Addr} {cap : Nat} {ds : List Dv} {u : Value} (h : Fresh lo w A cap w0 ds) (hne : ∀ g', A = some ⟨g', 0, none⟩ → ds.length ≠ 0 → g' ≠ k) : Fresh lo (w.setCell ⟨k, j, none⟩ u) A cap w0 ds := by
  obtain ⟨h0, h1, h2, h3⟩ := h
  refine ⟨h0, h1, h2, fun hn => ?_⟩
  obtain ⟨g, e, hl, hg, hB, hr⟩ := h3 hn
  have hgk := hne g e hn
  refine ⟨g, e, hl, by simpa [World.setCell] using hg, hB.set, fun k' d hk => ?_⟩
  obtain ⟨vb, vr, vt, ⟨c0, c1, c2, c3, c4, c5, c6⟩, s⟩ := hr k' d hk
  have C := fun {o : Nat} {v : Value} (hc : w.cell? ⟨g, o, none⟩ = some v) => (cell_of_blockC (o := o) (Below.heap_setCell w ⟨k, j, none⟩ u g hgk)).trans hc
  exact ⟨vb, vr, vt, ⟨C c0, C c1, C c2, C c3, C c4, C c5, C c6⟩, s⟩
theorem Fresh.lo {lo lo' : Nat} {w w0 : World} {A : Option Addr} {cap : Nat} {ds : List Dv} (h : Fresh lo w A cap w0 ds) (hl : lo' ≤ lo) : Fresh lo' w A cap w0 ds := by
  obtain ⟨h0, h1, h2, h3⟩ := h
  refine ⟨h0, h1, h2, fun hn => ?_⟩
  obtain ⟨g, e, hg, r⟩ := h3 hn
  exact ⟨g, e, by omega, r⟩
theorem Fresh.lt {lo : Nat} {w w0 : World} {A : Option Addr} {cap : Nat} {ds : List Dv} (h : Fresh lo w A cap w0 ds) {g' : Nat} (e : A = some ⟨g', 0, none⟩) (hn : ds.length ≠ 0) : lo ≤ g' ∧ g' < w.heap.size := by
  obtain ⟨g, e', h1, h2, _⟩ := h.2.2.2 hn
  rw [e] at e'
  cases e'
  exact ⟨h1, h2⟩
theorem Fresh.row {lo hi : Nat} {w w0 : World} {A : Option Addr} {cap : Nat} {ds : List Dv} (h : Fresh lo w A cap w0 ds) (hb : Below w0.heap.size w0 w) (hn : ds.length ≠ 0) : ∃ g, A = some ⟨g, 0, none⟩ ∧ lo ≤ g ∧ g < w.heap.size ∧ IsB w g ∧ DvRow w0.heap.size hi g w ds := by
  obtain ⟨g, e, hl, hg, hB, hr⟩ := h.2.2.2 hn
  refine ⟨g, e, hl, hg, hB, fun k d hk => ?_⟩
  obtain ⟨vb, vr, vt, c, ⟨s1, s2, s3⟩⟩ := hr k d hk
  exact ⟨vb, vr, vt, c, ⟨SlAt.mono (SlAt.below s1 hb (fun _ _ _ h => h)) hb.size (fun _ _ _ h => h), SlAt.mono (SlAt.below s2 hb (fun _ _ _ h => h)) hb.size (fun _ _ _ h => h), SlAt.mono (SlAt.below s3 hb (fun _ _ _ h => h)) hb.size (fun _ _ _ h => h)⟩, s1.notIn, s2.notIn, s3.notIn⟩
theorem clone_fresh {v : Value} {ds : List Dv} {w0 : World} (W : World) (h : Devs w0.heap.size w0 v ds) (hb : Below w0.heap.size w0 W) (hs : ds.length ≤ 1048576) :
    Calls Tryz.prog 59 #[v] W fun e w' => ∃ A cap, e = .returned (.slice A ds.length cap) ∧ Fresh W.heap.size w' A cap w0 ds ∧ Below W.heap.size W w' := by
  obtain ⟨cs, hr, hf⟩ := SlAt.row h (fun cs x hx => oneDv cs x hx)
  have hr' : RowAt W.heap.size W v ds.length 7 cs := by
    obtain ⟨A, cap, e, h0, h1, h2, hl, ho, h3⟩ := hr
    refine ⟨A, cap, e, h0, h1, h2, hl, ho, fun hn => ?_⟩
    obtain ⟨b, o, ea, hlt, hc⟩ := h3 hn
    exact ⟨b, o, ea, Nat.lt_of_lt_of_le hlt hb.size, fun j u hj => (hb.cell (p := ⟨b, o + j, none⟩) hlt).trans (hc j u hj)⟩
  refine (clone_devs W hr' hs).mono fun e w' ⟨v', he, how, hbw⟩ => ?_
  have hs' := SlAt.own (R := fun cs d => ∃ w1 : World, w1 = w0 ∧ IsDv w0.heap.size w1 cs d) how (fun k x hx => ⟨w0, rfl, hf k x hx⟩)
  obtain ⟨A, cap, rfl, h0, h1, h2, h3⟩ := hs'
  refine ⟨A, cap, he, ⟨h0, h1, h2, fun hn => ?_⟩, hbw⟩
  obtain ⟨b, o, ea, hlt, hc⟩ := h3 (fun e0 => hn (by rw [e0]; rfl))
  rcases how.2 with ⟨hv, _⟩ | ⟨g, cap', cur, hv, hg, hcur, _⟩
  · rw [ea] at hv
    cases hv
  · rw [ea] at hv
    simp only [Value.slice.injEq, Option.some.injEq, Addr.mk.injEq, and_true, true_and] at hv
    obtain ⟨⟨rfl, rfl⟩, _⟩ := hv
    refine ⟨b, ea, hg, hlt, ⟨_, _, hcur⟩, fun k d hk => ?_⟩
    obtain ⟨c, _, ⟨w1, rfl, vb, vr, vt, rfl, s1, s2, s3⟩, hcc⟩ := hc k d hk
    simp only [Nat.zero_add] at hcc
    exact ⟨vb, vr, vt, ⟨hcc 0 _ rfl, hcc 1 _ rfl, hcc 2 _ rfl, hcc 3 _ rfl, hcc 4 _ rfl, hcc 5 _ rfl, hcc 6 _ rfl⟩, ⟨s1, s2, s3⟩⟩
theorem copy_ints {v : Value} {xs : List Int} (W : World) (h : SlAt W.heap.size W 1 IsI v xs) (hs : xs.length ≤ 1048576) :
    Calls Tryz.prog 61 #[v] W fun e w' => ∃ A cap, e = .returned (.slice A xs.length cap) ∧ SlAt w'.heap.size w' 1 IsI (.slice A xs.length cap) xs ∧ (∀ lo hi, hi ≤ W.heap.size → NotIn lo hi (.slice A xs.length cap)) ∧ Below W.heap.size W w' := by
  obtain ⟨cs, hr, hf⟩ := SlAt.row h (fun cs x hx => oneI cs x hx)
  refine (clone_ints W hr hs).mono fun e w' ⟨v', he, how, hbw⟩ => ?_
  have hs' := SlAt.own (R := IsI) how hf
  obtain ⟨A, cap, rfl, h0⟩ := id hs'
  exact ⟨A, cap, he, hs', fun lo hi hh => own_notIn how hh, hbw⟩
theorem copy_rules {v : Value} {xs : List NRule} (W : World) (h : SlAt W.heap.size W 5 IsRule v xs) (hs : xs.length ≤ 1048576) :
    Calls Tryz.prog 62 #[v] W fun e w' => ∃ A cap, e = .returned (.slice A xs.length cap) ∧ SlAt w'.heap.size w' 5 IsRule (.slice A xs.length cap) xs ∧ (∀ lo hi, hi ≤ W.heap.size → NotIn lo hi (.slice A xs.length cap)) ∧ Below W.heap.size W w' := by
  obtain ⟨cs, hr, hf⟩ := SlAt.row h (fun cs x hx => oneRule cs x hx)
  refine (clone_rules W hr hs).mono fun e w' ⟨v', he, how, hbw⟩ => ?_
  have hs' := SlAt.own (R := IsRule) how hf
  obtain ⟨A, cap, rfl, h0⟩ := id hs'
  exact ⟨A, cap, he, hs', fun lo hi hh => own_notIn how hh, hbw⟩
theorem copy_routes {v : Value} {xs : List NRoute} (W : World) (h : SlAt W.heap.size W 3 IsRoute v xs) (hs : xs.length ≤ 1048576) :
    Calls Tryz.prog 63 #[v] W fun e w' => ∃ A cap, e = .returned (.slice A xs.length cap) ∧ SlAt w'.heap.size w' 3 IsRoute (.slice A xs.length cap) xs ∧ (∀ lo hi, hi ≤ W.heap.size → NotIn lo hi (.slice A xs.length cap)) ∧ Below W.heap.size W w' := by
  obtain ⟨cs, hr, hf⟩ := SlAt.row h (fun cs x hx => oneRoute cs x hx)
  refine (clone_routes W hr hs).mono fun e w' ⟨v', he, how, hbw⟩ => ?_
  have hs' := SlAt.own (R := IsRoute) how hf
  obtain ⟨A, cap, rfl, h0⟩ := id hs'
  exact ⟨A, cap, he, hs', fun lo hi hh => own_notIn how hh, hbw⟩
theorem copy_links {v : Value} {xs : List Lk} (W : World) (h : SlAt W.heap.size W 4 IsLk v xs) (hs : xs.length ≤ 1048576) :
    Calls Tryz.prog 60 #[v] W fun e w' => ∃ A cap, e = .returned (.slice A xs.length cap) ∧ SlAt w'.heap.size w' 4 IsLk (.slice A xs.length cap) xs ∧ (∀ lo hi, hi ≤ W.heap.size → NotIn lo hi (.slice A xs.length cap)) ∧ Below W.heap.size W w' := by
  obtain ⟨cs, hr, hf⟩ := SlAt.row h (fun cs x hx => oneLk cs x hx)
  refine (clone_links W hr hs).mono fun e w' ⟨v', he, how, hbw⟩ => ?_
  have hs' := SlAt.own (R := IsLk) how hf
  obtain ⟨A, cap, rfl, h0⟩ := id hs'
  exact ⟨A, cap, he, hs', fun lo hi hh => own_notIn how hh, hbw⟩

end Go.Proofs.YtgmjlkllghlmmaaGreat

namespace Go.Proofs.YtgmjlkllghlmmaaGreat
open Go.RowKit Go.Maps

/-- Sizes within which a net is copied. -/
structure Small (ds : List Dv) (ls : List Lk) : Prop where
  nd : ds.length ≤ 1048576
  nl : ls.length ≤ 1048576
  backs : ∀ d ∈ ds, d.backs.length ≤ 1048576
  rules : ∀ d ∈ ds, d.rules.length ≤ 1048576
  routes : ∀ d ∈ ds, d.routes.length ≤ 1048576
/-- What a copy is. -/
def CopyOut (w : World) (ds : List Dv) (ls : List Lk) (e : Ending) (w' : World) : Prop :=
  ∃ A cap B cap', e = .returned (.agg #[.slice A ds.length cap, .slice B ls.length cap']) ∧ Devs w'.heap.size w' (.slice A ds.length cap) ds ∧ Links w'.heap.size w' (.slice B ls.length cap') ls ∧ Below w.heap.size w w'
theorem NotB.of {k : Nat} {v : Value} (h : ∀ lo hi, hi ≤ k + 1 → NotIn lo hi v) : NotB k v := (h 0 (k + 1) (Nat.le_refl _)).b (Nat.zero_le _) (Nat.lt_succ_self _)
set_option maxHeartbeats 8000000 in
set_option maxRecDepth 100000 in
theorem copy_any (A B : Option Addr) (cap cap' : Nat) (ds : List Dv) (ls : List Lk) (w : World) (hD : Hid (Devs w.heap.size w (.slice A ds.length cap) ds)) (hL : Hid (Links w.heap.size w (.slice B ls.length cap') ls)) (hS : Hid (Small ds ls)) :
    Calls Tryz.prog 22 #[.agg #[.slice A ds.length cap, .slice B ls.length cap']] w (CopyOut w ds ls) := by
  have hsz := hS.out.nd
  have CD : Hid (∀ W, Below w.heap.size w W → Calls Tryz.prog 59 #[.slice A ds.length cap] W fun e w' => ∃ A cap, e = .returned (.slice A ds.length cap) ∧ Fresh W.heap.size w' A cap w ds ∧ Below W.heap.size W w') := fun W h => clone_fresh W hD.out h hS.out.nd
  have CL : Hid (∀ W, Below w.heap.size w W → Calls Tryz.prog 60 #[.slice B ls.length cap'] W fun e w' => ∃ A cap, e = .returned (.slice A ls.length cap) ∧ SlAt w'.heap.size w' 4 IsLk (.slice A ls.length cap) ls ∧ (∀ lo hi, hi ≤ W.heap.size → NotIn lo hi (.slice A ls.length cap)) ∧ Below W.heap.size W w') := fun W h => copy_links W ((hL.out.below h).mono h.size) hS.out.nl
  have D2 := Below.alN (Below.alN (Below.refl w.heap.size w) (.cells #[.slice A ds.length cap, .slice B ls.length cap'] 25)) (.cells #[.slice none 0 0, .slice none 0 0] 25)
  have N2 := (bk_new w #[.slice A ds.length cap, .slice B ls.length cap'] 25).alloc (.cells #[.slice none 0 0, .slice none 0 0] 25)
  have R2 := bk_new' (w.alloc (.cells #[.slice A ds.length cap, .slice B ls.length cap'] 25)) #[.slice none 0 0, .slice none 0 0] 25 (w.heap.size + 1) (by simp)
  have S2 := N2.two
  have D2d := D2.drew
  have N2d := N2.drew
  have R2d := R2.drew
  have D2a := (Below.alN D2 (.cells #[.slice none 0 0, .slice none 0 0] 25)).drew
  have N2a := (N2.alloc (.cells #[.slice none 0 0, .slice none 0 0] 25)).drew
  have R2a := (R2.alloc (.cells #[.slice none 0 0, .slice none 0 0] 25)).drew
  have G2a := (bk_new' ((w.alloc (.cells #[.slice A ds.length cap, .slice B ls.length cap'] 25)).alloc (.cells #[.slice none 0 0, .slice none 0 0] 25)) #[.slice none 0 0, .slice none 0 0] 25 (w.heap.size + 1 + 1) (by simp)).drew
  clear hD hL
  obtain ⟨n0, n1⟩ := S2
  go_enter Tryz.func22, Tryz.ntmps22
  go_wp2_with fail
  go_cut [3] (fun v3 wx => ∃ g A1 c1 B1 c2, v3 = .pointer (some ⟨g, 0, none⟩) ∧ Bk wx g #[.slice A1 ds.length c1, .slice B1 ls.length c2] 25 ∧ w.heap.size + 1 < g ∧ Fresh (w.heap.size + 1 + 1) wx A1 c1 w ds ∧ (∀ g', A1 = some ⟨g', 0, none⟩ → ds.length ≠ 0 → g' ≠ g) ∧ SlAt wx.heap.size wx 4 IsLk (.slice B1 ls.length c2) ls ∧ NotB g (.slice B1 ls.length c2) ∧ NotB (w.heap.size + 1) (.slice B1 ls.length c2) ∧ (∀ g', A1 = some ⟨g', 0, none⟩ → ds.length ≠ 0 → NotB g' (.slice B1 ls.length c2)) ∧ Bk wx (w.heap.size + 1) #[.slice none 0 0, .slice none 0 0] 25 ∧ Below w.heap.size w wx)
  case first =>
    go_region_held3 (fun w' => w'.cell? ⟨w.heap.size, 0, none⟩ = some (.slice A ds.length cap) ∧ w'.cell? ⟨w.heap.size, 1, none⟩ = some (.slice B ls.length cap')) (first | exact Bk.two (by first | assumption | exact Bk.alloc (by assumption) _) | exact Bk.two ((N6.setO (by omega) _).setO (by omega) _)) (first | (go_at_call 59; refine (CD.out _ D2d).mono ?_; rintro e w5 ⟨A1, c1, rfl, F5, hb5⟩; have D5 := chnN hb5 D2d; have N5 := N2d.keep hb5; have R5 := R2d.keep hb5; have z5 := R5.lt; have F5l := F5.lo (lo' := w.heap.size + 1 + 1) (by simp)) | (go_at_call 59; refine (CD.out _ D2a).mono ?_; rintro e w5 ⟨A1, c1, rfl, F5, hb5⟩; have D5 := chnN hb5 D2a; have N5 := N2a.keep hb5; have R5 := R2a.keep hb5; have G5 := G2a.keep hb5; have z5 := G5.lt; have F5l := F5.lo (lo' := w.heap.size + 1 + 1 + 1) (by simp)) | (go_at_call 60; refine (CL.out _ D5).mono ?_; rintro e w6 ⟨B1, c2, rfl, K6, Z6, hb6⟩; have D6 := chnN hb6 D5; have N6 := N5.keep hb6; have R6 := R5.keep hb6; have F6 := F5l.below hb6; have G6 := G5.keep hb6; have gf0 := G6.fz 0; have gf1 := G6.fz 1; obtain ⟨gg0, gg1⟩ := G6.two) | (go_at_call 60; refine (CL.out _ D5).mono ?_; rintro e w6 ⟨B1, c2, rfl, K6, Z6, hb6⟩; have D6 := chnN hb6 D5; have N6 := N5.keep hb6; have R6 := R5.keep hb6; have F6 := F5l.below hb6) | (go_at_call 60; refine (CL.out _ (Below.alN D5 (.cells #[.slice none 0 0, .slice none 0 0] 25))).mono ?_; rintro e w6 ⟨B1, c2, rfl, K6, Z6, hb6⟩; have D6 := chnN hb6 (Below.alN D5 (.cells #[.slice none 0 0, .slice none 0 0] 25)); have N6 := (N5.alloc (.cells #[.slice none 0 0, .slice none 0 0] 25)).keep hb6; have R6 := (R5.alloc (.cells #[.slice none 0 0, .slice none 0 0] 25)).keep hb6; have F6 := (F5l.below ((Below.refl _ _).alloc (Nat.le_refl _) (.cells #[.slice none 0 0, .slice none 0 0] 25))).below hb6; have G6 := (bk_new w5 #[.slice none 0 0, .slice none 0 0] 25).keep hb6; have gf0 := G6.fz 0; have gf1 := G6.fz 1; obtain ⟨gg0, gg1⟩ := G6.two))
    all_goals
      go_wp2_with fail
      go_meet
      have y6 := hb6.size
      first
        | exact ⟨_, _, _, _, _, rfl, bk_new w6 _ _, (by omega), F6.below ((Below.refl _ _).alloc (Nat.le_refl _) _), (fun g' e hn => by have := F6.lt e hn; omega), SlAt.mono (SlAt.below K6 ((Below.refl _ w6).alloc (Nat.le_refl _) _) (fun _ _ _ h => h)) (by simp) (fun _ _ _ h => h), (fun b o n c e hn => by have := (Z6 0 w5.heap.size (by simp) b o n c e hn); have q := SlAt.notIn (hi := w6.heap.size + 1) K6 b o n c e hn; omega), NotB.of (fun lo hi h => Z6 lo hi (by omega)), (fun g' e hn => NotB.of (fun lo hi h => Z6 lo hi (by have := F5l.lt e hn; omega))), R6.alloc _, Below.alN D6 _⟩
        | ((try simp only [World.size_alloc] at y6 Z6)
           exact ⟨_, _, _, _, _, rfl, (by have := (G6.setS (j := 0) (.slice A1 ds.length c1)).setS (j := 1) (.slice B1 ls.length c2); simpa using this), (by omega), ((F6.set (fun g' e hn => by have := F5l.lt e hn; omega)).set (fun g' e hn => by have := F5l.lt e hn; omega)).lo (by omega), (fun g' e hn => by have := F5l.lt e hn; omega), (by have := (K6.setB (k := w.heap.size + 1 + 1) (j := 0) (u := .slice A1 ds.length c1) (NotB.of (fun lo hi h => Z6 lo hi (by omega)))).setB (k := w.heap.size + 1 + 1) (j := 1) (u := .slice B1 ls.length c2) (NotB.of (fun lo hi h => Z6 lo hi (by omega))); simpa [World.setCell] using this), NotB.of (fun lo hi h => Z6 lo hi (by omega)), NotB.of (fun lo hi h => Z6 lo hi (by omega)), (fun g' e hn => NotB.of (fun lo hi h => Z6 lo hi (by have := F5l.lt e hn; omega))), (R6.setO (by omega) _).setO (by omega) _, (D6.setCell (by simp; omega) _).setCell (by simp; omega) _⟩)
        | ((try simp only [World.size_alloc] at y6 Z6)
           exact ⟨_, _, _, _, _, rfl, (by have := (G6.setS (j := 0) (.slice A1 ds.length c1)).setS (j := 1) (.slice B1 ls.length c2); simpa using this), (by omega), ((F6.set (fun g' e hn => by have := F5l.lt e hn; omega)).set (fun g' e hn => by have := F5l.lt e hn; omega)).lo (by omega), (fun g' e hn => by have := F5l.lt e hn; omega), (by have := (K6.setB (k := w5.heap.size) (j := 0) (u := .slice A1 ds.length c1) (NotB.of (fun lo hi h => Z6 lo hi (by omega)))).setB (k := w5.heap.size) (j := 1) (u := .slice B1 ls.length c2) (NotB.of (fun lo hi h => Z6 lo hi (by omega))); simpa [World.setCell] using this), NotB.of (fun lo hi h => Z6 lo hi (by omega)), NotB.of (fun lo hi h => Z6 lo hi (by omega)), (fun g' e hn => NotB.of (fun lo hi h => Z6 lo hi (by have := F5l.lt e hn; omega))), (R6.setO (by omega) _).setO (by omega) _, (D6.setCell (by simp; omega) _).setCell (by simp; omega) _⟩)
  case rest =>
    clear D2 N2 R2 D2d N2d R2d D2a N2a R2a G2a n0 n1 CD CL
    obtain ⟨g, A1, c1, B1, c2, rfl, G4, zg, F4, hgg, K4, nb1, nb2, nb3, R4, D4⟩ := hcut
    by_cases hn : ds.length = 0
    · have hds : ds = [] := List.length_eq_zero_iff.1 hn
      obtain ⟨f0, f1, f2, _⟩ := F4
      subst hds
      clear hgg nb3 hn
      simp only [List.length_nil] at *
      obtain ⟨x0, x1⟩ := G4.two
      go_wp2_with fail
      go_loopw [16] (fun i wr => i = .int .i64 0 ∧ Below w.heap.size w wr ∧ Bk wr g #[.slice A1 0 c1, .slice B1 ls.length c2] 25 ∧ Bk wr (w.heap.size + 1) #[.slice none 0 0, .slice none 0 0] 25 ∧ SlAt wr.heap.size wr 4 IsLk (.slice B1 ls.length c2) ls) (fun i _ => 0)
      case atStart => exact ⟨rfl, D4, G4, R4, K4⟩
      case round =>
        clear D4 G4 R4 K4 x0 x1
        obtain ⟨rfl, D4, G4, R4, K4⟩ := hrel
        obtain ⟨x0, x1⟩ := G4.two
        obtain ⟨r0, r1⟩ := R4.two
        have rf0 := R4.fz 0
        have rf1 := R4.fz 1
        go_wp2_with fail
        refine bodyPost_ret (v := .agg #[.slice A1 0 c1, .slice B1 ls.length c2]) (by simp [results, Tryz.results22, go_sem, r0, r1]) rfl ⟨A1, c1, B1, c2, rfl, ⟨A1, c1, rfl, f0, f1, f2, fun h => absurd rfl h⟩, ?_, ?_⟩
        · have := (K4.setB (k := w.heap.size + 1) (j := 0) (u := .slice A1 0 c1) nb2).setB (k := w.heap.size + 1) (j := 1) (u := .slice B1 ls.length c2) nb2
          unfold Links
          simpa [World.setCell] using this
        · exact (D4.setCell (by simp) _).setCell (by simp) _
    obtain ⟨f0, f1, f2, _⟩ := id F4
    obtain ⟨g', rfl, hl, hg', I4, V4⟩ := F4.row (hi := wc.heap.size) D4 hn
    have hgg := hgg g' rfl hn
    have nb3 := nb3 g' rfl hn
    have zR := R4.lt
    have hgHI : g' < wc.heap.size := hg'
    obtain ⟨x0, x1⟩ := G4.two
    generalize hHI : wc.heap.size = HI at *
    clear F4 hn
    unfold maxLen at f2
    go_wp2_with fail
    go_loopw [16] (fun i wr => ∃ k : Nat, i = .int .i64 (k : Int) ∧ k ≤ ds.length ∧ Below w.heap.size w wr ∧ Bk wr g #[.slice (some ⟨g', 0, none⟩) ds.length c1, .slice B1 ls.length c2] 25 ∧ Bk wr (w.heap.size + 1) #[.slice none 0 0, .slice none 0 0] 25 ∧ SlAt wr.heap.size wr 4 IsLk (.slice B1 ls.length c2) ls ∧ IsB wr g' ∧ DvRow w.heap.size HI g' wr ds ∧ g' < wr.heap.size ∧ HI ≤ wr.heap.size) (fun i _ => ds.length - (intOf i).toNat)
    case atStart => exact ⟨0, rfl, by omega, D4, G4, R4, by rw [hHI]; exact K4, I4, V4, by omega, by omega⟩
    case round =>
      clear D4 G4 R4 K4 I4 V4 x0 x1 hHI
      obtain ⟨k, rfl, hk, D1, G1, R1, K1, I1, V1, zg1, zh1⟩ := hrel
      obtain ⟨x0, x1⟩ := G1.two
      by_cases hlt : k < ds.length
      rotate_left
      · obtain ⟨r0, r1⟩ := R1.two
        have rf0 := R1.fz 0
        have rf1 := R1.fz 1
        go_wp2_with fail
        refine bodyPost_ret (v := .agg #[.slice (some ⟨g', 0, none⟩) ds.length c1, .slice B1 ls.length c2]) (by simp [results, Tryz.results22, go_sem, r0, r1]) rfl ⟨_, c1, B1, c2, rfl, ?_, ?_, ?_⟩
        · have := ((V1.other (k := w.heap.size + 1) (j := 0) (u := .slice (some ⟨g', 0, none⟩) ds.length c1) (by omega) (by omega) (by omega)).other (k := w.heap.size + 1) (j := 1) (u := .slice B1 ls.length c2) (by omega) (by omega) (by omega)).devs (cap := c1) (by simpa [World.setCell] using zg1) f1 (by unfold maxLen; omega)
          exact this
        · have := (K1.setB (k := w.heap.size + 1) (j := 0) (u := .slice (some ⟨g', 0, none⟩) ds.length c1) nb2).setB (k := w.heap.size + 1) (j := 1) (u := .slice B1 ls.length c2) nb2
          unfold Links
          simpa [World.setCell] using this
        · exact (D1.setCell (by simp) _).setCell (by simp) _
      obtain ⟨d, hxk⟩ : ∃ d, ds[k]? = some d := ⟨_, List.getElem?_eq_getElem hlt⟩
      have HX : Hid (ds[k]? = some d) := hxk
      have k1 : (0 : Int) ≤ (k : Int) := by omega
      have k2 : (k : Int) < (ds.length : Int) := by omega
      clear hxk
      obtain ⟨vb1, vr1, vt1, ⟨c0, c1', c2', c3, c4, c5, c6⟩, ⟨s1, s2, s3⟩, _, _, _⟩ := V1 k d HX.out
      obtain ⟨Ab, cb, rfl, _⟩ := id s1
      obtain ⟨Ar, cr, rfl, _⟩ := id s2
      obtain ⟨At, ct, rfl, _⟩ := id s3
      have CC : Hid (Calls Tryz.prog 61 #[.slice Ab d.backs.length cb] _ _) := copy_ints _ s1 (hS.out.backs d (List.mem_of_getElem? HX.out))
      have HL1 : Hid (d.backs.length = d.backs.length) := rfl
      clear s1 s2 s3
      go_wp2_with fail
      refine CC.out.mono ?_
      rintro e w20 ⟨A2, q2, rfl, S2, Z2, hb2⟩
      have yy2 := hb2.size
      have D20 := chnN hb2 D1
      have G20 := G1.keep hb2
      have R20 := R1.keep hb2
      have K20 := SlAt.mono (SlAt.below K1 hb2 (fun _ _ _ h => h)) hb2.size (fun _ _ _ h => h)
      have I20 := I1.below hb2
      have V20 := V1.below hb2
      have zg2 : g' < w20.heap.size := by omega
      have zh2 : HI ≤ w20.heap.size := by omega
      have V2 := V20.set4 HX.out S2 (Z2 _ _ zh1) (by omega) hgHI
      have D2 := D20.setCell (p := ⟨g', k * 7 + 4, none⟩) (by simp; omega) (.slice A2 d.backs.length q2)
      have G2 := G20.setO (b := g') (j := k * 7 + 4) (by omega) (.slice A2 d.backs.length q2)
      have R2 := R20.setO (b := g') (j := k * 7 + 4) (by omega) (.slice A2 d.backs.length q2)
      have K2 := K20.setB (k := g') (j := k * 7 + 4) (u := .slice A2 d.backs.length q2) nb3
      have I2 := I20.set (k := g') (j := k * 7 + 4) (u := .slice A2 d.backs.length q2)
      have fz2 := I20.fz (k * 7 + 4)
      obtain ⟨_, _, _, ⟨_, _, _, _, e4, e5, e6⟩, _⟩ := V20 k d HX.out
      have ee2 : ∃ v, w20.cell? ⟨g', k * 7 + 4, none⟩ = some v := ⟨_, e4⟩
      obtain ⟨ev2, ec2⟩ := ee2
      have sz2 : (w20.setCell ⟨g', k * 7 + 4, none⟩ (.slice A2 d.backs.length q2)).heap.size = w20.heap.size := by simp [World.setCell]
      rw [sz2.symm] at K2 zg2 zh2
      clear V1 D1 G1 R1 K1 I1 c0 c1' c2' c3 c4 c5 c6 e4 e5 e6 CC S2 Z2 hb2 V20 D20 G20 R20 K20 I20 HL1 zg1 zh1 yy2
      go_upto_region 7 with fail
      generalize hW2 : w20.setCell ⟨g', k * 7 + 4, none⟩ (.slice A2 d.backs.length q2) = w2 at *
      clear hW2 fz2 ec2 sz2
      obtain ⟨vb2, vr2, vt2, ⟨c0, c1', c2', c3, c4, c5, c6⟩, ⟨s1, s2, s3⟩, _, _, _⟩ := V2 k d HX.out
      obtain ⟨Ab, cb, rfl, _⟩ := id s1
      obtain ⟨Ar, cr, rfl, _⟩ := id s2
      obtain ⟨At, ct, rfl, _⟩ := id s3
      have CC : Hid (Calls Tryz.prog 62 #[.slice Ar d.rules.length cr] _ _) := copy_rules _ s2 (hS.out.rules d (List.mem_of_getElem? HX.out))
      have HL2 : Hid (d.rules.length = d.rules.length) := rfl
      clear s1 s2 s3
      go_wp2_with fail
      refine CC.out.mono ?_
      rintro e w30 ⟨A3, q3, rfl, S3, Z3, hb3⟩
      have yy3 := hb3.size
      have D30 := chnN hb3 D2
      have G30 := G2.keep hb3
      have R30 := R2.keep hb3
      have K30 := SlAt.mono (SlAt.below K2 hb3 (fun _ _ _ h => h)) hb3.size (fun _ _ _ h => h)
      have I30 := I2.below hb3
      have V30 := V2.below hb3
      have zg3 : g' < w30.heap.size := by omega
      have zh3 : HI ≤ w30.heap.size := by omega
      have V3 := V30.set5 HX.out S3 (Z3 _ _ zh2) (by omega) hgHI
      have D3 := D30.setCell (p := ⟨g', k * 7 + 5, none⟩) (by simp; omega) (.slice A3 d.rules.length q3)
      have G3 := G30.setO (b := g') (j := k * 7 + 5) (by omega) (.slice A3 d.rules.length q3)
      have R3 := R30.setO (b := g') (j := k * 7 + 5) (by omega) (.slice A3 d.rules.length q3)
      have K3 := K30.setB (k := g') (j := k * 7 + 5) (u := .slice A3 d.rules.length q3) nb3
      have I3 := I30.set (k := g') (j := k * 7 + 5) (u := .slice A3 d.rules.length q3)
      have fz3 := I30.fz (k * 7 + 5)
      obtain ⟨_, _, _, ⟨_, _, _, _, e4, e5, e6⟩, _⟩ := V30 k d HX.out
      have ee3 : ∃ v, w30.cell? ⟨g', k * 7 + 5, none⟩ = some v := ⟨_, e5⟩
      obtain ⟨ev3, ec3⟩ := ee3
      have sz3 : (w30.setCell ⟨g', k * 7 + 5, none⟩ (.slice A3 d.rules.length q3)).heap.size = w30.heap.size := by simp [World.setCell]
      rw [sz3.symm] at K3 zg3 zh3
      clear V2 D2 G2 R2 K2 I2 c0 c1' c2' c3 c4 c5 c6 e4 e5 e6 CC S3 Z3 hb3 V30 D30 G30 R30 K30 I30 HL2 zg2 zh2 yy3
      go_upto_region 8 with fail
      generalize hW3 : w30.setCell ⟨g', k * 7 + 5, none⟩ (.slice A3 d.rules.length q3) = w3 at *
      clear hW3 fz3 ec3 sz3
      obtain ⟨vb3, vr3, vt3, ⟨c0, c1', c2', c3, c4, c5, c6⟩, ⟨s1, s2, s3⟩, _, _, _⟩ := V3 k d HX.out
      obtain ⟨Ab, cb, rfl, _⟩ := id s1
      obtain ⟨Ar, cr, rfl, _⟩ := id s2
      obtain ⟨At, ct, rfl, _⟩ := id s3
      have CC : Hid (Calls Tryz.prog 63 #[.slice At d.routes.length ct] _ _) := copy_routes _ s3 (hS.out.routes d (List.mem_of_getElem? HX.out))
      have HL3 : Hid (d.routes.length = d.routes.length) := rfl
      clear s1 s2 s3
      go_wp2_with fail
      refine CC.out.mono ?_
      rintro e w40 ⟨A4, q4, rfl, S4, Z4, hb4⟩
      have yy4 := hb4.size
      have D40 := chnN hb4 D3
      have G40 := G3.keep hb4
      have R40 := R3.keep hb4
      have K40 := SlAt.mono (SlAt.below K3 hb4 (fun _ _ _ h => h)) hb4.size (fun _ _ _ h => h)
      have I40 := I3.below hb4
      have V40 := V3.below hb4
      have zg4 : g' < w40.heap.size := by omega
      have zh4 : HI ≤ w40.heap.size := by omega
      have V4 := V40.set6 HX.out S4 (Z4 _ _ zh3) (by omega) hgHI
      have D4 := D40.setCell (p := ⟨g', k * 7 + 6, none⟩) (by simp; omega) (.slice A4 d.routes.length q4)
      have G4 := G40.setO (b := g') (j := k * 7 + 6) (by omega) (.slice A4 d.routes.length q4)
      have R4 := R40.setO (b := g') (j := k * 7 + 6) (by omega) (.slice A4 d.routes.length q4)
      have K4 := K40.setB (k := g') (j := k * 7 + 6) (u := .slice A4 d.routes.length q4) nb3
      have I4 := I40.set (k := g') (j := k * 7 + 6) (u := .slice A4 d.routes.length q4)
      have fz4 := I40.fz (k * 7 + 6)
      obtain ⟨_, _, _, ⟨_, _, _, _, e4, e5, e6⟩, _⟩ := V40 k d HX.out
      have ee4 : ∃ v, w40.cell? ⟨g', k * 7 + 6, none⟩ = some v := ⟨_, e6⟩
      obtain ⟨ev4, ec4⟩ := ee4
      have sz4 : (w40.setCell ⟨g', k * 7 + 6, none⟩ (.slice A4 d.routes.length q4)).heap.size = w40.heap.size := by simp [World.setCell]
      rw [sz4.symm] at K4 zg4 zh4
      clear V3 D3 G3 R3 K3 I3 c0 c1' c2' c3 c4 c5 c6 e4 e5 e6 CC S4 Z4 hb4 V40 D40 G40 R40 K40 I40 HL3 zg3 zh3 yy4
      go_upto_region 9 with fail
      generalize hW4 : w40.setCell ⟨g', k * 7 + 6, none⟩ (.slice A4 d.routes.length q4) = w4 at *
      clear hW4 fz4 ec4 sz4
      go_wp2_with fail
      go_roundw
      case rel => exact ⟨k + 1, by go_num, by omega, D4, G4, R4, K4, I4, V4, zg4, zh4⟩
      case measure => simp [intOf]; omega
end Go.Proofs.YtgmjlkllghlmmaaGreat
