/-
  Slices told by their cells; slices.Clone.
-/
import Derived.Test.YthioedgnambomaaSq
import Derived.Laws.AppendOwnNone
import Derived.Lib.SliceRun
namespace Go.Proofs.Ythioedgnambomaa
open Go.RowKit Go.Maps

/-- A slice of N elements of n cells, which are cs. -/
def RowAt (base : Nat) (w : World) (v : Value) (N n : Nat) (cs : List Value) : Prop :=
  ∃ A cap, v = .slice A N cap ∧ (A = none → cap = 0) ∧ N ≤ cap ∧ cap ≤ maxLen ∧ cs.length = N * n ∧ (∀ u ∈ cs, u.oneCell' = true) ∧
    (N ≠ 0 → ∃ b o, A = some ⟨b, o, none⟩ ∧ b < base ∧ ∀ j u, cs[j]? = some u → w.cell? ⟨b, o + j, none⟩ = some u)
theorem flat_cells {α : Type} {w : World} {n : Nat} {R : List Value → α → Prop} (h1 : ∀ cs x, R cs x → ∀ u ∈ cs, u.oneCell' = true) {b : Nat} : ∀ (xs : List α) (o : Nat), (∀ k x, xs[k]? = some x → ∃ c : List Value, c.length = n ∧ R c x ∧ ∀ j u, c[j]? = some u → w.cell? ⟨b, o + k * n + j, none⟩ = some u) →
    ∃ cs : List Value, cs.length = xs.length * n ∧ (∀ j u, cs[j]? = some u → w.cell? ⟨b, o + j, none⟩ = some u) ∧ (∀ u ∈ cs, u.oneCell' = true) ∧ ∀ k x, xs[k]? = some x → R ((cs.drop (k * n)).take n) x
  | [], _, _ => ⟨[], by simp, (fun j u hj => by simp at hj), (fun u hu => by cases hu), (fun k x hx => by simp at hx)⟩
  | x :: xs, o, h => by
    obtain ⟨c0, l0, r0, e0⟩ := h 0 x rfl
    obtain ⟨cs, l1, e1, o1, r1⟩ := flat_cells h1 xs (o + n) (fun k y hy => by
      obtain ⟨c, l, r, e⟩ := h (k + 1) y (by simpa using hy)
      exact ⟨c, l, r, fun j u hj => by
        have := e j u hj
        rwa [show o + (k + 1) * n + j = o + n + k * n + j by rw [Nat.add_mul, Nat.one_mul]; omega] at this⟩)
    refine ⟨c0 ++ cs, ?_, fun j u hj => ?_, fun u hu => ?_, fun k y hy => ?_⟩
    · rw [List.length_append, l0, l1, List.length_cons, Nat.add_mul]
      omega
    · by_cases hl : j < n
      · rw [List.getElem?_append_left (by omega)] at hj
        have := e0 j u hj
        simpa using this
      · rw [List.getElem?_append_right (by omega), l0] at hj
        have := e1 (j - n) u hj
        rwa [show o + n + (j - n) = o + j by omega] at this
    · rcases List.mem_append.1 hu with hu | hu
      · exact h1 _ _ r0 u hu
      · exact o1 u hu
    · cases k with
      | zero =>
        obtain rfl : x = y := by simpa using hy
        rw [Nat.zero_mul, List.drop_zero, ← l0, List.take_left']
        · exact r0
        · rfl
      | succ k =>
        have e : (c0 ++ cs).drop ((k + 1) * n) = cs.drop (k * n) := by
          rw [List.drop_append, List.drop_eq_nil_of_le (by rw [Nat.add_mul, l0]; omega), List.nil_append, l0]
          congr 1
          rw [Nat.add_mul]
          omega
        rw [e]
        exact r1 k y (by simpa using hy)
theorem SlAt.row {α : Type} {base n : Nat} {w : World} {R : List Value → α → Prop} {v : Value} {xs : List α} (h : SlAt base w n R v xs) (h1 : ∀ cs x, R cs x → ∀ u ∈ cs, u.oneCell' = true) :
    ∃ cs, RowAt base w v xs.length n cs ∧ ∀ k x, xs[k]? = some x → R ((cs.drop (k * n)).take n) x := by
  obtain ⟨A, cap, e, h0, hl, hm, h3⟩ := h
  by_cases hx : xs = []
  · subst hx
    exact ⟨[], ⟨A, cap, e, h0, hl, hm, by simp, (fun u hu => by cases hu), fun hn => absurd rfl hn⟩, fun k x hx => by simp at hx⟩
  · obtain ⟨b, o, ea, hb, hr⟩ := h3 hx
    obtain ⟨cs, l1, e1, o1, r1⟩ := flat_cells h1 xs o hr
    exact ⟨cs, ⟨A, cap, e, h0, hl, hm, l1, o1, fun _ => ⟨b, o, ea, hb, e1⟩⟩, r1⟩
/-- A row of the call's own, as a slice. -/
theorem SlAt.own {α : Type} {base n : Nat} {w : World} {t : TypeId} {R : List Value → α → Prop} {v : Value} {xs : List α} {cs : List Value} (h : w.ownsRow base t n v xs.length cs) (hr : ∀ k x, xs[k]? = some x → R ((cs.drop (k * n)).take n) x) : SlAt w.heap.size w n R v xs := by
  have h' := h
  obtain ⟨hl, hc⟩ := h
  rcases hc with ⟨rfl, h0⟩ | ⟨g, cap, cur, rfl, hb, hg, hn, hcap, hs, ht⟩
  · exact ⟨none, 0, by rw [h0], fun _ => rfl, by omega, by unfold maxLen; omega, fun hn => absurd (List.length_eq_zero_iff.1 h0) hn⟩
  · refine ⟨_, cap, rfl, (fun e => by cases e), hn, hcap, fun _ => ⟨g, 0, rfl, (Array.getElem?_eq_some_iff.1 hg).1, fun k x hx => ?_⟩⟩
    have hk := (List.getElem?_eq_some_iff.1 hx).1
    have hle : k * n + n ≤ cs.length := by
      have hm := Nat.mul_le_mul_right n (show k + 1 ≤ xs.length from hk)
      rw [Nat.add_mul, Nat.one_mul] at hm
      omega
    refine ⟨(cs.drop (k * n)).take n, ?_, hr k x hx, fun j u hj => ?_⟩
    · rw [List.length_take, List.length_drop]
      omega
    · have hjn : j < n := by
        have := (List.getElem?_eq_some_iff.1 hj).1
        rw [List.length_take] at this
        omega
      rw [List.getElem?_take_of_lt hjn, List.getElem?_drop] at hj
      have := h'.cells (g := g) rfl (k * n + j) u hj
      rw [Addr.add_lit] at this
      rwa [show 0 + k * n + j = 0 + (k * n + j) by omega]
theorem append_runC {P : Program} {w w' : World} {ops : Array Oper} {rest : List Oper} {o : Oper} {a : Act} {Q : Exit → Act → World → Prop} (hgd : o.guard = none) (s x : Operand) (t : TypeId)
    (ho : o.op = .call { callee := .builtin .append, args := #[s, x], argTypes := #[t, t] }) {v x' v' : Value} (hs : a.eval s = v) (hx : a.eval x = x') (hr : (Builtin.append_ #[t, t] o.type #[v, x']).run P w = .ok v' w')
    (h : wpList P ops Q rest (a.put o.dst v') w') : wpList P ops Q (o :: rest) a w := by
  refine wpList_plain hgd fun K hK => ?_
  unfold Oper.wp execOp
  simp only [ho, resolve, invoke, builtin, Sem.run_bind, Sem.run_pure, Result.andThen_ok, List.map_toArray, List.map_cons, List.map_nil, hs, hx, hr]
  exact hK _ _ h
theorem Below.appC {B base : Nat} {w0 w w' : World} {t : TypeId} {s n : Nat} {v : Value} {cs : List Value} (h : Below B w0 w) (ho : w.ownsRow base t s v n cs) (hg : w.grownBy w' v.ownBlock) (hB : B ≤ base) (hb : base ≤ w.heap.size) : Below B w0 w' :=
  h.grown hg (by omega) (fun k e => by have := (ho.lt k e).1; omega)
theorem oneI (cs : List Value) (x : Int) (h : IsI cs x) : ∀ u ∈ cs, u.oneCell' = true := by
  unfold IsI at h
  subst h
  intro u hu
  simp only [List.mem_cons, List.not_mem_nil, or_false] at hu
  subst hu
  rfl
theorem oneLk (cs : List Value) (x : Lk) (h : IsLk cs x) : ∀ u ∈ cs, u.oneCell' = true := by
  unfold IsLk at h
  subst h
  intro u hu
  simp only [List.mem_cons, List.not_mem_nil, or_false] at hu
  rcases hu with rfl | rfl | rfl | rfl <;> rfl
theorem oneRule (cs : List Value) (x : NRule) (h : IsRule cs x) : ∀ u ∈ cs, u.oneCell' = true := by
  unfold IsRule at h
  subst h
  intro u hu
  simp only [List.mem_cons, List.not_mem_nil, or_false] at hu
  rcases hu with rfl | rfl | rfl | rfl | rfl <;> rfl
theorem oneRoute (cs : List Value) (x : NRoute) (h : IsRoute cs x) : ∀ u ∈ cs, u.oneCell' = true := by
  unfold IsRoute at h
  subst h
  intro u hu
  simp only [List.mem_cons, List.not_mem_nil, or_false] at hu
  rcases hu with rfl | rfl | rfl <;> rfl
theorem oneDv {base : Nat} {w : World} (cs : List Value) (x : Dv) (h : IsDv base w cs x) : ∀ u ∈ cs, u.oneCell' = true := by
  obtain ⟨vb, vr, vt, rfl, h1, h2, h3⟩ := h
  obtain ⟨_, _, rfl, _⟩ := h1
  obtain ⟨_, _, rfl, _⟩ := h2
  obtain ⟨_, _, rfl, _⟩ := h3
  intro u hu
  simp only [List.mem_cons, List.not_mem_nil, or_false] at hu
  rcases hu with rfl | rfl | rfl | rfl | rfl | rfl | rfl <;> rfl
theorem u_ints : Try.prog.underlying 40 = some (.slice 3) := by kernel_rfl
theorem info_ints : (Try.prog.info? 3).map (fun i => (i.zero, i.size, i.bytes)) = some (some (.int .i64 0), 1, 8) := by kernel_rfl
set_option maxHeartbeats 1000000 in
set_option maxRecDepth 100000 in
theorem clone_ints {v : Value} {N : Nat} {cs : List Value} (w : World) (h : RowAt w.heap.size w v N 1 cs) (hs : N ≤ 1048576) :
    Calls Try.prog 30 #[v] w fun e w' => ∃ v', e = .returned v' ∧ w'.ownsRow w.heap.size 3 1 v' N cs ∧ Below w.heap.size w w' := by
  have q : ∀ (w : World) (a : Option Addr) (n c n' c' : Nat), (binOp .eql 40 (.slice a n c) (.slice none n' c')).run Try.prog w = .ok (.bool a.isNone) w := fun w a n c n' c' => Lib.run_eql_slice_nil w _ _ a n c n' c' u_ints
  obtain ⟨i0, hi, hz0, hz1, hz2⟩ := info_parts info_ints
  have D0 := Below.alN (Below.refl w.heap.size w) (.cells #[] 3)
  have o0 : (w.alloc (.cells #[] 3)).ownsRow w.heap.size 3 1 (.slice (some ⟨w.heap.size, 0, none⟩) 0 0) 0 [] := World.ownsRow_made w #[] 0 (Nat.le_refl _) (Nat.zero_le _) (by simp)
  obtain ⟨A, cap, rfl, h0, h1, h2, hl, ho, h3⟩ := h
  cases A with
  | none =>
    have hN : N = 0 := by
      by_cases hn : N = 0
      · exact hn
      · obtain ⟨_, _, e, _⟩ := h3 hn
        cases e
    subst hN
    have hcs : cs = [] := List.length_eq_zero_iff.1 (by simpa using hl)
    subst hcs
    clear h3 ho hl hs o0
    go_enter Try.func30, Try.ntmps30
    go_wp2_with fail
    go_ret
    exact ⟨_, rfl, World.ownsRow_nil _ _ _ _, Below.refl _ _⟩
  | some ad =>
    obtain ⟨v', w', hr, h4, h5, _⟩ := run_append_own (P := Try.prog) (w.alloc (.cells #[] 3)) w.heap.size 40 40 3 i0 _ 1 8 u_ints hi hz0 hz1 hz2 rfl (by decide) _ 0 [] o0 ad N cap cs hl (fun j u hj => by
      have hn : N ≠ 0 := fun e => by
        subst e
        have : cs = [] := List.length_eq_zero_iff.1 (by simpa using hl)
        subst this
        simp at hj
      obtain ⟨b, o, e, hb, hr⟩ := h3 hn
      cases e
      rw [Addr.add_lit]
      exact (D0.cell (p := ⟨b, o + j, none⟩) hb).trans (hr j u hj)) ho (by unfold maxLen; omega) (by omega) (by simp)
    have D1 := Below.appC D0 o0 h5 (Nat.le_refl _) (by simp)
    simp only [List.nil_append, Nat.zero_add] at h4
    have fin : Hid (w'.ownsRow w.heap.size 3 1 v' N cs ∧ Below w.heap.size w w') := ⟨h4, D1⟩
    clear h0 h1 h2 h3 h5 hs o0 D0 h4 D1 hl ho
    go_enter Try.func30, Try.ntmps30
    go_wp2_with (at_builtin; refine append_runC rfl _ _ 40 rfl rfl rfl hr ?_)
    go_ret
    exact ⟨_, rfl, fin.out⟩
theorem u_links : Try.prog.underlying 23 = some (.slice 44) := by kernel_rfl
theorem info_links : (Try.prog.info? 44).map (fun i => (i.zero, i.size, i.bytes)) = some (some (.agg #[.int .i64 0, .int .i64 0, .int .i64 0, .int .i64 0]), 4, 32) := by kernel_rfl
set_option maxHeartbeats 1000000 in
set_option maxRecDepth 100000 in
theorem clone_links {v : Value} {N : Nat} {cs : List Value} (w : World) (h : RowAt w.heap.size w v N 4 cs) (hs : N ≤ 1048576) :
    Calls Try.prog 29 #[v] w fun e w' => ∃ v', e = .returned v' ∧ w'.ownsRow w.heap.size 44 4 v' N cs ∧ Below w.heap.size w w' := by
  have q : ∀ (w : World) (a : Option Addr) (n c n' c' : Nat), (binOp .eql 23 (.slice a n c) (.slice none n' c')).run Try.prog w = .ok (.bool a.isNone) w := fun w a n c n' c' => Lib.run_eql_slice_nil w _ _ a n c n' c' u_links
  obtain ⟨i0, hi, hz0, hz1, hz2⟩ := info_parts info_links
  have D0 := Below.alN (Below.refl w.heap.size w) (.cells #[] 44)
  have o0 : (w.alloc (.cells #[] 44)).ownsRow w.heap.size 44 4 (.slice (some ⟨w.heap.size, 0, none⟩) 0 0) 0 [] := World.ownsRow_made w #[] 0 (Nat.le_refl _) (Nat.zero_le _) (by simp)
  obtain ⟨A, cap, rfl, h0, h1, h2, hl, ho, h3⟩ := h
  cases A with
  | none =>
    have hN : N = 0 := by
      by_cases hn : N = 0
      · exact hn
      · obtain ⟨_, _, e, _⟩ := h3 hn
        cases e
    subst hN
    have hcs : cs = [] := List.length_eq_zero_iff.1 (by simpa using hl)
    subst hcs
    clear h3 ho hl hs o0
    go_enter Try.func29, Try.ntmps29
    go_wp2_with fail
    go_ret
    exact ⟨_, rfl, World.ownsRow_nil _ _ _ _, Below.refl _ _⟩
  | some ad =>
    obtain ⟨v', w', hr, h4, h5, _⟩ := run_append_own (P := Try.prog) (w.alloc (.cells #[] 44)) w.heap.size 23 23 44 i0 _ 4 32 u_links hi hz0 hz1 hz2 rfl (by decide) _ 0 [] o0 ad N cap cs hl (fun j u hj => by
      have hn : N ≠ 0 := fun e => by
        subst e
        have : cs = [] := List.length_eq_zero_iff.1 (by simpa using hl)
        subst this
        simp at hj
      obtain ⟨b, o, e, hb, hr⟩ := h3 hn
      cases e
      rw [Addr.add_lit]
      exact (D0.cell (p := ⟨b, o + j, none⟩) hb).trans (hr j u hj)) ho (by unfold maxLen; omega) (by omega) (by simp)
    have D1 := Below.appC D0 o0 h5 (Nat.le_refl _) (by simp)
    simp only [List.nil_append, Nat.zero_add] at h4
    have fin : Hid (w'.ownsRow w.heap.size 44 4 v' N cs ∧ Below w.heap.size w w') := ⟨h4, D1⟩
    clear h0 h1 h2 h3 h5 hs o0 D0 h4 D1 hl ho
    go_enter Try.func29, Try.ntmps29
    go_wp2_with (at_builtin; refine append_runC rfl _ _ 23 rfl rfl rfl hr ?_)
    go_ret
    exact ⟨_, rfl, fin.out⟩
theorem u_rules : Try.prog.underlying 36 = some (.slice 34) := by kernel_rfl
theorem info_rules : (Try.prog.info? 34).map (fun i => (i.zero, i.size, i.bytes)) = some (some (.agg #[.bool false, .int .u16 0, .int .u16 0, .int .u8 0, .int .u8 0]), 5, 8) := by kernel_rfl
set_option maxHeartbeats 1000000 in
set_option maxRecDepth 100000 in
theorem clone_rules {v : Value} {N : Nat} {cs : List Value} (w : World) (h : RowAt w.heap.size w v N 5 cs) (hs : N ≤ 1048576) :
    Calls Try.prog 31 #[v] w fun e w' => ∃ v', e = .returned v' ∧ w'.ownsRow w.heap.size 34 5 v' N cs ∧ Below w.heap.size w w' := by
  have q : ∀ (w : World) (a : Option Addr) (n c n' c' : Nat), (binOp .eql 36 (.slice a n c) (.slice none n' c')).run Try.prog w = .ok (.bool a.isNone) w := fun w a n c n' c' => Lib.run_eql_slice_nil w _ _ a n c n' c' u_rules
  obtain ⟨i0, hi, hz0, hz1, hz2⟩ := info_parts info_rules
  have D0 := Below.alN (Below.refl w.heap.size w) (.cells #[] 34)
  have o0 : (w.alloc (.cells #[] 34)).ownsRow w.heap.size 34 5 (.slice (some ⟨w.heap.size, 0, none⟩) 0 0) 0 [] := World.ownsRow_made w #[] 0 (Nat.le_refl _) (Nat.zero_le _) (by simp)
  obtain ⟨A, cap, rfl, h0, h1, h2, hl, ho, h3⟩ := h
  cases A with
  | none =>
    have hN : N = 0 := by
      by_cases hn : N = 0
      · exact hn
      · obtain ⟨_, _, e, _⟩ := h3 hn
        cases e
    subst hN
    have hcs : cs = [] := List.length_eq_zero_iff.1 (by simpa using hl)
    subst hcs
    clear h3 ho hl hs o0
    go_enter Try.func31, Try.ntmps31
    go_wp2_with fail
    go_ret
    exact ⟨_, rfl, World.ownsRow_nil _ _ _ _, Below.refl _ _⟩
  | some ad =>
    obtain ⟨v', w', hr, h4, h5, _⟩ := run_append_own (P := Try.prog) (w.alloc (.cells #[] 34)) w.heap.size 36 36 34 i0 _ 5 8 u_rules hi hz0 hz1 hz2 rfl (by decide) _ 0 [] o0 ad N cap cs hl (fun j u hj => by
      have hn : N ≠ 0 := fun e => by
        subst e
        have : cs = [] := List.length_eq_zero_iff.1 (by simpa using hl)
        subst this
        simp at hj
      obtain ⟨b, o, e, hb, hr⟩ := h3 hn
      cases e
      rw [Addr.add_lit]
      exact (D0.cell (p := ⟨b, o + j, none⟩) hb).trans (hr j u hj)) ho (by unfold maxLen; omega) (by omega) (by simp)
    have D1 := Below.appC D0 o0 h5 (Nat.le_refl _) (by simp)
    simp only [List.nil_append, Nat.zero_add] at h4
    have fin : Hid (w'.ownsRow w.heap.size 34 5 v' N cs ∧ Below w.heap.size w w') := ⟨h4, D1⟩
    clear h0 h1 h2 h3 h5 hs o0 D0 h4 D1 hl ho
    go_enter Try.func31, Try.ntmps31
    go_wp2_with (at_builtin; refine append_runC rfl _ _ 36 rfl rfl rfl hr ?_)
    go_ret
    exact ⟨_, rfl, fin.out⟩
theorem u_routes : Try.prog.underlying 39 = some (.slice 38) := by kernel_rfl
theorem info_routes : (Try.prog.info? 38).map (fun i => (i.zero, i.size, i.bytes)) = some (some (.agg #[.int .i64 0, .int .i64 0, .int .i64 0]), 3, 24) := by kernel_rfl
set_option maxHeartbeats 1000000 in
set_option maxRecDepth 100000 in
theorem clone_routes {v : Value} {N : Nat} {cs : List Value} (w : World) (h : RowAt w.heap.size w v N 3 cs) (hs : N ≤ 1048576) :
    Calls Try.prog 32 #[v] w fun e w' => ∃ v', e = .returned v' ∧ w'.ownsRow w.heap.size 38 3 v' N cs ∧ Below w.heap.size w w' := by
  have q : ∀ (w : World) (a : Option Addr) (n c n' c' : Nat), (binOp .eql 39 (.slice a n c) (.slice none n' c')).run Try.prog w = .ok (.bool a.isNone) w := fun w a n c n' c' => Lib.run_eql_slice_nil w _ _ a n c n' c' u_routes
  obtain ⟨i0, hi, hz0, hz1, hz2⟩ := info_parts info_routes
  have D0 := Below.alN (Below.refl w.heap.size w) (.cells #[] 38)
  have o0 : (w.alloc (.cells #[] 38)).ownsRow w.heap.size 38 3 (.slice (some ⟨w.heap.size, 0, none⟩) 0 0) 0 [] := World.ownsRow_made w #[] 0 (Nat.le_refl _) (Nat.zero_le _) (by simp)
  obtain ⟨A, cap, rfl, h0, h1, h2, hl, ho, h3⟩ := h
  cases A with
  | none =>
    have hN : N = 0 := by
      by_cases hn : N = 0
      · exact hn
      · obtain ⟨_, _, e, _⟩ := h3 hn
        cases e
    subst hN
    have hcs : cs = [] := List.length_eq_zero_iff.1 (by simpa using hl)
    subst hcs
    clear h3 ho hl hs o0
    go_enter Try.func32, Try.ntmps32
    go_wp2_with fail
    go_ret
    exact ⟨_, rfl, World.ownsRow_nil _ _ _ _, Below.refl _ _⟩
  | some ad =>
    obtain ⟨v', w', hr, h4, h5, _⟩ := run_append_own (P := Try.prog) (w.alloc (.cells #[] 38)) w.heap.size 39 39 38 i0 _ 3 24 u_routes hi hz0 hz1 hz2 rfl (by decide) _ 0 [] o0 ad N cap cs hl (fun j u hj => by
      have hn : N ≠ 0 := fun e => by
        subst e
        have : cs = [] := List.length_eq_zero_iff.1 (by simpa using hl)
        subst this
        simp at hj
      obtain ⟨b, o, e, hb, hr⟩ := h3 hn
      cases e
      rw [Addr.add_lit]
      exact (D0.cell (p := ⟨b, o + j, none⟩) hb).trans (hr j u hj)) ho (by unfold maxLen; omega) (by omega) (by simp)
    have D1 := Below.appC D0 o0 h5 (Nat.le_refl _) (by simp)
    simp only [List.nil_append, Nat.zero_add] at h4
    have fin : Hid (w'.ownsRow w.heap.size 38 3 v' N cs ∧ Below w.heap.size w w') := ⟨h4, D1⟩
    clear h0 h1 h2 h3 h5 hs o0 D0 h4 D1 hl ho
    go_enter Try.func32, Try.ntmps32
    go_wp2_with (at_builtin; refine append_runC rfl _ _ 39 rfl rfl rfl hr ?_)
    go_ret
    exact ⟨_, rfl, fin.out⟩
theorem u_devs : Try.prog.underlying 22 = some (.slice 42) := by kernel_rfl
theorem info_devs : (Try.prog.info? 42).map (fun i => (i.zero, i.size, i.bytes)) = some (some (.agg #[.string ⟨#[]⟩, .int .i64 0, .int .i64 0, .int .u8 0, .slice none 0 0, .slice none 0 0, .slice none 0 0]), 7, 112) := by kernel_rfl
set_option maxHeartbeats 1000000 in
set_option maxRecDepth 100000 in
theorem clone_devs {v : Value} {N : Nat} {cs : List Value} (w : World) (h : RowAt w.heap.size w v N 7 cs) (hs : N ≤ 1048576) :
    Calls Try.prog 28 #[v] w fun e w' => ∃ v', e = .returned v' ∧ w'.ownsRow w.heap.size 42 7 v' N cs ∧ Below w.heap.size w w' := by
  have q : ∀ (w : World) (a : Option Addr) (n c n' c' : Nat), (binOp .eql 22 (.slice a n c) (.slice none n' c')).run Try.prog w = .ok (.bool a.isNone) w := fun w a n c n' c' => Lib.run_eql_slice_nil w _ _ a n c n' c' u_devs
  obtain ⟨i0, hi, hz0, hz1, hz2⟩ := info_parts info_devs
  have D0 := Below.alN (Below.refl w.heap.size w) (.cells #[] 42)
  have o0 : (w.alloc (.cells #[] 42)).ownsRow w.heap.size 42 7 (.slice (some ⟨w.heap.size, 0, none⟩) 0 0) 0 [] := World.ownsRow_made w #[] 0 (Nat.le_refl _) (Nat.zero_le _) (by simp)
  obtain ⟨A, cap, rfl, h0, h1, h2, hl, ho, h3⟩ := h
  cases A with
  | none =>
    have hN : N = 0 := by
      by_cases hn : N = 0
      · exact hn
      · obtain ⟨_, _, e, _⟩ := h3 hn
        cases e
    subst hN
    have hcs : cs = [] := List.length_eq_zero_iff.1 (by simpa using hl)
    subst hcs
    clear h3 ho hl hs o0
    go_enter Try.func28, Try.ntmps28
    go_wp2_with fail
    go_ret
    exact ⟨_, rfl, World.ownsRow_nil _ _ _ _, Below.refl _ _⟩
  | some ad =>
    obtain ⟨v', w', hr, h4, h5, _⟩ := run_append_own (P := Try.prog) (w.alloc (.cells #[] 42)) w.heap.size 22 22 42 i0 _ 7 112 u_devs hi hz0 hz1 hz2 rfl (by decide) _ 0 [] o0 ad N cap cs hl (fun j u hj => by
      have hn : N ≠ 0 := fun e => by
        subst e
        have : cs = [] := List.length_eq_zero_iff.1 (by simpa using hl)
        subst this
        simp at hj
      obtain ⟨b, o, e, hb, hr⟩ := h3 hn
      cases e
      rw [Addr.add_lit]
      exact (D0.cell (p := ⟨b, o + j, none⟩) hb).trans (hr j u hj)) ho (by unfold maxLen; omega) (by omega) (by simp)
    have D1 := Below.appC D0 o0 h5 (Nat.le_refl _) (by simp)
    simp only [List.nil_append, Nat.zero_add] at h4
    have fin : Hid (w'.ownsRow w.heap.size 42 7 v' N cs ∧ Below w.heap.size w w') := ⟨h4, D1⟩
    clear h0 h1 h2 h3 h5 hs o0 D0 h4 D1 hl ho
    go_enter Try.func28, Try.ntmps28
    go_wp2_with (at_builtin; refine append_runC rfl _ _ 22 rfl rfl rfl hr ?_)
    go_ret
    exact ⟨_, rfl, fin.out⟩
end Go.Proofs.Ythioedgnambomaa
