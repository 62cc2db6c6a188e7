/-
  Package step: New.
-/
import Derived.Test.YtgmjlkllghlmmaaGreatGG
import Derived.Test.YtgmjlkllghlmmaaGreatGB
import Derived.Test.YtgmjlkllghlmmaaGreatGI
namespace Go.Proofs.YtgmjlkllghlmmaaGreat
open Go.RowKit Go.Maps

/-! ### what Check asks of devices -/
theorem devsFrom_all {ds : List Dv} : ∀ (m k : Nat), ds.length - k ≤ m → devsFrom ds k = 0 → ∀ j d, k ≤ j → ds[j]? = some d → devWrong ds j d = 0
  | 0, k, h, _, j, d, hj, hd => by
    have := (List.getElem?_eq_some_iff.1 hd).1
    omega
  | m + 1, k, h, h0, j, d, hj, hd => by
    have hjl := (List.getElem?_eq_some_iff.1 hd).1
    have hk : k < ds.length := by omega
    rw [devsFrom_at (List.getElem?_eq_getElem hk)] at h0
    split at h0
    · rename_i hw
      by_cases e : j = k
      · subst e
        rw [List.getElem?_eq_getElem hk, Option.some.injEq] at hd
        rw [← hd]
        exact hw
      · exact devsFrom_all m (k + 1) (by omega) h0 j d (by omega) hd
    · rename_i hw
      exact absurd h0 hw
theorem netV_devs {ds : List Dv} {ls : List Lk} (h : netV ds ls = 0) : ∀ d ∈ ds, devC d = 0 := by
  intro d hd
  obtain ⟨k, hk, e⟩ := List.mem_iff_getElem.1 hd
  unfold netV at h
  split at h
  · simp at h
  · split at h
    · rename_i hz
      have := devsFrom_all ds.length 0 (by omega) hz k d (Nat.zero_le _) (by rw [List.getElem?_eq_getElem hk, e])
      unfold devWrong at this
      split at this
      · split at this
        · simp at this
        · exact this
      · simp at this
    · rename_i hz
      exact absurd h hz
theorem devC_sizes {d : Dv} (h : devC d = 0) : d.backs.length ≤ 3 ∧ d.rules.length ≤ 8 ∧ d.routes.length ≤ 8 ∧ i64ok d.addr := by
  unfold devC devV at h
  split at h
  · simp at h
  split at h
  · simp at h
  rename_i h1 h2
  split at h
  · simp at h
  rename_i h3
  split at h
  · simp at h
  split at h
  · simp at h
  split at h
  · simp at h
  split at h
  · simp at h
  rename_i h8
  have hr : d.routes.length ≤ 8 := by
    unfold checkV at h
    split at h
    · simp at h
    · rename_i h9
      simpa using h9
  refine ⟨by omega, by omega, hr, ?_⟩
  have ha : (hasAddr d.kind = true ∧ 0 ≤ d.addr ∧ d.addr ≤ 15) ∨ d.addr = 0 := by
    cases hk : hasAddr d.kind
    · rw [hk] at h2
      simp at h2
      exact .inr h2.1
    · rw [hk] at h2
      simp at h2
      exact .inl ⟨rfl, by omega, by omega⟩
  rcases ha with ⟨_, a, b⟩ | a
  · exact i64ok_of (by omega) (by omega)
  · exact i64ok_of (by omega) (by omega)
theorem small_of {ds : List Dv} {ls : List Lk} (h : netV ds ls = 0) : Small ds ls := by
  obtain ⟨h1, h2, _⟩ := netV_links h
  exact ⟨by omega, by omega, fun d hd => by have := devC_sizes (netV_devs h d hd); omega, fun d hd => by have := devC_sizes (netV_devs h d hd); omega, fun d hd => by have := devC_sizes (netV_devs h d hd); omega⟩
theorem addrs_of {ds : List Dv} {ls : List Lk} (h : netV ds ls = 0) : AddrsOk ds := fun d hd => (devC_sizes (netV_devs h d hd)).2.2.2
/-- Nothing is known. -/
def noM : Mnd := ⟨fun _ => none, fun _ => none, fun _ => none⟩
/-- What New tells. -/
def NewOut (w : World) (ds : List Dv) (ls : List Lk) (e : Ending) (w' : World) : Prop :=
  Below w.heap.size w w' ∧ ((netV ds ls ≠ 0 ∧ e = .returned (.tuple #[.pointer none, .int .i64 (netV ds ls)])) ∨
    (netV ds ls = 0 ∧ ∃ m : Mp, e = .returned (.tuple #[.pointer (some ⟨m.B, m.z, none⟩), .int .i64 0]) ∧ MemAt w' m ds ls 0 noM ∧ w.heap.size ≤ m.f ∧ w.heap.size ≤ m.o ∧ w.heap.size ≤ m.k ∧ w.heap.size ≤ m.B ∧ m.z = 0 ∧ m.pre = [] ∧ m.post = []))
theorem MapAt.alloc {k e : TypeId} {α β : Type} {E : KeyEnc k α} {V : ElEnc e β} {w : World} {b n : Nat} {f : α → Option β} (h : MapAt E V w b n f) (o : Obj) : MapAt E V (w.alloc o) b n f := h.same (Below.heap_alloc w o b h.lt)
theorem mapAt_made' {k e : TypeId} {α β : Type} (E : KeyEnc k α) (V : ElEnc e β) (w : World) (b : Nat) (h : b = w.heap.size) : MapAt E V (w.alloc (.map #[] 0)) b 0 (fun _ => none) := by
  subst h
  exact mapAt_made E V w
theorem new_mem {w : World} {A B : Option Addr} {cap cap' : Nat} {ds : List Dv} {ls : List Lk} (hD : Devs w.heap.size w (.slice A ds.length cap) ds) (hL : Links w.heap.size w (.slice B ls.length cap') ls) :
    MemAt ((((w.alloc (.map #[] 0)).alloc (.map #[] 0)).alloc (.map #[] 0)).alloc (.cells #[.slice A ds.length cap, .slice B ls.length cap', .map (some w.heap.size), .map (some (w.heap.size + 1)), .map (some (w.heap.size + 1 + 1))] 73)) ⟨0, [], [], 73, w.heap.size + 1 + 1 + 1, w.heap.size, w.heap.size + 1, w.heap.size + 1 + 1, A, cap, B, cap'⟩ ds ls 0 noM := by
  have hb := Below.alN (Below.alN (Below.alN (Below.alN (Below.refl w.heap.size w) (.map #[] 0)) (.map #[] 0)) (.map #[] 0)) (.cells #[.slice A ds.length cap, .slice B ls.length cap', .map (some w.heap.size), .map (some (w.heap.size + 1)), .map (some (w.heap.size + 1 + 1))] 73)
  refine ⟨⟨bk_new' _ _ _ _ (by simp), rfl⟩, (hD.below hb).mono hb.size, (hL.below hb).mono hb.size, (((mapAt_made' pofE unitV w _ rfl).alloc _).alloc _).alloc _, ((mapAt_made' prtE endV _ _ (by simp)).alloc _).alloc _, (mapAt_made' pofE intV _ _ (by simp)).alloc _, ?_, ?_, ?_⟩
  · show w.heap.size ≠ w.heap.size + 1
    omega
  · show w.heap.size ≠ w.heap.size + 1 + 1
    omega
  · show w.heap.size + 1 ≠ w.heap.size + 1 + 1
    omega
set_option maxHeartbeats 4000000 in
set_option maxRecDepth 100000 in
/-- New. -/
theorem new_any (A B : Option Addr) (cap cap' : Nat) (ds : List Dv) (ls : List Lk) (w : World) (hD : Hid (Devs w.heap.size w (.slice A ds.length cap) ds)) (hL : Hid (Links w.heap.size w (.slice B ls.length cap') ls)) :
    Calls Tryz.prog 5 #[.agg #[.slice A ds.length cap, .slice B ls.length cap']] w (NewOut w ds ls) := by
  have CK : Hid (∀ W, Below w.heap.size w W → Calls Tryz.prog 21 #[.agg #[.slice A ds.length cap, .slice B ls.length cap']] W fun e w' => e = .returned (.int .i64 (netV ds ls)) ∧ Below W.heap.size W w') := fun W h => net_any _ _ ds ls W ((hD.out.below h).mono h.size) ((hL.out.below h).mono h.size)
  have CP : Hid (netV ds ls = 0 → ∀ W, Below w.heap.size w W → Calls Tryz.prog 22 #[.agg #[.slice A ds.length cap, .slice B ls.length cap']] W (CopyOut W ds ls)) := fun hz W h => copy_any A B cap cap' ds ls W ((hD.out.below h).mono h.size) ((hL.out.below h).mono h.size) (small_of hz)
  have D0 := Below.alN (Below.refl w.heap.size w) (.cells #[.slice A ds.length cap, .slice B ls.length cap'] 25)
  have N0 := bk_new w #[.slice A ds.length cap, .slice B ls.length cap'] 25
  clear hD hL
  go_enter Tryz.func5, Tryz.ntmps5
  go_wp2_with fail
  refine (CK.out _ D0).mono ?_
  rintro e w1 ⟨rfl, hb1⟩
  have D1 := chnN hb1 D0
  have N1 := N0.keep hb1
  clear hb1 D0 N0 CK
  obtain ⟨n0, n1⟩ := N1.two
  by_cases hz : netV ds ls = 0
  rotate_left
  · have hz1 : (netV ds ls == 0) = false := by simpa using hz
    have HZ : Hid (netV ds ls ≠ 0) := hz
    clear hz CP
    go_wp2_with fail
    go_ret2
    exact ⟨D1, .inl ⟨HZ.out, rfl⟩⟩
  have CP2 : Hid _ := CP.out hz
  have HZ : Hid (netV ds ls = 0) := hz
  rw [hz]
  clear hz CP
  go_wp2_with fail
  refine (CP2.out _ D1).mono ?_
  rintro e w2 ⟨A2, q2, B2, q3, rfl, hD2, hL2, hb2⟩
  have D2 := chnN hb2 D1
  have z2 := D2.size
  have M5 := new_mem hD2 hL2
  have D6 := Below.alN (Below.alN (Below.alN (Below.alN D2 (.map #[] 0)) (.map #[] 0)) (.map #[] 0)) (.cells #[.slice A2 ds.length q2, .slice B2 ls.length q3, .map (some w2.heap.size), .map (some (w2.heap.size + 1)), .map (some (w2.heap.size + 1 + 1))] 73)
  clear hb2 D1 N1 n0 n1 hD2 hL2 CP2
  have hmm := @run_makeMap Tryz.prog
  go_wp2_with fail
  go_ret2
  exact ⟨D6, .inr ⟨HZ.out, _, rfl, M5, by show w.heap.size ≤ w2.heap.size; omega, by show w.heap.size ≤ w2.heap.size + 1; omega, by show w.heap.size ≤ w2.heap.size + 1 + 1; omega, by show w.heap.size ≤ w2.heap.size + 1 + 1 + 1; omega, rfl, rfl, rfl⟩⟩
end Go.Proofs.YtgmjlkllghlmmaaGreat

namespace Go.Proofs.YtgmjlkllghlmmaaGreat
open Go.RowKit Go.Maps

theorem delete_run {P : Program} {w w' : World} {ops : Array Oper} {rest : List Oper} {o : Oper} {a : Act} {Q : Exit → Act → World → Prop} (hgd : o.guard = none) (s x : Operand) (t k : TypeId)
    (ho : o.op = .call { callee := .builtin .delete, args := #[s, x], argTypes := #[t, k] }) {v x' v' : Value} (hs : a.eval s = v) (hx : a.eval x = x') (hr : (Builtin.delete_ #[t, k] o.type #[v, x']).run P w = .ok v' w')
    (h : wpList P ops Q rest (a.put o.dst v') w') : wpList P ops Q (o :: rest) a w := by
  refine wpList_plain hgd fun K hK => ?_
  unfold Oper.wp execOp
  simp only [ho, resolve, invoke, builtin, Sem.run_bind, Sem.run_pure, Result.andThen_ok, List.map_toArray, List.map_cons, List.map_nil, hs, hx, hr]
  exact hK _ _ h
structure FR where
  err : Int
  M : Mnd
open Classical in
/-- What Forget tells, and does. -/
noncomputable def forgetP (ds : List Dv) (M : Mnd) (i : Int) (p : Pk) (port : Int) : FR :=
  if 0 ≤ i ∧ i < (ds.length : Int) then
    (if kindAt ds i = 3 then (if (M.fl (i, p)).isSome then ⟨0, { M with fl := delF M.fl (i, p) }⟩ else ⟨7, M⟩)
    else if kindAt ds i = 4 then (if (M.ow (i, port)).isSome then ⟨0, { M with ow := delF M.ow (i, port) }⟩ else ⟨7, M⟩)
    else if kindAt ds i = 5 then (if (M.bk (i, p)).isSome then ⟨0, { M with bk := delF M.bk (i, p) }⟩ else ⟨7, M⟩)
    else ⟨4, M⟩)
  else ⟨4, M⟩
def FPost (m : Mp) (ds : List Dv) (ls : List Lk) (n : Nat) (w : World) (f : FR) (e : Ending) (w' : World) : Prop :=
  e = .returned (.int .i64 f.err) ∧ MemAt w' m ds ls n f.M ∧ HK m w w'
set_option maxHeartbeats 2000000 in
set_option maxRecDepth 100000 in
theorem drop_F (m : Mp) (ds : List Dv) (ls : List Lk) (n : Nat) (M : Mnd) (i : Int) (p : Pk) (w : World) (hM : Hid (MemAt w m ds ls n M)) (hi : i64ok i) (hp : p.ok) :
    Calls Tryz.prog 45 #[.map (some m.f), .agg #[.int .i64 i, .int .i64 p.s, .int .i64 p.d, .int .i64 p.sp, .int .i64 p.dp]] w (FPost m ds ls n w (if (M.fl (i, p)).isSome then ⟨0, { M with fl := delF M.fl (i, p) }⟩ else ⟨7, M⟩)) := by
  have M1 := hM.out.alloc (.cells #[.int .i64 i, .int .i64 p.s, .int .i64 p.d, .int .i64 p.sp, .int .i64 p.dp] 109)
  have D1 := Below.alN (Below.refl w.heap.size w) (.cells #[.int .i64 i, .int .i64 p.s, .int .i64 p.d, .int .i64 p.sp, .int .i64 p.dp] 109)
  have lk := M1.lookF hi hp
  generalize hx : (M.fl (i, p)).isSome = x0 at *
  have M2 := M1.alloc (.cells #[] 110)
  have D2 := Below.alN D1 (.cells #[] 110)
  obtain ⟨w', hr, hm, ht⟩ := M2.fl.drop uMf (x := (i, p)) ⟨hi, hp⟩ 0
  obtain ⟨M3, K3⟩ := M2.turnF (Nat.le_refl _) hm ht
  have K4 : HK m w w' := (HK.of_below D2).trans K3
  have hr' : (Builtin.delete_ #[69, 109] 0 #[.map (some m.f), .agg #[.int .i64 i, .int .i64 p.s, .int .i64 p.d, .int .i64 p.sp, .int .i64 p.dp]]).run Tryz.prog ((w.alloc (.cells #[.int .i64 i, .int .i64 p.s, .int .i64 p.d, .int .i64 p.sp, .int .i64 p.dp] 109)).alloc (.cells #[] 110)) = .ok (.tuple #[]) w' := hr
  clear hr hm ht K3 M1 hx D1
  cases x0
  · go_enter Tryz.func45, Tryz.ntmps45
    go_wp2_with fail
    go_ret
    exact ⟨rfl, M2, HK.of_below D2⟩
  · go_enter Tryz.func45, Tryz.ntmps45
    go_wp2_with (at_builtin; refine delete_run rfl _ _ 69 109 rfl rfl rfl hr' ?_)
    go_ret
    exact ⟨rfl, M3, K4⟩
set_option maxHeartbeats 2000000 in
set_option maxRecDepth 100000 in
theorem drop_O (m : Mp) (ds : List Dv) (ls : List Lk) (n : Nat) (M : Mnd) (i k : Int) (w : World) (hM : Hid (MemAt w m ds ls n M)) (hi : i64ok i) (hk : i64ok k) :
    Calls Tryz.prog 46 #[.map (some m.o), .agg #[.int .i64 i, .int .i64 k]] w (FPost m ds ls n w (if (M.ow (i, k)).isSome then ⟨0, { M with ow := delF M.ow (i, k) }⟩ else ⟨7, M⟩)) := by
  have M1 := hM.out.alloc (.cells #[.int .i64 i, .int .i64 k] 113)
  have D1 := Below.alN (Below.refl w.heap.size w) (.cells #[.int .i64 i, .int .i64 k] 113)
  have lk := M1.lookO hi hk
  generalize hx : (M.ow (i, k)).isSome = x0 at *
  generalize ((M.ow (i, k)).getD (0, 0)).1 = ea at *
  generalize ((M.ow (i, k)).getD (0, 0)).2 = eb at *
  have M2 := M1.alloc (.cells #[.int .i64 ea, .int .i64 eb] 115)
  have D2 := Below.alN D1 (.cells #[.int .i64 ea, .int .i64 eb] 115)
  obtain ⟨w', hr, hm, ht⟩ := M2.ow.drop uMo (x := (i, k)) ⟨hi, hk⟩ 0
  obtain ⟨M3, K3⟩ := M2.turnO (Nat.le_refl _) hm ht
  have K4 : HK m w w' := (HK.of_below D2).trans K3
  have hr' : (Builtin.delete_ #[70, 113] 0 #[.map (some m.o), .agg #[.int .i64 i, .int .i64 k]]).run Tryz.prog ((w.alloc (.cells #[.int .i64 i, .int .i64 k] 113)).alloc (.cells #[.int .i64 ea, .int .i64 eb] 115)) = .ok (.tuple #[]) w' := hr
  clear hr hm ht K3 M1 hx D1
  cases x0
  · go_enter Tryz.func46, Tryz.ntmps46
    go_wp2_with fail
    go_ret
    exact ⟨rfl, M2, HK.of_below D2⟩
  · go_enter Tryz.func46, Tryz.ntmps46
    go_wp2_with (at_builtin; refine delete_run rfl _ _ 70 113 rfl rfl rfl hr' ?_)
    go_ret
    exact ⟨rfl, M3, K4⟩
set_option maxHeartbeats 2000000 in
set_option maxRecDepth 100000 in
theorem drop_K (m : Mp) (ds : List Dv) (ls : List Lk) (n : Nat) (M : Mnd) (i : Int) (p : Pk) (w : World) (hM : Hid (MemAt w m ds ls n M)) (hi : i64ok i) (hp : p.ok) :
    Calls Tryz.prog 47 #[.map (some m.k), .agg #[.int .i64 i, .int .i64 p.s, .int .i64 p.d, .int .i64 p.sp, .int .i64 p.dp]] w (FPost m ds ls n w (if (M.bk (i, p)).isSome then ⟨0, { M with bk := delF M.bk (i, p) }⟩ else ⟨7, M⟩)) := by
  have M1 := hM.out.alloc (.cells #[.int .i64 i, .int .i64 p.s, .int .i64 p.d, .int .i64 p.sp, .int .i64 p.dp] 109)
  have D1 := Below.alN (Below.refl w.heap.size w) (.cells #[.int .i64 i, .int .i64 p.s, .int .i64 p.d, .int .i64 p.sp, .int .i64 p.dp] 109)
  have lk := M1.lookB hi hp
  generalize hx : (M.bk (i, p)).isSome = x0 at *
  generalize (M.bk (i, p)).getD 0 = ea at *
  have M2 := M1
  have D2 := D1
  obtain ⟨w', hr, hm, ht⟩ := M2.bk.drop uMk (x := (i, p)) ⟨hi, hp⟩ 0
  obtain ⟨M3, K3⟩ := M2.turnK (Nat.le_refl _) hm ht
  have K4 : HK m w w' := (HK.of_below D2).trans K3
  have hr' : (Builtin.delete_ #[71, 109] 0 #[.map (some m.k), .agg #[.int .i64 i, .int .i64 p.s, .int .i64 p.d, .int .i64 p.sp, .int .i64 p.dp]]).run Tryz.prog ((w.alloc (.cells #[.int .i64 i, .int .i64 p.s, .int .i64 p.d, .int .i64 p.sp, .int .i64 p.dp] 109))) = .ok (.tuple #[]) w' := hr
  clear hr hm ht K3 hx
  cases x0
  · go_enter Tryz.func47, Tryz.ntmps47
    go_wp2_with fail
    go_ret
    exact ⟨rfl, M2, HK.of_below D2⟩
  · go_enter Tryz.func47, Tryz.ntmps47
    go_wp2_with (at_builtin; refine delete_run rfl _ _ 71 109 rfl rfl rfl hr' ?_)
    go_ret
    exact ⟨rfl, M3, K4⟩
set_option maxHeartbeats 2000000 in
set_option maxRecDepth 100000 in
theorem forget_out (m : Mp) (ds : List Dv) (ls : List Lk) (n : Nat) (M : Mnd) (i : Int) (p : Pk) (port : Int) (w : World) (hM : Hid (MemAt w m ds ls n M)) (h : ¬ (0 ≤ i ∧ i < (ds.length : Int))) :
    Calls Tryz.prog 9 #[.pointer (some ⟨m.B, m.z, none⟩), .int .i64 i, pkV p, .int .i64 port] w (FPost m ds ls n w ⟨4, M⟩) := by
  have M1 := hM.out.alloc (pkC p)
  have D1 := Below.alN (Below.refl w.heap.size w) (pkC p)
  have P1 := bk_new w #[.int .i64 p.s, .int .i64 p.d, .int .i64 p.sp, .int .i64 p.dp] 39
  obtain ⟨q0, _, _, _, _⟩ := M1.cells
  obtain ⟨s, dd, sp, dp⟩ := p
  by_cases h0 : 0 ≤ i
  · have u0 : decide (i < 0) = false := by simp; omega
    have u1 : decide ((ds.length : Int) ≤ i) = true := by simp; omega
    clear h h0
    go_enter Tryz.func9, Tryz.ntmps9
    go_wp2_with fail
    go_ret
    exact ⟨rfl, M1, HK.of_below D1⟩
  · have u0 : decide (i < 0) = true := by simp; omega
    clear h h0
    go_enter Tryz.func9, Tryz.ntmps9
    go_wp2_with fail
    go_ret
    exact ⟨rfl, M1, HK.of_below D1⟩
set_option maxHeartbeats 2000000 in
set_option maxRecDepth 100000 in
theorem forget_F (m : Mp) (ds : List Dv) (ls : List Lk) (n : Nat) (M : Mnd) (i : Nat) (d : Dv) (p : Pk) (port : Int) (w : World) (hM : Hid (MemAt w m ds ls n M)) (hx : Hid (ds[i]? = some d)) (hk : d.kind = 3) (r : FR)
    (DR : Hid (∀ W, MemAt W m ds ls n M → Calls Tryz.prog 45 #[.map (some m.f), .agg #[.int .i64 (i : Int), .int .i64 p.s, .int .i64 p.d, .int .i64 p.sp, .int .i64 p.dp]] W (FPost m ds ls n W r))) :
    Calls Tryz.prog 9 #[.pointer (some ⟨m.B, m.z, none⟩), .int .i64 (i : Int), pkV p, .int .i64 port] w (FPost m ds ls n w r) := by
  have M1 := hM.out.alloc (pkC p)
  have D1 := Below.alN (Below.refl w.heap.size w) (pkC p)
  have P1 := bk_new w #[.int .i64 p.s, .int .i64 p.d, .int .i64 p.sp, .int .i64 p.dp] 39
  obtain ⟨q0, _, q2, q3, q4⟩ := M1.cells
  obtain ⟨b, o, vb, vr, vt, eA, HD, k1, k2⟩ := M1.dev hx.out
  rw [eA] at q0
  obtain ⟨c0, c1, c2, c3, c4, c5, c6, s1, s2, s3⟩ := HD
  have u0 : decide ((i : Int) < 0) = false := by simp
  have u1 : decide ((ds.length : Int) ≤ (i : Int)) = false := by simp; omega
  clear hM hx eA s1 s2 s3 c0 c2 c3 c4 c5 c6
  rw [hk] at c1
  obtain ⟨p0, p1, p2, p3, _⟩ := P1.four
  have M1d := M1.drew
  obtain ⟨s, dd, sp, dp⟩ := p
  simp only at *
  have Q : (w.alloc (pkC ⟨s, dd, sp, dp⟩)).drew.cell? ⟨m.B, m.z + 2, none⟩ = some (.map (some m.f)) := q2
  have P0 : (w.alloc (pkC ⟨s, dd, sp, dp⟩)).drew.cell? ⟨w.heap.size, 0, none⟩ = some (.int .i64 s) := p0
  have P1' : (w.alloc (pkC ⟨s, dd, sp, dp⟩)).drew.cell? ⟨w.heap.size, 1, none⟩ = some (.int .i64 dd) := p1
  have P2 : (w.alloc (pkC ⟨s, dd, sp, dp⟩)).drew.cell? ⟨w.heap.size, 2, none⟩ = some (.int .i64 sp) := p2
  have P3 : (w.alloc (pkC ⟨s, dd, sp, dp⟩)).drew.cell? ⟨w.heap.size, 3, none⟩ = some (.int .i64 dp) := p3
  go_enter Tryz.func9, Tryz.ntmps9
  go_wp2_with fail
  go_region_held3 (fun w' => w'.cell? ⟨m.B, m.z + 2, none⟩ = some (.map (some m.f)) ∧ w'.cell? ⟨w.heap.size, 0, none⟩ = some (.int .i64 s) ∧ w'.cell? ⟨w.heap.size, 1, none⟩ = some (.int .i64 dd) ∧ w'.cell? ⟨w.heap.size, 2, none⟩ = some (.int .i64 sp) ∧ w'.cell? ⟨w.heap.size, 3, none⟩ = some (.int .i64 dp)) (go_keep) ((go_at_call 45; refine (DR.out _ M1d).mono ?_; rintro e w5 ⟨rfl, M5, K5⟩; have g0 := (M1d.ck K5).cell Q; have g1 := (M1d.ck K5).cell P0; have g2 := (M1d.ck K5).cell P1'; have g3 := (M1d.ck K5).cell P2; have g4 := (M1d.ck K5).cell P3))
  go_wp2_with fail
  go_ret
  exact ⟨rfl, M5, (HK.of_below D1.drew).trans K5⟩
set_option maxHeartbeats 2000000 in
set_option maxRecDepth 100000 in
theorem forget_K (m : Mp) (ds : List Dv) (ls : List Lk) (n : Nat) (M : Mnd) (i : Nat) (d : Dv) (p : Pk) (port : Int) (w : World) (hM : Hid (MemAt w m ds ls n M)) (hx : Hid (ds[i]? = some d)) (hk : d.kind = 5) (r : FR)
    (DR : Hid (∀ W, MemAt W m ds ls n M → Calls Tryz.prog 47 #[.map (some m.k), .agg #[.int .i64 (i : Int), .int .i64 p.s, .int .i64 p.d, .int .i64 p.sp, .int .i64 p.dp]] W (FPost m ds ls n W r))) :
    Calls Tryz.prog 9 #[.pointer (some ⟨m.B, m.z, none⟩), .int .i64 (i : Int), pkV p, .int .i64 port] w (FPost m ds ls n w r) := by
  have M1 := hM.out.alloc (pkC p)
  have D1 := Below.alN (Below.refl w.heap.size w) (pkC p)
  have P1 := bk_new w #[.int .i64 p.s, .int .i64 p.d, .int .i64 p.sp, .int .i64 p.dp] 39
  obtain ⟨q0, _, q2, q3, q4⟩ := M1.cells
  obtain ⟨b, o, vb, vr, vt, eA, HD, k1, k2⟩ := M1.dev hx.out
  rw [eA] at q0
  obtain ⟨c0, c1, c2, c3, c4, c5, c6, s1, s2, s3⟩ := HD
  have u0 : decide ((i : Int) < 0) = false := by simp
  have u1 : decide ((ds.length : Int) ≤ (i : Int)) = false := by simp; omega
  clear hM hx eA s1 s2 s3 c0 c2 c3 c4 c5 c6
  rw [hk] at c1
  obtain ⟨p0, p1, p2, p3, _⟩ := P1.four
  have M1d := M1.drew
  obtain ⟨s, dd, sp, dp⟩ := p
  simp only at *
  have Q : (w.alloc (pkC ⟨s, dd, sp, dp⟩)).drew.cell? ⟨m.B, m.z + 4, none⟩ = some (.map (some m.k)) := q4
  have P0 : (w.alloc (pkC ⟨s, dd, sp, dp⟩)).drew.cell? ⟨w.heap.size, 0, none⟩ = some (.int .i64 s) := p0
  have P1' : (w.alloc (pkC ⟨s, dd, sp, dp⟩)).drew.cell? ⟨w.heap.size, 1, none⟩ = some (.int .i64 dd) := p1
  have P2 : (w.alloc (pkC ⟨s, dd, sp, dp⟩)).drew.cell? ⟨w.heap.size, 2, none⟩ = some (.int .i64 sp) := p2
  have P3 : (w.alloc (pkC ⟨s, dd, sp, dp⟩)).drew.cell? ⟨w.heap.size, 3, none⟩ = some (.int .i64 dp) := p3
  go_enter Tryz.func9, Tryz.ntmps9
  go_wp2_with fail
  go_region_held3 (fun w' => w'.cell? ⟨m.B, m.z + 4, none⟩ = some (.map (some m.k)) ∧ w'.cell? ⟨w.heap.size, 0, none⟩ = some (.int .i64 s) ∧ w'.cell? ⟨w.heap.size, 1, none⟩ = some (.int .i64 dd) ∧ w'.cell? ⟨w.heap.size, 2, none⟩ = some (.int .i64 sp) ∧ w'.cell? ⟨w.heap.size, 3, none⟩ = some (.int .i64 dp)) (go_keep) ((go_at_call 47; refine (DR.out _ M1d).mono ?_; rintro e w5 ⟨rfl, M5, K5⟩; have g0 := (M1d.ck K5).cell Q; have g1 := (M1d.ck K5).cell P0; have g2 := (M1d.ck K5).cell P1'; have g3 := (M1d.ck K5).cell P2; have g4 := (M1d.ck K5).cell P3))
  go_wp2_with fail
  go_ret
  exact ⟨rfl, M5, (HK.of_below D1.drew).trans K5⟩
set_option maxHeartbeats 2000000 in
set_option maxRecDepth 100000 in
theorem forget_O (m : Mp) (ds : List Dv) (ls : List Lk) (n : Nat) (M : Mnd) (i : Nat) (d : Dv) (p : Pk) (port : Int) (w : World) (hM : Hid (MemAt w m ds ls n M)) (hx : Hid (ds[i]? = some d)) (hk : d.kind = 4) (r : FR)
    (DR : Hid (∀ W, MemAt W m ds ls n M → Calls Tryz.prog 46 #[.map (some m.o), .agg #[.int .i64 (i : Int), .int .i64 port]] W (FPost m ds ls n W r))) :
    Calls Tryz.prog 9 #[.pointer (some ⟨m.B, m.z, none⟩), .int .i64 (i : Int), pkV p, .int .i64 port] w (FPost m ds ls n w r) := by
  have M1 := hM.out.alloc (pkC p)
  have D1 := Below.alN (Below.refl w.heap.size w) (pkC p)
  have P1 := bk_new w #[.int .i64 p.s, .int .i64 p.d, .int .i64 p.sp, .int .i64 p.dp] 39
  obtain ⟨q0, _, q2, q3, q4⟩ := M1.cells
  obtain ⟨b, o, vb, vr, vt, eA, HD, k1, k2⟩ := M1.dev hx.out
  rw [eA] at q0
  obtain ⟨c0, c1, c2, c3, c4, c5, c6, s1, s2, s3⟩ := HD
  have u0 : decide ((i : Int) < 0) = false := by simp
  have u1 : decide ((ds.length : Int) ≤ (i : Int)) = false := by simp; omega
  clear hM hx eA s1 s2 s3 c0 c2 c3 c4 c5 c6
  rw [hk] at c1
  obtain ⟨s, dd, sp, dp⟩ := p
  go_enter Tryz.func9, Tryz.ntmps9
  go_wp2_with fail
  refine (DR.out _ M1).mono ?_
  rintro e w5 ⟨rfl, M5, K5⟩
  go_wp2_with fail
  go_ret
  exact ⟨rfl, M5, (HK.of_below D1).trans K5⟩
set_option maxHeartbeats 2000000 in
set_option maxRecDepth 100000 in
theorem forget_no (m : Mp) (ds : List Dv) (ls : List Lk) (n : Nat) (M : Mnd) (i : Nat) (d : Dv) (p : Pk) (port : Int) (w : World) (hM : Hid (MemAt w m ds ls n M)) (hx : Hid (ds[i]? = some d)) (hk : ¬ (d.kind = 3 ∨ d.kind = 4 ∨ d.kind = 5)) :
    Calls Tryz.prog 9 #[.pointer (some ⟨m.B, m.z, none⟩), .int .i64 (i : Int), pkV p, .int .i64 port] w (FPost m ds ls n w ⟨4, M⟩) := by
  have M1 := hM.out.alloc (pkC p)
  have D1 := Below.alN (Below.refl w.heap.size w) (pkC p)
  have P1 := bk_new w #[.int .i64 p.s, .int .i64 p.d, .int .i64 p.sp, .int .i64 p.dp] 39
  obtain ⟨q0, _, q2, q3, q4⟩ := M1.cells
  obtain ⟨b, o, vb, vr, vt, eA, HD, k1, k2⟩ := M1.dev hx.out
  rw [eA] at q0
  obtain ⟨c0, c1, c2, c3, c4, c5, c6, s1, s2, s3⟩ := HD
  have u0 : decide ((i : Int) < 0) = false := by simp
  have u1 : decide ((ds.length : Int) ≤ (i : Int)) = false := by simp; omega
  clear hM hx eA s1 s2 s3 c0 c2 c3 c4 c5 c6
  have kk3 : (d.kind == 3) = false := by simp; omega
  have kk4 : (d.kind == 4) = false := by simp; omega
  have kk5 : (d.kind == 5) = false := by simp; omega
  clear hk
  generalize d.kind = kd at *
  obtain ⟨s, dd, sp, dp⟩ := p
  go_enter Tryz.func9, Tryz.ntmps9
  go_wp2_with fail
  go_ret
  exact ⟨rfl, M1, HK.of_below D1⟩
/-- Forget. -/
theorem forget_any (m : Mp) (ds : List Dv) (ls : List Lk) (n : Nat) (M : Mnd) (i : Int) (p : Pk) (port : Int) (w : World) (hM : MemAt w m ds ls n M) (hi : i64ok i) (hp : p.ok) (hq : i64ok port) :
    Calls Tryz.prog 9 #[.pointer (some ⟨m.B, m.z, none⟩), .int .i64 i, pkV p, .int .i64 port] w (FPost m ds ls n w (forgetP ds M i p port)) := by
  unfold forgetP
  by_cases h : 0 ≤ i ∧ i < (ds.length : Int)
  rotate_left
  · rw [if_neg h]
    exact forget_out m ds ls n M i p port w hM h
  rw [if_pos h]
  obtain ⟨k, rfl⟩ : ∃ k : Nat, i = (k : Int) := ⟨i.toNat, by omega⟩
  have hk : k < ds.length := by omega
  obtain ⟨d, hd⟩ : ∃ d, ds[k]? = some d := ⟨_, List.getElem?_eq_getElem hk⟩
  have ek : kindAt ds (k : Int) = d.kind := by
    unfold kindAt
    rw [Int.toNat_natCast, hd]
    rfl
  rw [ek]
  by_cases k3 : d.kind = 3
  · rw [if_pos k3]
    exact forget_F m ds ls n M k d p port w hM hd k3 _ (fun W h => drop_F m ds ls n M k p W h hi hp)
  rw [if_neg k3]
  by_cases k4 : d.kind = 4
  · rw [if_pos k4]
    exact forget_O m ds ls n M k d p port w hM hd k4 _ (fun W h => drop_O m ds ls n M k port W h hi hq)
  rw [if_neg k4]
  by_cases k5 : d.kind = 5
  · rw [if_pos k5]
    exact forget_K m ds ls n M k d p port w hM hd k5 _ (fun W h => drop_K m ds ls n M k p W h hi hp)
  rw [if_neg k5]
  exact forget_no m ds ls n M k d p port w hM hd (by omega)
end Go.Proofs.YtgmjlkllghlmmaaGreat
