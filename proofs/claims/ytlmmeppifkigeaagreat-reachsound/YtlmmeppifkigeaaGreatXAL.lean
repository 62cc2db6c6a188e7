/-
  XAL.
-/
import Derived.Test.YtlmmeppifkigeaaGreatXAF
import Derived.Test.YtlmmeppifkigeaaGreatXAK
import Derived.Maps.AppendAt
import Derived.Deep.Heap
import Derived.OneCell
import Derived.Deep.RegionHeldLaw
import Derived.Deep.RegionLaw
set_option maxHeartbeats 8000000
set_option maxRecDepth 100000
namespace Go.Proofs.YtlmmeppifkigeaaGreat
open Go.RowKit Go.Maps
theorem devsFrom_all {ds : List Dv} : ∀ (m k : Nat), ds.length - k <= m -> devsFrom ds k = 0 -> ∀ j d, k <= j -> ds[j]? = some d -> devWrong ds j d = 0
 | 0, k, h, _, j, d, hj, hd => by
   have := (List.getElem?_eq_some_iff.1 hd).1
   omega
 | m + 1, k, h, h0, j, d, hj, hd => by
   have hjl := (List.getElem?_eq_some_iff.1 hd).1
   have hk : k < ds.length := by omega
   rw [devsFrom_at (List.getElem?_eq_getElem hk)] at h0
   split at h0
   ·rename_i hw
    by_cases e : j = k
    ·subst e
     rw [List.getElem?_eq_getElem hk, Option.some.injEq] at hd
     rw [<- hd]
     exact hw
    ·exact devsFrom_all m (k + 1) (by omega) h0 j d (by omega) hd
   ·rename_i hw
    exact absurd h0 hw
theorem netV_devs {ds : List Dv} {ls : List Lk} (h : netV ds ls = 0) : ∀ d ∈ ds, devC d = 0 := by
 intro d hd
 obtain ⟨k, hk, e⟩ := List.mem_iff_getElem.1 hd
 unfold netV at h
 split at h
 ·simp at h
 ·split at h
  ·rename_i hz
   have := devsFrom_all ds.length 0 (by omega) hz k d (Nat.zero_le _) (by rw [List.getElem?_eq_getElem hk, e])
   unfold devWrong at this
   split at this
   ·split at this
    ·simp at this
    ·exact this
   ·simp at this
  ·rename_i hz
   exact absurd h hz
theorem devC_sizes {d : Dv} (h : devC d = 0) : d.backs.length <= 3 ∧ d.rules.length <= 8 ∧ d.routes.length <= 8 ∧ i64ok d.addr := by
 unfold devC devV at h
 split at h
 ·simp at h
 split at h
 ·simp at h
 rename_i h1 h2
 split at h
 ·simp at h
 rename_i h3
 split at h
 ·simp at h
 split at h
 ·simp at h
 split at h
 ·simp at h
 split at h
 ·simp at h
 rename_i h8
 have hr : d.routes.length <= 8 := by
  unfold checkV at h
  split at h
  ·simp at h
  ·rename_i h9
   simpa using h9
 refine ⟨by omega, by omega, hr, ?_⟩
 have ha : (hasAddr d.kind = true ∧ 0 <= d.addr ∧ d.addr <= 15) ∨ d.addr = 0 := by
  cases hk : hasAddr d.kind
  ·rw [hk] at h2
   simp at h2
   exact .inr h2.1
  ·rw [hk] at h2
   simp at h2
   exact .inl ⟨rfl, by omega, by omega⟩
 rcases ha with ⟨_, a, b⟩ | a
 ·exact i64ok_of (by omega) (by omega)
 ·exact i64ok_of (by omega) (by omega)
theorem small_of {ds : List Dv} {ls : List Lk} (h : netV ds ls = 0) : Small ds ls := by
 obtain ⟨h1, h2, _⟩ := netV_links h
 exact ⟨by omega, by omega, fun d hd => by have := devC_sizes (netV_devs h d hd); omega, fun d hd => by have := devC_sizes (netV_devs h d hd); omega, fun d hd => by have := devC_sizes (netV_devs h d hd); omega⟩
theorem addrs_of {ds : List Dv} {ls : List Lk} (h : netV ds ls = 0) : AddrsOk ds := fun d hd => (devC_sizes (netV_devs h d hd)).2.2.2
def noM : Mnd := ⟨fun _ => none, fun _ => none, fun _ => none⟩
def NewOut (w : World) (ds : List Dv) (ls : List Lk) (e : Ending) (w' : World) : Prop :=
 Below w.heap.size w w' ∧ ((netV ds ls ≠ 0 ∧ e = .returned (.tuple #[.pointer none, .int .i64 (netV ds ls)])) ∨
  (netV ds ls = 0 ∧ ∃ m : Mp, e = .returned (.tuple #[.pointer (some ⟨m.B, m.z, none⟩), .int .i64 0]) ∧ MemAt w' m ds ls 0 noM ∧ w.heap.size <= m.f ∧ w.heap.size <= m.o ∧ w.heap.size <= m.k ∧ w.heap.size <= m.B ∧ m.z = 0 ∧ m.pre = [] ∧ m.post = []))
theorem MapAt.alloc {k e : TypeId} {α β : Type} {E : KeyEncW k α} {V : ElEnc e β} {w : World} {b n : Nat} {f : α -> Option β} (h : MapAt E V w b n f) (o : Obj) : MapAt E V (w.alloc o) b n f := h.same (Below.heap_alloc w o b h.lt)
theorem mapAt_made' {k e : TypeId} {α β : Type} (E : KeyEncW k α) (V : ElEnc e β) (w : World) (b : Nat) (h : b = w.heap.size) : MapAt E V (w.alloc (.map #[] 0)) b 0 (fun _ => none) := by
 subst h
 exact mapAt_made E V w
theorem new_mem {w : World} {A B : Option Addr} {cap cap' : Nat} {ds : List Dv} {ls : List Lk} (hD : Devs w.heap.size w (.slice A ds.length cap) ds) (hL : Links w.heap.size w (.slice B ls.length cap') ls) :
  MemAt ((((w.alloc (.map #[] 0)).alloc (.map #[] 0)).alloc (.map #[] 0)).alloc (.cells #[.slice A ds.length cap, .slice B ls.length cap', .map (some w.heap.size), .map (some (w.heap.size + 1)), .map (some (w.heap.size + 1 + 1))] 82)) ⟨0, [], [], 82, w.heap.size + 1 + 1 + 1, w.heap.size, w.heap.size + 1, w.heap.size + 1 + 1, A, cap, B, cap'⟩ ds ls 0 noM := by
 have hb := Below.alN (Below.alN (Below.alN (Below.alN (Below.refl w.heap.size w) (.map #[] 0)) (.map #[] 0)) (.map #[] 0)) (.cells #[.slice A ds.length cap, .slice B ls.length cap', .map (some w.heap.size), .map (some (w.heap.size + 1)), .map (some (w.heap.size + 1 + 1))] 82)
 refine ⟨⟨bk_new' _ _ _ _ (by simp), rfl⟩, (hD.below hb).mono hb.size, (hL.below hb).mono hb.size, (((mapAt_made' pofE unitV w _ rfl).alloc _).alloc _).alloc _, ((mapAt_made' prtE endV _ _ (by simp)).alloc _).alloc _, (mapAt_made' pofE intV _ _ (by simp)).alloc _, ?_, ?_, ?_⟩
 ·show w.heap.size ≠ w.heap.size + 1
  omega
 ·show w.heap.size ≠ w.heap.size + 1 + 1
  omega
 ·show w.heap.size + 1 ≠ w.heap.size + 1 + 1
  omega
theorem new_any (A B : Option Addr) (cap cap' : Nat) (ds : List Dv) (ls : List Lk) (w : World) (hD : Hid (Devs w.heap.size w (.slice A ds.length cap) ds)) (hL : Hid (Links w.heap.size w (.slice B ls.length cap') ls)) :
  Calls Tryz.prog 23 #[.agg #[.slice A ds.length cap, .slice B ls.length cap']] w (NewOut w ds ls) := by
 have CK : Hid (∀ W, Below w.heap.size w W -> Calls Tryz.prog 25 #[.agg #[.slice A ds.length cap, .slice B ls.length cap']] W fun e w' => e = .returned (.int .i64 (netV ds ls)) ∧ Below W.heap.size W w') := fun W h => net_any _ _ ds ls W ((hD.out.below h).mono h.size) ((hL.out.below h).mono h.size)
 have CP : Hid (netV ds ls = 0 -> ∀ W, Below w.heap.size w W -> Calls Tryz.prog 24 #[.agg #[.slice A ds.length cap, .slice B ls.length cap']] W (CopyOut W ds ls)) := fun hz W h => copy_any A B cap cap' ds ls W ((hD.out.below h).mono h.size) ((hL.out.below h).mono h.size) (small_of hz)
 have D0 := Below.alN (Below.refl w.heap.size w) (.cells #[.slice A ds.length cap, .slice B ls.length cap'] 25)
 have N0 := bk_new w #[.slice A ds.length cap, .slice B ls.length cap'] 25
 clear hD hL
 go_enter Tryz.func23, Tryz.ntmps23
 go_wp2_with fail
 refine (CK.out _ D0).mono ?_
 rintro e w1 ⟨rfl, hb1⟩
 have D1 := chnN hb1 D0
 have N1 := N0.keep hb1
 clear hb1 D0 N0 CK
 obtain ⟨n0, n1⟩ := N1.two
 by_cases hz : netV ds ls = 0
 rotate_left
 ·have hz1 : (netV ds ls == 0) = false := by simpa using hz
  have HZ : Hid (netV ds ls ≠ 0) := hz
  clear hz CP
  go_wp2_with fail
  go_ret2
  exact ⟨D1, .inl ⟨HZ.out, rfl⟩⟩
 have CP2 : Hid _ := CP.out hz
 have HZ : Hid (netV ds ls = 0) := hz
 rw [hz]
 clear hz CP
 go_wp2_with fail
 refine (CP2.out _ D1).mono ?_
 rintro e w2 ⟨A2, q2, B2, q3, rfl, hD2, hL2, hb2⟩
 have D2 := chnN hb2 D1
 have z2 := D2.size
 have M5 := new_mem hD2 hL2
 have D6 := Below.alN (Below.alN (Below.alN (Below.alN D2 (.map #[] 0)) (.map #[] 0)) (.map #[] 0)) (.cells #[.slice A2 ds.length q2, .slice B2 ls.length q3, .map (some w2.heap.size), .map (some (w2.heap.size + 1)), .map (some (w2.heap.size + 1 + 1))] 82)
 clear hb2 D1 N1 n0 n1 hD2 hL2 CP2
 have hmm := @run_makeMap Tryz.prog
 go_wp2_with fail
 go_ret2
 exact ⟨D6, .inr ⟨HZ.out, _, rfl, M5, by show w.heap.size <= w2.heap.size; omega, by show w.heap.size <= w2.heap.size + 1; omega, by show w.heap.size <= w2.heap.size + 1 + 1; omega, by show w.heap.size <= w2.heap.size + 1 + 1 + 1; omega, rfl, rfl, rfl⟩⟩
theorem delete_run {P : Program} {w w' : World} {ops : Array Oper} {rest : List Oper} {o : Oper} {a : Act} {Q : Exit -> Act -> World -> Prop} (hgd : o.guard = none) (s x : Operand) (t k : TypeId)
  (ho : o.op = .call { callee := .builtin .delete, args := #[s, x], argTypes := #[t, k] }) {v x' v' : Value} (hs : a.eval s = v) (hx : a.eval x = x') (hr : (Builtin.delete_ #[t, k] o.type #[v, x']).run P w = .ok v' w')
  (h : wpList P ops Q rest (a.put o.dst v') w') : wpList P ops Q (o :: rest) a w := by
 refine wpList_plain hgd fun K hK => ?_
 unfold Oper.wp execOp
 simp only [ho, resolve, invoke, builtin, Sem.run_bind, Sem.run_pure, Result.andThen_ok, List.map_toArray, List.map_cons, List.map_nil, hs, hx, hr]
 exact hK _ _ h
structure FR where
 err : Int
 M : Mnd
open Classical in
noncomputable def forgetP (ds : List Dv) (M : Mnd) (i : Int) (p : Pk) (port : Int) : FR :=
 if 0 <= i ∧ i < (ds.length : Int) then
  (if kindAt ds i = 3 then (if (M.fl (i, p)).isSome then ⟨0, { M with fl := delF M.fl (i, p) }⟩ else ⟨7, M⟩)
  else if kindAt ds i = 4 then (if (M.ow (i, port)).isSome then ⟨0, { M with ow := delF M.ow (i, port) }⟩ else ⟨7, M⟩)
  else if kindAt ds i = 5 then (if (M.bk (i, p)).isSome then ⟨0, { M with bk := delF M.bk (i, p) }⟩ else ⟨7, M⟩)
  else ⟨4, M⟩)
 else ⟨4, M⟩
def FPost (m : Mp) (ds : List Dv) (ls : List Lk) (n : Nat) (w : World) (f : FR) (e : Ending) (w' : World) : Prop :=
 e = .returned (.int .i64 f.err) ∧ MemAt w' m ds ls n f.M ∧ HK m w w'
theorem drop_F (m : Mp) (ds : List Dv) (ls : List Lk) (n : Nat) (M : Mnd) (i : Int) (p : Pk) (w : World) (hM : Hid (MemAt w m ds ls n M)) (hi : i64ok i) (hp : p.ok) :
  Calls Tryz.prog 58 #[.map (some m.f), .agg #[.int .i64 i, .int .i64 p.s, .int .i64 p.d, .int .i64 p.sp, .int .i64 p.dp]] w (FPost m ds ls n w (if (M.fl (i, p)).isSome then ⟨0, { M with fl := delF M.fl (i, p) }⟩ else ⟨7, M⟩)) := by
 have M1 := hM.out.alloc (.cells #[.int .i64 i, .int .i64 p.s, .int .i64 p.d, .int .i64 p.sp, .int .i64 p.dp] 146)
 have D1 := Below.alN (Below.refl w.heap.size w) (.cells #[.int .i64 i, .int .i64 p.s, .int .i64 p.d, .int .i64 p.sp, .int .i64 p.dp] 146)
 have lk := M1.lookF hi hp
 generalize hx : (M.fl (i, p)).isSome = x0 at *
 have M2 := M1.alloc (.cells #[] 119)
 have D2 := Below.alN D1 (.cells #[] 119)
 obtain ⟨w', hr, hm, ht⟩ := M2.fl.drop uMf (x := (i, p)) ⟨hi, hp⟩ 0
 obtain ⟨M3, K3⟩ := M2.turnF (Nat.le_refl _) hm ht
 have K4 : HK m w w' := (HK.of_below D2).trans K3
 have hr' : (Builtin.delete_ #[78, 146] 0 #[.map (some m.f), .agg #[.int .i64 i, .int .i64 p.s, .int .i64 p.d, .int .i64 p.sp, .int .i64 p.dp]]).run Tryz.prog ((w.alloc (.cells #[.int .i64 i, .int .i64 p.s, .int .i64 p.d, .int .i64 p.sp, .int .i64 p.dp] 146)).alloc (.cells #[] 119)) = .ok (.tuple #[]) w' := hr
 clear hr hm ht K3 M1 hx D1
 cases x0
 ·go_enter Tryz.func58, Tryz.ntmps58
  go_wp2_with fail
  go_ret
  exact ⟨rfl, M2, HK.of_below D2⟩
 ·go_enter Tryz.func58, Tryz.ntmps58
  go_wp2_with (at_builtin; refine delete_run rfl _ _ 78 146 rfl rfl rfl hr' ?_)
  go_ret
  exact ⟨rfl, M3, K4⟩
theorem drop_O (m : Mp) (ds : List Dv) (ls : List Lk) (n : Nat) (M : Mnd) (i k : Int) (w : World) (hM : Hid (MemAt w m ds ls n M)) (hi : i64ok i) (hk : i64ok k) :
  Calls Tryz.prog 59 #[.map (some m.o), .agg #[.int .i64 i, .int .i64 k]] w (FPost m ds ls n w (if (M.ow (i, k)).isSome then ⟨0, { M with ow := delF M.ow (i, k) }⟩ else ⟨7, M⟩)) := by
 have M1 := hM.out.alloc (.cells #[.int .i64 i, .int .i64 k] 149)
 have D1 := Below.alN (Below.refl w.heap.size w) (.cells #[.int .i64 i, .int .i64 k] 149)
 have lk := M1.lookO hi hk
 generalize hx : (M.ow (i, k)).isSome = x0 at *
 generalize ((M.ow (i, k)).getD (0, 0)).1 = ea at *
 generalize ((M.ow (i, k)).getD (0, 0)).2 = eb at *
 have M2 := M1.alloc (.cells #[.int .i64 ea, .int .i64 eb] 151)
 have D2 := Below.alN D1 (.cells #[.int .i64 ea, .int .i64 eb] 151)
 obtain ⟨w', hr, hm, ht⟩ := M2.ow.drop uMo (x := (i, k)) ⟨hi, hk⟩ 0
 obtain ⟨M3, K3⟩ := M2.turnO (Nat.le_refl _) hm ht
 have K4 : HK m w w' := (HK.of_below D2).trans K3
 have hr' : (Builtin.delete_ #[79, 149] 0 #[.map (some m.o), .agg #[.int .i64 i, .int .i64 k]]).run Tryz.prog ((w.alloc (.cells #[.int .i64 i, .int .i64 k] 149)).alloc (.cells #[.int .i64 ea, .int .i64 eb] 151)) = .ok (.tuple #[]) w' := hr
 clear hr hm ht K3 M1 hx D1
 cases x0
 ·go_enter Tryz.func59, Tryz.ntmps59
  go_wp2_with fail
  go_ret
  exact ⟨rfl, M2, HK.of_below D2⟩
 ·go_enter Tryz.func59, Tryz.ntmps59
  go_wp2_with (at_builtin; refine delete_run rfl _ _ 79 149 rfl rfl rfl hr' ?_)
  go_ret
  exact ⟨rfl, M3, K4⟩
theorem drop_K (m : Mp) (ds : List Dv) (ls : List Lk) (n : Nat) (M : Mnd) (i : Int) (p : Pk) (w : World) (hM : Hid (MemAt w m ds ls n M)) (hi : i64ok i) (hp : p.ok) :
  Calls Tryz.prog 60 #[.map (some m.k), .agg #[.int .i64 i, .int .i64 p.s, .int .i64 p.d, .int .i64 p.sp, .int .i64 p.dp]] w (FPost m ds ls n w (if (M.bk (i, p)).isSome then ⟨0, { M with bk := delF M.bk (i, p) }⟩ else ⟨7, M⟩)) := by
 have M1 := hM.out.alloc (.cells #[.int .i64 i, .int .i64 p.s, .int .i64 p.d, .int .i64 p.sp, .int .i64 p.dp] 146)
 have D1 := Below.alN (Below.refl w.heap.size w) (.cells #[.int .i64 i, .int .i64 p.s, .int .i64 p.d, .int .i64 p.sp, .int .i64 p.dp] 146)
 have lk := M1.lookB hi hp
 generalize hx : (M.bk (i, p)).isSome = x0 at *
 generalize (M.bk (i, p)).getD 0 = ea at *
 have M2 := M1
 have D2 := D1
 obtain ⟨w', hr, hm, ht⟩ := M2.bk.drop uMk (x := (i, p)) ⟨hi, hp⟩ 0
 obtain ⟨M3, K3⟩ := M2.turnK (Nat.le_refl _) hm ht
 have K4 : HK m w w' := (HK.of_below D2).trans K3
 have hr' : (Builtin.delete_ #[80, 146] 0 #[.map (some m.k), .agg #[.int .i64 i, .int .i64 p.s, .int .i64 p.d, .int .i64 p.sp, .int .i64 p.dp]]).run Tryz.prog ((w.alloc (.cells #[.int .i64 i, .int .i64 p.s, .int .i64 p.d, .int .i64 p.sp, .int .i64 p.dp] 146))) = .ok (.tuple #[]) w' := hr
 clear hr hm ht K3 hx
 cases x0
 ·go_enter Tryz.func60, Tryz.ntmps60
  go_wp2_with fail
  go_ret
  exact ⟨rfl, M2, HK.of_below D2⟩
 ·go_enter Tryz.func60, Tryz.ntmps60
  go_wp2_with (at_builtin; refine delete_run rfl _ _ 80 146 rfl rfl rfl hr' ?_)
  go_ret
  exact ⟨rfl, M3, K4⟩
theorem forget_out (m : Mp) (ds : List Dv) (ls : List Lk) (n : Nat) (M : Mnd) (i : Int) (p : Pk) (port : Int) (w : World) (hM : Hid (MemAt w m ds ls n M)) (h : ¬ (0 <= i ∧ i < (ds.length : Int))) :
  Calls Tryz.prog 31 #[.pointer (some ⟨m.B, m.z, none⟩), .int .i64 i, pkV p, .int .i64 port] w (FPost m ds ls n w ⟨4, M⟩) := by
 have M1 := hM.out.alloc (pkC p)
 have D1 := Below.alN (Below.refl w.heap.size w) (pkC p)
 have P1 := bk_new w #[.int .i64 p.s, .int .i64 p.d, .int .i64 p.sp, .int .i64 p.dp] 36
 obtain ⟨q0, _, _, _, _⟩ := M1.cells
 obtain ⟨s, dd, sp, dp⟩ := p
 by_cases h0 : 0 <= i
 ·have u0 : decide (i < 0) = false := by simp; omega
  have u1 : decide ((ds.length : Int) <= i) = true := by simp; omega
  clear h h0
  go_enter Tryz.func31, Tryz.ntmps31
  go_wp2_with fail
  go_ret
  exact ⟨rfl, M1, HK.of_below D1⟩
 ·have u0 : decide (i < 0) = true := by simp; omega
  clear h h0
  go_enter Tryz.func31, Tryz.ntmps31
  go_wp2_with fail
  go_ret
  exact ⟨rfl, M1, HK.of_below D1⟩
theorem forget_F (m : Mp) (ds : List Dv) (ls : List Lk) (n : Nat) (M : Mnd) (i : Nat) (d : Dv) (p : Pk) (port : Int) (w : World) (hM : Hid (MemAt w m ds ls n M)) (hx : Hid (ds[i]? = some d)) (hk : d.kind = 3) (r : FR)
  (DR : Hid (∀ W, MemAt W m ds ls n M -> Calls Tryz.prog 58 #[.map (some m.f), .agg #[.int .i64 (i : Int), .int .i64 p.s, .int .i64 p.d, .int .i64 p.sp, .int .i64 p.dp]] W (FPost m ds ls n W r))) :
  Calls Tryz.prog 31 #[.pointer (some ⟨m.B, m.z, none⟩), .int .i64 (i : Int), pkV p, .int .i64 port] w (FPost m ds ls n w r) := by
 have M1 := hM.out.alloc (pkC p)
 have D1 := Below.alN (Below.refl w.heap.size w) (pkC p)
 have P1 := bk_new w #[.int .i64 p.s, .int .i64 p.d, .int .i64 p.sp, .int .i64 p.dp] 36
 obtain ⟨q0, _, q2, q3, q4⟩ := M1.cells
 obtain ⟨b, o, vb, vr, vt, eA, HD, k1, k2⟩ := M1.dev hx.out
 rw [eA] at q0
 obtain ⟨c0, c1, c2, c3, c4, c5, c6, s1, s2, s3⟩ := HD
 have u0 : decide ((i : Int) < 0) = false := by simp
 have u1 : decide ((ds.length : Int) <= (i : Int)) = false := by simp; omega
 clear hM hx eA s1 s2 s3 c0 c2 c3 c4 c5 c6
 rw [hk] at c1
 obtain ⟨p0, p1, p2, p3, _⟩ := P1.four
 have M1d := M1.drew
 obtain ⟨s, dd, sp, dp⟩ := p
 simp only at *
 have Q : (w.alloc (pkC ⟨s, dd, sp, dp⟩)).drew.cell? ⟨m.B, m.z + 2, none⟩ = some (.map (some m.f)) := q2
 have P0 : (w.alloc (pkC ⟨s, dd, sp, dp⟩)).drew.cell? ⟨w.heap.size, 0, none⟩ = some (.int .i64 s) := p0
 have P1' : (w.alloc (pkC ⟨s, dd, sp, dp⟩)).drew.cell? ⟨w.heap.size, 1, none⟩ = some (.int .i64 dd) := p1
 have P2 : (w.alloc (pkC ⟨s, dd, sp, dp⟩)).drew.cell? ⟨w.heap.size, 2, none⟩ = some (.int .i64 sp) := p2
 have P3 : (w.alloc (pkC ⟨s, dd, sp, dp⟩)).drew.cell? ⟨w.heap.size, 3, none⟩ = some (.int .i64 dp) := p3
 go_enter Tryz.func31, Tryz.ntmps31
 go_wp2_with fail
 go_region_held3 (fun w' => w'.cell? ⟨m.B, m.z + 2, none⟩ = some (.map (some m.f)) ∧ w'.cell? ⟨w.heap.size, 0, none⟩ = some (.int .i64 s) ∧ w'.cell? ⟨w.heap.size, 1, none⟩ = some (.int .i64 dd) ∧ w'.cell? ⟨w.heap.size, 2, none⟩ = some (.int .i64 sp) ∧ w'.cell? ⟨w.heap.size, 3, none⟩ = some (.int .i64 dp)) (go_keep) ((go_at_call 58; refine (DR.out _ M1d).mono ?_; rintro e w5 ⟨rfl, M5, K5⟩; have g0 := (M1d.ck K5).cell Q; have g1 := (M1d.ck K5).cell P0; have g2 := (M1d.ck K5).cell P1'; have g3 := (M1d.ck K5).cell P2; have g4 := (M1d.ck K5).cell P3))
 go_wp2_with fail
 go_ret
 exact ⟨rfl, M5, (HK.of_below D1.drew).trans K5⟩
theorem forget_K (m : Mp) (ds : List Dv) (ls : List Lk) (n : Nat) (M : Mnd) (i : Nat) (d : Dv) (p : Pk) (port : Int) (w : World) (hM : Hid (MemAt w m ds ls n M)) (hx : Hid (ds[i]? = some d)) (hk : d.kind = 5) (r : FR)
  (DR : Hid (∀ W, MemAt W m ds ls n M -> Calls Tryz.prog 60 #[.map (some m.k), .agg #[.int .i64 (i : Int), .int .i64 p.s, .int .i64 p.d, .int .i64 p.sp, .int .i64 p.dp]] W (FPost m ds ls n W r))) :
  Calls Tryz.prog 31 #[.pointer (some ⟨m.B, m.z, none⟩), .int .i64 (i : Int), pkV p, .int .i64 port] w (FPost m ds ls n w r) := by
 have M1 := hM.out.alloc (pkC p)
 have D1 := Below.alN (Below.refl w.heap.size w) (pkC p)
 have P1 := bk_new w #[.int .i64 p.s, .int .i64 p.d, .int .i64 p.sp, .int .i64 p.dp] 36
 obtain ⟨q0, _, q2, q3, q4⟩ := M1.cells
 obtain ⟨b, o, vb, vr, vt, eA, HD, k1, k2⟩ := M1.dev hx.out
 rw [eA] at q0
 obtain ⟨c0, c1, c2, c3, c4, c5, c6, s1, s2, s3⟩ := HD
 have u0 : decide ((i : Int) < 0) = false := by simp
 have u1 : decide ((ds.length : Int) <= (i : Int)) = false := by simp; omega
 clear hM hx eA s1 s2 s3 c0 c2 c3 c4 c5 c6
 rw [hk] at c1
 obtain ⟨p0, p1, p2, p3, _⟩ := P1.four
 have M1d := M1.drew
 obtain ⟨s, dd, sp, dp⟩ := p
 simp only at *
 have Q : (w.alloc (pkC ⟨s, dd, sp, dp⟩)).drew.cell? ⟨m.B, m.z + 4, none⟩ = some (.map (some m.k)) := q4
 have P0 : (w.alloc (pkC ⟨s, dd, sp, dp⟩)).drew.cell? ⟨w.heap.size, 0, none⟩ = some (.int .i64 s) := p0
 have P1' : (w.alloc (pkC ⟨s, dd, sp, dp⟩)).drew.cell? ⟨w.heap.size, 1, none⟩ = some (.int .i64 dd) := p1
 have P2 : (w.alloc (pkC ⟨s, dd, sp, dp⟩)).drew.cell? ⟨w.heap.size, 2, none⟩ = some (.int .i64 sp) := p2
 have P3 : (w.alloc (pkC ⟨s, dd, sp, dp⟩)).drew.cell? ⟨w.heap.size, 3, none⟩ = some (.int .i64 dp) := p3
 go_enter Tryz.func31, Tryz.ntmps31
 go_wp2_with fail
 go_region_held3 (fun w' => w'.cell? ⟨m.B, m.z + 4, none⟩ = some (.map (some m.k)) ∧ w'.cell? ⟨w.heap.size, 0, none⟩ = some (.int .i64 s) ∧ w'.cell? ⟨w.heap.size, 1, none⟩ = some (.int .i64 dd) ∧ w'.cell? ⟨w.heap.size, 2, none⟩ = some (.int .i64 sp) ∧ w'.cell? ⟨w.heap.size, 3, none⟩ = some (.int .i64 dp)) (go_keep) ((go_at_call 60; refine (DR.out _ M1d).mono ?_; rintro e w5 ⟨rfl, M5, K5⟩; have g0 := (M1d.ck K5).cell Q; have g1 := (M1d.ck K5).cell P0; have g2 := (M1d.ck K5).cell P1'; have g3 := (M1d.ck K5).cell P2; have g4 := (M1d.ck K5).cell P3))
 go_wp2_with fail
 go_ret
 exact ⟨rfl, M5, (HK.of_below D1.drew).trans K5⟩
theorem forget_O (m : Mp) (ds : List Dv) (ls : List Lk) (n : Nat) (M : Mnd) (i : Nat) (d : Dv) (p : Pk) (port : Int) (w : World) (hM : Hid (MemAt w m ds ls n M)) (hx : Hid (ds[i]? = some d)) (hk : d.kind = 4) (r : FR)
  (DR : Hid (∀ W, MemAt W m ds ls n M -> Calls Tryz.prog 59 #[.map (some m.o), .agg #[.int .i64 (i : Int), .int .i64 port]] W (FPost m ds ls n W r))) :
  Calls Tryz.prog 31 #[.pointer (some ⟨m.B, m.z, none⟩), .int .i64 (i : Int), pkV p, .int .i64 port] w (FPost m ds ls n w r) := by
 have M1 := hM.out.alloc (pkC p)
 have D1 := Below.alN (Below.refl w.heap.size w) (pkC p)
 have P1 := bk_new w #[.int .i64 p.s, .int .i64 p.d, .int .i64 p.sp, .int .i64 p.dp] 36
 obtain ⟨q0, _, q2, q3, q4⟩ := M1.cells
 obtain ⟨b, o, vb, vr, vt, eA, HD, k1, k2⟩ := M1.dev hx.out
 rw [eA] at q0
 obtain ⟨c0, c1, c2, c3, c4, c5, c6, s1, s2, s3⟩ := HD
 have u0 : decide ((i : Int) < 0) = false := by simp
 have u1 : decide ((ds.length : Int) <= (i : Int)) = false := by simp; omega
 clear hM hx eA s1 s2 s3 c0 c2 c3 c4 c5 c6
 rw [hk] at c1
 obtain ⟨s, dd, sp, dp⟩ := p
 go_enter Tryz.func31, Tryz.ntmps31
 go_wp2_with fail
 refine (DR.out _ M1).mono ?_
 rintro e w5 ⟨rfl, M5, K5⟩
 go_wp2_with fail
 go_ret
 exact ⟨rfl, M5, (HK.of_below D1).trans K5⟩
theorem forget_no (m : Mp) (ds : List Dv) (ls : List Lk) (n : Nat) (M : Mnd) (i : Nat) (d : Dv) (p : Pk) (port : Int) (w : World) (hM : Hid (MemAt w m ds ls n M)) (hx : Hid (ds[i]? = some d)) (hk : ¬ (d.kind = 3 ∨ d.kind = 4 ∨ d.kind = 5)) :
  Calls Tryz.prog 31 #[.pointer (some ⟨m.B, m.z, none⟩), .int .i64 (i : Int), pkV p, .int .i64 port] w (FPost m ds ls n w ⟨4, M⟩) := by
 have M1 := hM.out.alloc (pkC p)
 have D1 := Below.alN (Below.refl w.heap.size w) (pkC p)
 have P1 := bk_new w #[.int .i64 p.s, .int .i64 p.d, .int .i64 p.sp, .int .i64 p.dp] 36
 obtain ⟨q0, _, q2, q3, q4⟩ := M1.cells
 obtain ⟨b, o, vb, vr, vt, eA, HD, k1, k2⟩ := M1.dev hx.out
 rw [eA] at q0
 obtain ⟨c0, c1, c2, c3, c4, c5, c6, s1, s2, s3⟩ := HD
 have u0 : decide ((i : Int) < 0) = false := by simp
 have u1 : decide ((ds.length : Int) <= (i : Int)) = false := by simp; omega
 clear hM hx eA s1 s2 s3 c0 c2 c3 c4 c5 c6
 have kk3 : (d.kind == 3) = false := by simp; omega
 have kk4 : (d.kind == 4) = false := by simp; omega
 have kk5 : (d.kind == 5) = false := by simp; omega
 clear hk
 generalize d.kind = kd at *
 obtain ⟨s, dd, sp, dp⟩ := p
 go_enter Tryz.func31, Tryz.ntmps31
 go_wp2_with fail
 go_ret
 exact ⟨rfl, M1, HK.of_below D1⟩
theorem forget_any (m : Mp) (ds : List Dv) (ls : List Lk) (n : Nat) (M : Mnd) (i : Int) (p : Pk) (port : Int) (w : World) (hM : MemAt w m ds ls n M) (hi : i64ok i) (hp : p.ok) (hq : i64ok port) :
  Calls Tryz.prog 31 #[.pointer (some ⟨m.B, m.z, none⟩), .int .i64 i, pkV p, .int .i64 port] w (FPost m ds ls n w (forgetP ds M i p port)) := by
 unfold forgetP
 by_cases h : 0 <= i ∧ i < (ds.length : Int)
 rotate_left
 ·rw [if_neg h]
  exact forget_out m ds ls n M i p port w hM h
 rw [if_pos h]
 obtain ⟨k, rfl⟩ : ∃ k : Nat, i = (k : Int) := ⟨i.toNat, by omega⟩
 have hk : k < ds.length := by omega
 obtain ⟨d, hd⟩ : ∃ d, ds[k]? = some d := ⟨_, List.getElem?_eq_getElem hk⟩
 have ek : kindAt ds (k : Int) = d.kind := by
  unfold kindAt
  rw [Int.toNat_natCast, hd]
  rfl
 rw [ek]
 by_cases k3 : d.kind = 3
 ·rw [if_pos k3]
  exact forget_F m ds ls n M k d p port w hM hd k3 _ (fun W h => drop_F m ds ls n M k p W h hi hp)
 rw [if_neg k3]
 by_cases k4 : d.kind = 4
 ·rw [if_pos k4]
  exact forget_O m ds ls n M k d p port w hM hd k4 _ (fun W h => drop_O m ds ls n M k port W h hi hq)
 rw [if_neg k4]
 by_cases k5 : d.kind = 5
 ·rw [if_pos k5]
  exact forget_K m ds ls n M k d p port w hM hd k5 _ (fun W h => drop_K m ds ls n M k p W h hi hp)
 rw [if_neg k5]
 exact forget_no m ds ls n M k d p port w hM hd (by omega)
structure KeptW (w w' : World) (row : Option Nat) : Prop where
 size : w.heap.size <= w'.heap.size
 block : ∀ k, k < w.heap.size -> some k ≠ row -> w'.heap[k]? = w.heap[k]?
theorem KeptW.of_below {w w' : World} (h : Below w.heap.size w w') : KeptW w w' none := ⟨h.size, fun k hk _ => h.block k hk⟩
section
variable {w w' : World} {B e size n : Nat} {v : Value} {xs : List Value} {row : Option Nat}
theorem own_blockW (h : w.ownsRow B e size v n xs) {g : Nat} (hg : v.ownBlock = some g) : g < w.heap.size ∧ B <= g ∧ ∃ cur, w.heap[g]? = some (.cells cur e (0, 0)) := by
 rcases h.2 with ⟨rfl, _⟩ | ⟨g', cap, cur, rfl, hb, hh, _⟩
 ·cases hg
 ·obtain rfl : g' = g := by simpa [Value.ownBlock] using hg
  exact ⟨(Array.getElem?_eq_some_iff.1 hh).1, hb, cur, hh⟩
theorem own_keptBut (h : w.ownsRow B e size v n xs) (hk : ∀ g, v.ownBlock = some g -> w'.heap[g]? = w.heap[g]?) : w'.ownsRow B e size v n xs := by
 refine ⟨h.1, ?_⟩
 rcases h.2 with k | ⟨g, cap, cur, h1, h2, h3, h4⟩
 ·exact Or.inl k
 ·exact Or.inr ⟨g, cap, cur, h1, h2, (hk g (by rw [h1]; rfl)).trans h3, h4⟩
theorem own_keptW (h : w.ownsRow B e size v n xs) (hk : KeptW w w' row) (hr : ∀ g, v.ownBlock = some g -> row ≠ some g) : w'.ownsRow B e size v n xs :=
 own_keptBut h (fun g hg => hk.block g (own_blockW h hg).1 (fun e => hr g hg e.symm))
theorem own_below (h : w.ownsRow B e size v n xs) (hb : Below w.heap.size w w') : w'.ownsRow B e size v n xs := own_keptBut h (fun g hg => hb.block g (own_blockW h hg).1)
theorem own_ck (h : w.ownsRow B e size v n xs) (hc : CK w w') : w'.ownsRow B e size v n xs := own_keptBut h (fun g hg => by
 obtain ⟨h1, _, cur, h2⟩ := own_blockW h hg
 exact hc.block g (fun es c e => by rw [h2] at e; cases e) h1)
end
theorem app_elW {t e : TypeId} {z : Value} {size bytes : Nat} (hu : Tryz.prog.underlying t = some (.slice e)) (hinfo : (Tryz.prog.info? e).map (fun i => (i.zero, i.size, i.bytes)) = some (some z, size, bytes)) (hz1 : z.cells.size = size) (hs0 : 0 < size) (hby : bytes <= 128)
  {base n : Nat} {w : World} {v : Value} {xs us : List Value} (ty : TypeId) (h : w.ownsRow base e size v n xs) (hus : us.length = size) (h1 : ∀ u ∈ us, u.oneCell' = true) (hn : n <= 5000) (hb : base <= w.heap.size) :
  ∃ v' w', (Builtin.append_ #[t, t] ty #[v, .slice (some ⟨w.heap.size, 0, none⟩) 1 1]).run Tryz.prog (w.alloc (.cells us.toArray e)) = .ok v' w' ∧ w'.ownsRow base e size v' (n + 1) (xs ++ us) ∧ Below base w w' ∧ KeptW w w' v.ownBlock ∧ (v'.ownBlock = v.ownBlock ∨ ∃ g, v'.ownBlock = some g ∧ w.heap.size <= g) := by
 obtain ⟨i0, hi, hz0, hz1', hz2⟩ := info_parts hinfo
 have hA : Below w.heap.size w (w.alloc (.cells us.toArray e)) := (Below.refl _ _).alloc (Nat.le_refl _) _
 have ho : (w.alloc (.cells us.toArray e)).ownsRow base e size v n xs := own_keptW h (KeptW.of_below hA) (fun g _ => by simp)
 obtain ⟨v', w', hr, h4, h5, _, h7⟩ := run_append_own_at (P := Tryz.prog) (w.alloc (.cells us.toArray e)) base t ty e i0 z size bytes hu hi hz0 hz1' hz2 hz1 hs0 v n xs ho ⟨w.heap.size, 0, none⟩ 1 1 us (by rw [hus, Nat.one_mul]) (fun j x hj => by
  have hg : (w.alloc (.cells us.toArray e)).heap[w.heap.size]? = some (.cells us.toArray e) := Go.Deep.blk_alloc_new w _
  rw [Addr.add_lit, Nat.zero_add]
  simp only [World.cell?, hg]
  simp [hj]) h1 (by unfold maxLen; omega) (by
   have : (n + 1) * bytes <= 5001 * 128 := Nat.mul_le_mul (by omega) hby
   omega) (by simp; omega)
 have hsz : (w.alloc (.cells us.toArray e)).heap.size = w.heap.size + 1 := Go.Deep.nblk_alloc w _
 refine ⟨v', w', hr, h4, ?_, ⟨by have := h5.size; omega, fun k hk hne => ?_⟩, ?_⟩
 ·exact ((Below.refl base w).alloc hb (.cells us.toArray e)).grown h5 (by simp; omega) (fun k e => (ho.lt k e).1)
 ·rw [h5.block k (by omega) hne, Go.Deep.blk_alloc_lt w _ k hk]
 ·rcases h7 with h7 | h7
  ·exact Or.inl h7
  ·exact Or.inr ⟨_, h7, by omega⟩
theorem step_append_runW {P : Program} {w : World} {ops : Array Oper} {o : Oper} {a : Act} {K : Act -> World -> Prop} {Q : Exit -> Act -> World -> Prop} {E : Prop} (hgd : o.guard = none) (s x : Operand) (t : TypeId)
  (ho : o.op = .call { callee := .builtin .append, args := #[s, x], argTypes := #[t, t] }) (v u v' : Value) (w' : World) (hs : a.eval s = v) (hx : a.eval x = u)
  (hr : (Builtin.append_ #[t, t] o.type #[v, u]).run P w = .ok v' w') (h : K (a.put o.dst v') w') :
  if Region.wanted o (yielded ops a.tmps) = true then Oper.wp P o a w K Q else E := by
 have hw : Region.wanted o (yielded ops a.tmps) = true := by simp [Region.wanted, hgd]
 rw [if_pos hw]
 unfold Oper.wp execOp
 simp only [ho, resolve, invoke, builtin, Sem.run_bind, Sem.run_pure, Result.andThen_ok, List.map_toArray, List.map_cons, List.map_nil, hs, hx, hr]
 exact h
abbrev Arv := (Int × Int) × Pk
def arvOk (x : Arv) : Prop := i64ok x.1.1 ∧ i64ok x.1.2 ∧ x.2.ok
abbrev arC (x : Arv) : List Value := [.int .i64 x.1.1, .int .i64 x.1.2, .int .i64 x.2.s, .int .i64 x.2.d, .int .i64 x.2.sp, .int .i64 x.2.dp]
theorem arV_inj (x y : Arv) (h : arV x.1 x.2 = arV y.1 y.2) : x = y := by
 obtain ⟨⟨a, b⟩, c, d, e, f⟩ := x
 obtain ⟨⟨a', b'⟩, c', d', e', f'⟩ := y
 simp at h
 obtain ⟨rfl, rfl, rfl, rfl, rfl, rfl⟩ := h
 rfl
theorem lawAr : Keyed Tryz.prog 45 := Keyed.of_law (deep_law_gate (k := 45) laidS (by rw [sizeS]; decide) (by rw [sizeS]; decide) (by kernel_rfl) (by kernel_rfl))
theorem cPlc : Tryz.prog.cellsOf 43 = 2 := by kernel_rfl
theorem keyAr (n : Arv) (h : arvOk n) : keyOf Tryz.prog 45 (arV n.1 n.2) = some (litOfS 45 (arV n.1 n.2)) := by
 obtain ⟨w0, w1, ⟨w2, w3, w4, w5⟩⟩ := h
 unfold i64ok at w0 w1 w2 w3 w4 w5
 obtain ⟨m, hm⟩ := fuelS
 refine litOfS_some ?_
 unfold keyOf
 simp only [Tryz.underlying45]
 rw [if_pos (by kernel_rfl), hm]
 unfold Program.keyLits
 simp only [Tryz.underlying45, Value.cells]
 rw [if_pos ⟨by kernel_rfl, by kernel_rfl⟩]
 have hi : Tryz.prog.keyLits (m + 2) 43 [.int .i64 n.1.1, .int .i64 n.1.2] = some [.int .i64 n.1.1, .int .i64 n.1.2] := by
  unfold Program.keyLits
  simp only [Tryz.underlying43]
  rw [if_pos ⟨by kernel_rfl, by kernel_rfl⟩]
  simp [Program.keyLits, Tryz.underlying3, w0, w1, cInt]
 have hp : Tryz.prog.keyLits (m + 2) 36 [.int .i64 n.2.s, .int .i64 n.2.d, .int .i64 n.2.sp, .int .i64 n.2.dp] = some [.int .i64 n.2.s, .int .i64 n.2.d, .int .i64 n.2.sp, .int .i64 n.2.dp] := by
  unfold Program.keyLits
  simp only [Tryz.underlying36]
  rw [if_pos ⟨by kernel_rfl, by kernel_rfl⟩]
  simp [Program.keyLits, Tryz.underlying3, w2, w3, w4, w5, cInt]
 simp [hi, hp, cPlc, cPkt]
noncomputable def arvE : KeyEncW 45 Arv := ⟨fun x => arV x.1 x.2, arvOk, fun n => litOfS 45 (arV n.1 n.2), lawAr, keyAr, arV_inj⟩
theorem uMw : Tryz.prog.underlying 83 = some (.map 45 119) := by kernel_rfl
theorem uArs : Tryz.prog.underlying 40 = some (.slice 45) := by kernel_rfl
theorem infoAr : (Tryz.prog.info? 45).map (fun i => (i.zero, i.size, i.bytes)) = some (some (.agg #[.int .i64 0, .int .i64 0, .int .i64 0, .int .i64 0, .int .i64 0, .int .i64 0]), 6, 48) := by kernel_rfl
open Classical in
noncomputable def inF (ar : List Arv) : Arv -> Option Unit := fun x => if x ∈ ar then some () else none
theorem inF_in {ar : List Arv} {x : Arv} : (inF ar x).isSome = true ↔ x ∈ ar := by
 unfold inF
 split <;> simp_all
theorem inF_add (ar : List Arv) (x : Arv) : putF (inF ar) x () = inF (ar ++ [x]) := by
 funext y
 by_cases h : y = x
 ·subst h
  rw [putF_same]
  unfold inF
  rw [if_pos (by simp)]
 ·rw [putF_other _ _ h]
  unfold inF
  by_cases hy : y ∈ ar
  ·rw [if_pos hy, if_pos (by simp [hy])]
  ·rw [if_neg hy, if_neg (by simp [hy, h])]
theorem inF_no : inF [] = fun _ => none := by
 funext y
 unfold inF
 rw [if_neg (by simp)]
structure Wp where
 B : Nat
 f : Nat
 o : Nat
 k : Nat
 A2 : Option Addr
 c2 : Nat
 L2 : Option Addr
 d2 : Nat
 A : Option Addr
 c : Nat
 L : Option Addr
 d : Nat
 G : Nat
def Wp.m (p : Wp) (nd nl : Nat) (S : Option Addr) (cS na : Nat) : Mp := ⟨2, [.slice p.A nd p.c, .slice p.L nl p.d], [.slice S na cS, .map (some p.G)], 85, p.B, p.f, p.o, p.k, p.A2, p.c2, p.L2, p.d2⟩
def KT (T : Nat) (W W' : World) : Prop := ∀ b, b < T -> (∀ es c, W.heap[b]? ≠ some (.map es c)) -> W'.heap[b]? = W.heap[b]?
theorem KT.of_below {T : Nat} {W W' : World} (hb : Below W.heap.size W W') (hT : T <= W.heap.size) : KT T W W' := fun b h _ => hb.block b (by omega)
theorem KT.cell {T : Nat} {W W' : World} (h : KT T W W') {b o : Nat} {v : Value} (hb : b < T) (hc : W.cell? ⟨b, o, none⟩ = some v) : W'.cell? ⟨b, o, none⟩ = some v := by
 have e := h b hb (fun es c e => by
  unfold World.cell? at hc
  rw [e] at hc
  cases hc)
 unfold World.cell? at hc ⊢
 rw [e]
 exact hc
theorem SlAt.kt {α : Type} {T k : Nat} {w w' : World} {R R' : List Value -> α -> Prop} {v : Value} {xs : List α} (h : SlAt T w k R v xs) (hb : KT T w w') (hR : ∀ cs x, x ∈ xs -> R cs x -> R' cs x) : SlAt T w' k R' v xs := by
 obtain ⟨A, cap, e, h0, h1, h2, h3⟩ := h
 refine ⟨A, cap, e, h0, h1, h2, fun hn => ?_⟩
 obtain ⟨b, o, ea, hl, hr⟩ := h3 hn
 refine ⟨b, o, ea, hl, fun k x hx => ?_⟩
 obtain ⟨cs, c1, c2, c3⟩ := hr k x hx
 exact ⟨cs, c1, hR cs x (List.mem_of_getElem? hx) c2, fun j u hj => hb.cell hl (c3 j u hj)⟩
theorem IsDv.kt {T : Nat} {w w' : World} {cs : List Value} {d : Dv} (h : IsDv T w cs d) (hb : KT T w w') : IsDv T w' cs d := by
 obtain ⟨vb, vr, vt, e, h1, h2, h3⟩ := h
 exact ⟨vb, vr, vt, e, h1.kt hb (fun _ _ _ h => h), h2.kt hb (fun _ _ _ h => h), h3.kt hb (fun _ _ _ h => h)⟩
theorem Devs.kt {T : Nat} {w w' : World} {v : Value} {ds : List Dv} (h : Devs T w v ds) (hb : KT T w w') : Devs T w' v ds := SlAt.kt h hb (fun _ _ _ h => h.kt hb)
theorem Links.kt {T : Nat} {w w' : World} {v : Value} {ls : List Lk} (h : Links T w v ls) (hb : KT T w w') : Links T w' v ls := SlAt.kt h hb (fun _ _ _ h => h)
structure WlAt (W : World) (p : Wp) (S : Option Addr) (cS : Nat) (ds : List Dv) (ls : List Lk) (n : Nat) (M : Mnd) (ar : List Arv) : Prop where
 blk : Bk W p.B #[.slice p.A ds.length p.c, .slice p.L ls.length p.d, .slice p.A2 ds.length p.c2, .slice p.L2 ls.length p.d2, .map (some p.f), .map (some p.o), .map (some p.k), .slice S ar.length cS, .map (some p.G)] 85
 devs : Devs p.B W (.slice p.A ds.length p.c) ds
 links : Links p.B W (.slice p.L ls.length p.d) ls
 mdevs : Devs p.B W (.slice p.A2 ds.length p.c2) ds
 mlinks : Links p.B W (.slice p.L2 ls.length p.d2) ls
 fl : MapAt pofE unitV W p.f n M.fl
 ow : MapAt prtE endV W p.o n M.ow
 bk : MapAt pofE intV W p.k n M.bk
 fo : p.f ≠ p.o
 fk : p.f ≠ p.k
 ok : p.o ≠ p.k
 seen : W.ownsRow (p.B + 1) 45 6 (.slice S ar.length cS) ar.length (ar.flatMap arC)
 was : MapAt arvE unitV W p.G n (inF ar)
 gf : p.G ≠ p.f
 go : p.G ≠ p.o
 gk : p.G ≠ p.k
 lo : p.f < p.B ∧ p.o < p.B ∧ p.k < p.B ∧ p.G < p.B
 all : ∀ x ∈ ar, arvOk x
section
variable {W W' : World} {p : Wp} {S : Option Addr} {cS : Nat} {ds : List Dv} {ls : List Lk} {n n' : Nat} {M M' : Mnd} {ar : List Arv}
theorem WlAt.mem (h : WlAt W p S cS ds ls n M ar) : MemAt W (p.m ds.length ls.length S cS ar.length) ds ls n M :=
 ⟨⟨h.blk, rfl⟩, h.mdevs.mono (Nat.le_of_lt h.blk.lt), h.mlinks.mono (Nat.le_of_lt h.blk.lt), h.fl, h.ow, h.bk, h.fo, h.fk, h.ok⟩
theorem WlAt.below (h : WlAt W p S cS ds ls n M ar) (hb : Below W.heap.size W W') : WlAt W' p S cS ds ls n M ar :=
 have kt := KT.of_below hb (Nat.le_of_lt h.blk.lt)
 ⟨h.blk.keep hb, h.devs.kt kt, h.links.kt kt, h.mdevs.kt kt, h.mlinks.kt kt, h.fl.same (hb.block _ h.fl.lt), h.ow.same (hb.block _ h.ow.lt), h.bk.same (hb.block _ h.bk.lt), h.fo, h.fk, h.ok, own_below h.seen hb, h.was.same (hb.block _ h.was.lt), h.gf, h.go, h.gk, h.lo, h.all⟩
theorem WlAt.alloc (h : WlAt W p S cS ds ls n M ar) (o : Obj) : WlAt (W.alloc o) p S cS ds ls n M ar := h.below ((Below.refl _ _).alloc (Nat.le_refl _) o)
theorem WlAt.drew (h : WlAt W p S cS ds ls n M ar) : WlAt W.drew p S cS ds ls n M ar := h.below (Below.refl _ _).drew
theorem WlAt.mono (h : WlAt W p S cS ds ls n M ar) (hn : n <= n') : WlAt W p S cS ds ls n' M ar := ⟨h.blk, h.devs, h.links, h.mdevs, h.mlinks, h.fl.mono hn, h.ow.mono hn, h.bk.mono hn, h.fo, h.fk, h.ok, h.seen, h.was.mono hn, h.gf, h.go, h.gk, h.lo, h.all⟩
theorem WlAt.hk (h : WlAt W p S cS ds ls n M ar) (hn : n <= n') (hM : MemAt W' (p.m ds.length ls.length S cS ar.length) ds ls n' M') (hk : HK (p.m ds.length ls.length S cS ar.length) W W') : WlAt W' p S cS ds ls n' M' ar := by
 have hc := h.mem.ck hk
 have kt : KT p.B W W' := fun b hb hn => hc.block b hn (Nat.lt_trans hb h.blk.lt)
 exact ⟨hM.blk.1, h.devs.kt kt, h.links.kt kt, h.mdevs.kt kt, h.mlinks.kt kt, hM.fl, hM.ow, hM.bk, h.fo, h.fk, h.ok, own_ck h.seen hc, (h.was.same (hk.block _ h.was.lt h.gf h.go h.gk)).mono hn, h.gf, h.go, h.gk, h.lo, h.all⟩
theorem WlAt.look (h : WlAt W p S cS ds ls n M ar) {x : Arv} (hx : arvOk x) : (Instr.lookup 83 (.map (some p.G)) (arV x.1 x.2) true).run Tryz.prog W = .ok (.tuple #[.agg #[], .bool (inF ar x).isSome]) W := h.was.look uMw (x := x) hx
structure WF (p : Wp) (S : Option Addr) (W W' : World) : Prop where
 os : W'.os = W.os
 tape : W'.tape = W.tape
 output : W'.output = W.output
 size : W.heap.size <= W'.heap.size
 block : ∀ b, b < W.heap.size -> b ≠ p.B -> b ≠ p.f -> b ≠ p.o -> b ≠ p.k -> b ≠ p.G -> (∀ a, S = some a -> b ≠ a.block) -> W'.heap[b]? = W.heap[b]?
theorem WF.of_below (hb : Below W.heap.size W W') : WF p S W W' := ⟨hb.os, hb.tape, hb.output, hb.size, fun b h _ _ _ _ _ _ => hb.block b h⟩
theorem WF.of_hk {nd nl na : Nat} (hk : HK (p.m nd nl S cS na) W W') : WF p S W W' := ⟨hk.os, hk.tape, hk.output, hk.size, fun b h _ h1 h2 h3 _ _ => hk.block b h h1 h2 h3⟩
theorem WF.trans {W'' : World} (h : WF p S W W') (g : WF p S W' W'') : WF p S W W'' := ⟨g.os.trans h.os, g.tape.trans h.tape, g.output.trans h.output, Nat.le_trans h.size g.size, fun b hb h1 h2 h3 h4 h5 h6 => (g.block b (Nat.lt_of_lt_of_le hb h.size) h1 h2 h3 h4 h5 h6).trans (h.block b hb h1 h2 h3 h4 h5 h6)⟩
end
theorem whas_any {p : Wp} {S : Option Addr} {cS : Nat} {ds : List Dv} {ls : List Lk} {n : Nat} {M : Mnd} {ar : List Arv} (x : Arv) (w : World) (h : Hid (WlAt w p S cS ds ls n M ar)) (hx : arvOk x) :
  Calls Tryz.prog 15 #[.pointer (some ⟨p.B, 0, none⟩), plA x.1.1 x.1.2, pkV x.2] w fun e w' => e = .returned (.bool (inF ar x).isSome) ∧ Below w.heap.size w w' := by
 have W2 := (h.out.alloc (.cells #[.int .i64 x.1.1, .int .i64 x.1.2] 43)).alloc (pkC x.2)
 have W2d := W2.drew
 have W2a := (W2.alloc (.cells #[] 119)).drew
 have lk := W2d.look hx
 have lk2 := W2a.look hx
 have B2 := W2.blk.at 8
 have B2a := W2a.blk.at 8
 have D2 := Below.alN (Below.alN (Below.refl w.heap.size w) (.cells #[.int .i64 x.1.1, .int .i64 x.1.2] 43)) (pkC x.2)
 have P2 := (bk_new w #[.int .i64 x.1.1, .int .i64 x.1.2] 43).alloc (pkC x.2)
 have Q2 := bk_new' (w.alloc (.cells #[.int .i64 x.1.1, .int .i64 x.1.2] 43)) #[.int .i64 x.2.s, .int .i64 x.2.d, .int .i64 x.2.sp, .int .i64 x.2.dp] 36 (w.heap.size + 1) (by simp)
 obtain ⟨⟨i, q⟩, ⟨s, d, sp, dp⟩⟩ := x
 generalize hv : (inF ar ((i, q), ⟨s, d, sp, dp⟩)).isSome = v at *
 dsimp only at *
 obtain ⟨p0, p1⟩ := P2.two
 obtain ⟨q0, q1, q2, q3, _⟩ := Q2.four
 obtain ⟨p0', p1'⟩ := (P2.alloc (.cells #[] 119)).drew.two
 obtain ⟨q0', q1', q2', q3', _⟩ := (Q2.alloc (.cells #[] 119)).drew.four
 have D3 := D2.drew
 have D4 := (Below.alN D2 (.cells #[] 119)).drew
 clear W2 W2d W2a P2 Q2 h
 go_enter Tryz.func15, Tryz.ntmps15
 go_upto_region 1 with fail
 go_region
 all_goals
  go_wp2_with fail
  go_ret
  exact ⟨rfl, by first | exact D4 | exact D3 | go_grown⟩
end Go.Proofs.YtlmmeppifkigeaaGreat
namespace Go.Proofs.YtlmmeppifkigeaaGreat
open Go.RowKit Go.Maps
open Classical in
noncomputable def addA (ar : List Arv) (x : Arv) : List Arv := if x ∈ ar then ar else ar ++ [x]
def SG (S S' : Option Addr) (N : Nat) : Prop := ∀ a', S' = some a' -> (∃ a, S = some a ∧ a.block = a'.block) ∨ N <= a'.block
theorem SG.refl (S : Option Addr) (N : Nat) : SG S S N := fun a h => Or.inl ⟨a, h, rfl⟩
theorem own_sl {w : World} {B e size n : Nat} {v : Value} {xs : List Value} (h : w.ownsRow B e size v n xs) : ∃ A cap, v = .slice A n cap ∧ ∀ a, A = some a -> v.ownBlock = some a.block := by
 rcases h.2 with ⟨rfl, h0⟩ | ⟨g, cap, cur, rfl, _⟩
 ·refine ⟨none, 0, ?_, fun a e => by cases e⟩
  first
   | rfl
   | (rw [h0])
   | simp_all
 ·exact ⟨some ⟨g, 0, none⟩, cap, rfl, fun a e => by cases e; rfl⟩
theorem arC_one (x : Arv) : ∀ u ∈ arC x, u.oneCell' = true := by
 intro u hu
 simp only [arC, List.mem_cons, List.not_mem_nil, or_false] at hu
 rcases hu with rfl | rfl | rfl | rfl | rfl | rfl <;> rfl
def AOut (w : World) (p : Wp) (S : Option Addr) (ds : List Dv) (ls : List Lk) (n : Nat) (M : Mnd) (ar : List Arv) (w' : World) : Prop :=
 ∃ S' cS', WlAt w' p S' cS' ds ls n M ar ∧ WF p S w w' ∧ SG S S' w.heap.size
theorem aout_new {w w2 w3 w7 : World} {p : Wp} {S : Option Addr} {cS : Nat} {ds : List Dv} {ls : List Lk} {n : Nat} {M : Mnd} {ar : List Arv} {x : Arv} {v7 : Value} (hx : arvOk x) (hb : Below w.heap.size w w2) (h2 : WlAt w2 p S cS ds ls n M ar) (hG : MapAt arvE unitV w3 p.G (n + 1) (putF (inF ar) x ())) (ht : w2.drew.mapTurned w3 p.G) (O7 : w7.ownsRow (p.B + 1) 45 6 v7 (ar.length + 1) (ar.flatMap arC ++ arC x)) (D7 : Below (p.B + 1) w3.drew w7) (K7 : KeptW w3.drew w7 (Value.slice S ar.length cS).ownBlock) (g7 : v7.ownBlock = (Value.slice S ar.length cS).ownBlock ∨ ∃ g, v7.ownBlock = some g ∧ w3.drew.heap.size <= g) :
  AOut w p S ds ls (n + 1) M (ar ++ [x]) (w7.setCell ⟨p.B, 7, none⟩ v7) := by
 have hc := CK.of_turned ht
 have B3 : Bk w3 p.B _ _ := h2.drew.blk.ck hc
 have sz3 := mapTurned_size ht
 have zB : p.B < w3.heap.size := B3.lt
 have B7 : Bk w7 p.B _ _ := (D7.block p.B (by omega)).trans B3
 obtain ⟨A7, c7, rfl, hA7⟩ := own_sl O7
 have hF : ∀ b, b ≠ p.B -> (w7.setCell ⟨p.B, 7, none⟩ (.slice A7 (ar.length + 1) c7)).heap[b]? = w7.heap[b]? := fun b h => Below.heap_setCell w7 ⟨p.B, 7, none⟩ _ b h
 have hlow : ∀ b, b < p.B -> (w7.setCell ⟨p.B, 7, none⟩ (.slice A7 (ar.length + 1) c7)).heap[b]? = w3.heap[b]? := fun b h => (hF b (by omega)).trans (D7.block b (by omega))
 obtain ⟨l1, l2, l3, l4⟩ := h2.lo
 have kt : KT p.B w2 (w7.setCell ⟨p.B, 7, none⟩ (.slice A7 (ar.length + 1) c7)) := fun b hb' hn => (hlow b hb').trans (hc.block b hn (Nat.lt_trans hb' h2.blk.lt))
 have mp : ∀ b, b < p.B -> b ≠ p.G -> (w7.setCell ⟨p.B, 7, none⟩ (.slice A7 (ar.length + 1) c7)).heap[b]? = w2.heap[b]? := fun b h1 h3 => (hlow b h1).trans (mapTurned_block (w := w2.drew) ht h3)
 have hsz : (w7.setCell ⟨p.B, 7, none⟩ (.slice A7 (ar.length + 1) c7)).heap.size = w7.heap.size := by simp [World.setCell]
 refine ⟨A7, c7, ⟨?_, h2.devs.kt kt, h2.links.kt kt, h2.mdevs.kt kt, h2.mlinks.kt kt, (h2.fl.same (mp _ l1 (fun e => h2.gf e.symm))).mono (by omega), (h2.ow.same (mp _ l2 (fun e => h2.go e.symm))).mono (by omega), (h2.bk.same (mp _ l3 (fun e => h2.gk e.symm))).mono (by omega), h2.fo, h2.fk, h2.ok, ?_, ?_, h2.gf, h2.go, h2.gk, h2.lo, ?_⟩, ⟨?_, ?_, ?_, ?_, ?_⟩, ?_⟩
 ·have := B7.setS (j := 7) (.slice A7 (ar.length + 1) c7)
  simpa using this
 ·have ho := own_keptBut (w' := w7.setCell ⟨p.B, 7, none⟩ (.slice A7 (ar.length + 1) c7)) O7 (fun g hg => hF g (by have := (own_blockW O7 hg).2.1; omega))
  simpa using ho
 ·rw [<- inF_add]
  exact hG.same (hlow _ l4)
 ·intro y hy
  rcases List.mem_append.1 hy with h | h
  ·exact h2.all y h
  ·rw [List.mem_singleton.1 h]
   exact hx
 ·have e1 : w7.os = w3.drew.os := D7.os
  have e2 : w3.os = w2.os := ht.grown.os
  exact e1.trans (e2.trans hb.os)
 ·exact (D7.tape.trans ht.grown.tape).trans hb.tape
 ·exact (D7.output.trans ht.grown.output).trans hb.output
 ·rw [hsz]
  have z7 := K7.size
  have : w3.drew.heap.size = w3.heap.size := rfl
  have : w2.drew.heap.size = w2.heap.size := rfl
  have := hb.size
  omega
 ·intro b hb' q1 q2 q3 q4 q5 q6
  rw [hF b q1]
  have z2 := hb.size
  have e3 : w2.drew.heap.size = w2.heap.size := rfl
  have e4 : w3.drew.heap.size = w3.heap.size := rfl
  have hS : some b ≠ (Value.slice S ar.length cS).ownBlock := fun e => by
   cases S with
   | none => cases e
   | some a =>
     have : a.block = b := by
      simp only [Value.ownBlock] at e
      first
       | exact (Option.some.inj e).symm
       | (split at e <;> simp_all)
     exact q6 a rfl this.symm
  exact (K7.block b (by omega) hS).trans ((mapTurned_block ht q5).trans (hb.block b hb'))
 ·intro a' ha'
  have hb7 := hA7 a' ha'
  rcases g7 with g7 | ⟨g, g7, hg⟩
  ·rw [hb7] at g7
   left
   cases S with
   | none => cases g7
   | some a =>
     refine ⟨a, rfl, ?_⟩
     simp only [Value.ownBlock] at g7
     first
      | exact (Option.some.inj g7).symm
      | (split at g7 <;> simp_all)
  ·right
   rw [hb7] at g7
   have e5 := Option.some.inj g7
   have e4 : w3.drew.heap.size = w3.heap.size := rfl
   have e3 : w2.drew.heap.size = w2.heap.size := rfl
   have := hb.size
   omega
end Go.Proofs.YtlmmeppifkigeaaGreat
namespace Go.Proofs.YtlmmeppifkigeaaGreat
open Go.RowKit Go.Maps
theorem arrive_any {p : Wp} {S : Option Addr} {cS : Nat} {ds : List Dv} {ls : List Lk} {n : Nat} {M : Mnd} {ar : List Arv} (x : Arv) (w : World) (h : Hid (WlAt w p S cS ds ls n M ar)) (hx : Hid (arvOk x)) (hn : n < maxLen) (ha : ar.length <= 5000) :
  Calls Tryz.prog 56 #[.pointer (some ⟨p.B, 0, none⟩), arV x.1 x.2] w fun e w' => (∃ v, e = .returned v) ∧ AOut w p S ds ls (n + 1) M (addA ar x) w' := by
 have h1 := h.out.alloc (.cells #[.int .i64 x.1.1, .int .i64 x.1.2, .int .i64 x.2.s, .int .i64 x.2.d, .int .i64 x.2.sp, .int .i64 x.2.dp] 45)
 have D1 := Below.alN (Below.refl w.heap.size w) (.cells #[.int .i64 x.1.1, .int .i64 x.1.2, .int .i64 x.2.s, .int .i64 x.2.d, .int .i64 x.2.sp, .int .i64 x.2.dp] 45)
 have X1 := bk_new w #[.int .i64 x.1.1, .int .i64 x.1.2, .int .i64 x.2.s, .int .i64 x.2.d, .int .i64 x.2.sp, .int .i64 x.2.dp] 45
 have HS : Hid (∀ W, WlAt W p S cS ds ls n M ar -> Calls Tryz.prog 15 #[.pointer (some ⟨p.B, 0, none⟩), plA x.1.1 x.1.2, pkV x.2] W fun e w' => e = .returned (.bool (inF ar x).isSome) ∧ Below W.heap.size W w') := fun W hw => whas_any x W hw hx.out
 have fin0 : Hid ((inF ar x).isSome = true -> ∀ w', WlAt w' p S cS ds ls n M ar -> Below w.heap.size w w' -> AOut w p S ds ls (n + 1) M (addA ar x) w') := fun hi w' hw hb => by
  unfold addA
  rw [if_pos (inF_in.1 hi)]
  exact ⟨S, cS, hw.mono (by omega), WF.of_below hb, SG.refl _ _⟩
 have fin1 : Hid ((inF ar x).isSome = false -> addA ar x = ar ++ [x]) := fun hi => by
  unfold addA
  rw [if_neg (fun e => by rw [inF_in.2 e] at hi; cases hi)]
 have fin2 : Hid (∀ w2 w3 w7 v7, WlAt w2 p S cS ds ls n M ar -> Below w.heap.size w w2 -> MapAt arvE unitV w3 p.G (n + 1) (putF (inF ar) x ()) -> w2.drew.mapTurned w3 p.G -> w7.ownsRow (p.B + 1) 45 6 v7 (ar.length + 1) (ar.flatMap arC ++ arC x) -> Below (p.B + 1) w3.drew w7 -> KeptW w3.drew w7 (Value.slice S ar.length cS).ownBlock -> (v7.ownBlock = (Value.slice S ar.length cS).ownBlock ∨ ∃ g, v7.ownBlock = some g ∧ w3.drew.heap.size <= g) -> AOut w p S ds ls (n + 1) M (ar ++ [x]) (w7.setCell ⟨p.B, 7, none⟩ v7)) := fun w2 w3 w7 v7 q1 q2 q3 q4 q5 q6 q7 q8 => aout_new hx.out q2 q1 q3 q4 q5 q6 q7 q8
 have ST : Hid (∀ W, WlAt W p S cS ds ls n M ar -> ∃ w3, (Instr.mapUpdate 83 (.map (some p.G)) (.agg #[.int .i64 x.1.1, .int .i64 x.1.2, .int .i64 x.2.s, .int .i64 x.2.d, .int .i64 x.2.sp, .int .i64 x.2.dp]) (.agg #[])).run Tryz.prog W = .ok () w3 ∧ MapAt arvE unitV w3 p.G (n + 1) (putF (inF ar) x ()) ∧ W.mapTurned w3 p.G) := fun W hw => hw.was.store uMw hn (x := x) hx.out ()
 obtain ⟨⟨i, q⟩, ⟨s, d, sp, dp⟩⟩ := x
 dsimp only at *
 obtain ⟨⟨x0, x1, x2, x3, x4, x5⟩, _⟩ := X1.six
 have h1' := h1.blk.at 8
 clear h
 go_enter Tryz.func56, Tryz.ntmps56
 go_wp2_with fail
 refine (HS.out _ h1).mono ?_
 rintro e w2 ⟨rfl, hb2⟩
 have h2 := h1.below hb2
 have D2 := chnN hb2 D1
 have X2 := X1.keep hb2
 clear hb2 h1 D1 X1 x0 x1 x2 x3 x4 x5 HS h1'
 cases hv : (inF ar ((i, q), ⟨s, d, sp, dp⟩)).isSome
 rotate_left
 ·have hf := fin0.out hv _ h2 D2
  clear fin0 fin1 fin2 ST
  go_wp2_with fail
  first
   | (go_end0; exact ⟨⟨_, rfl⟩, hf⟩)
   | (refine bodyPost_ret (results_none rfl _ _ _) rfl ⟨⟨_, rfl⟩, hf⟩)
 obtain ⟨w3, hup, G3, T3⟩ := ST.out _ h2.drew
 have hc := CK.of_turned T3
 have X3 : Bk w3 _ _ _ := X2.drew.ck hc
 have B3 : Bk w3 _ _ _ := h2.drew.blk.ck hc
 have O3 := own_ck h2.drew.seen hc
 have z3 := B3.lt
 obtain ⟨v7, w7, r7, O7, D7, K7, g7⟩ := app_elW (w := w3.drew) uArs infoAr rfl (by omega) (by omega) 40 O3 (us := arC ((i, q), ⟨s, d, sp, dp⟩)) rfl (arC_one _) ha (by show p.B + 1 <= w3.heap.size; omega)
 have r7' : (Builtin.append_ #[40, 40] 40 #[.slice S ar.length cS, .slice (some ⟨w3.heap.size, 0, none⟩) 1 1]).run Tryz.prog (w3.alloc (.cells #[.int .i64 i, .int .i64 q, .int .i64 s, .int .i64 d, .int .i64 sp, .int .i64 dp] 45)).drew = .ok v7 w7 := r7
 have hf := fin2.out w2 w3 w7 v7 h2 D2 G3 T3 O7 D7 K7 g7
 rw [<- fin1.out hv] at hf
 have B7 : Bk w7 _ _ _ := (D7.block p.B (by omega)).trans B3
 obtain ⟨⟨y0, y1, y2, y3, y4, y5⟩, _⟩ := X2.drew.six
 obtain ⟨⟨x0, x1, x2, x3, x4, x5⟩, _⟩ := X3.six
 have b8 := h2.drew.blk.at 8
 have c7 := B3.at 7
 have c7a := (B3.alloc (.cells #[.int .i64 i, .int .i64 q, .int .i64 s, .int .i64 d, .int .i64 sp, .int .i64 dp] 45)).drew.at 7
 have d7 := B7.at 7
 have f7 := B7.fz 7
 obtain ⟨A7, q7, hv7, _⟩ := own_sl O7
 subst hv7
 clear fin0 fin1 fin2 ST h2 D2 G3 T3 O7 D7 K7 g7 r7 O3 hc B3 B7 X2 X3
 go_wp2_with fail
 go_cut [10] (fun _ wx => wx = w3)
 case first =>
  go_region
  all_goals
   go_wp2_with fail
   go_meet
   rfl
 case rest =>
  subst hcut
  go_wp2_with fail
  go_region_law (refine step_append_runW (by rfl) _ _ 40 (by rfl) _ _ _ w7 (by rfl) (by rfl) r7' ?_)
  all_goals
   go_wp2_with fail
   go_end0
   exact ⟨⟨_, rfl⟩, hf⟩
theorem endOf_place {l : Lk} {ds : List Dv} {d p : Int} {t : Int × Int} (h : endOf l d p = some t) (h1 : isPl ds l.a l.p = true) (h2 : isPl ds l.b l.q = true) : isPl ds t.1 t.2 = true := by
 unfold endOf at h
 split at h
 ·cases h; exact h2
 ·split at h
  ·cases h; exact h1
  ·cases h
theorem peerF_place {ds : List Dv} : ∀ (ls : List Lk) (d p : Int) (t : Int × Int), (∀ l ∈ ls, isPl ds l.a l.p = true ∧ isPl ds l.b l.q = true) -> peerF ls d p = some t -> isPl ds t.1 t.2 = true
 | [], d, p, t, _, h => by cases h
 | l :: ls, d, p, t, hl, h => by
   have h' : (endOf l d p).or (peerF ls d p) = some t := h
   cases he : endOf l d p with
   | some t' =>
     rw [he] at h'
     cases h'
     exact endOf_place he (hl l (by simp)).1 (hl l (by simp)).2
   | none =>
     rw [he] at h'
     exact peerF_place ls d p t (fun m hm => hl m (by simp [hm])) h'
theorem isPl_ok {ds : List Dv} (hd : ds.length <= 10) {x y : Int} (h : isPl ds x y = true) : i64ok x ∧ i64ok y := by
 unfold isPl at h
 simp only [Bool.and_eq_true, decide_eq_true_eq] at h
 have : portsV (kindAt ds x) <= 4 := by
  unfold portsV
  split
  all_goals first | omega | (split <;> omega) | skip
 exact ⟨i64ok_of (by omega) (by omega), i64ok_of (by omega) (by omega)⟩
theorem peer_ok {ds : List Dv} {ls : List Lk} (hz : netV ds ls = 0) {d p : Int} {t : Int × Int} (h : peerF ls d p = some t) : i64ok t.1 ∧ i64ok t.2 :=
 isPl_ok (netV_links hz).1 (peerF_place ls d p t (netV_links hz).2.2.2 h)
def inj2 (AD : Arv -> List Arv) (ar : List Arv) (q : Pk) : Option (Int × Int) -> Int × List Arv
 | some t => (0, AD (t, q))
 | none => (7, ar)
noncomputable def injP (ds : List Dv) (ls : List Lk) (ar : List Arv) (i : Int) (p : Pk) : Int × List Arv :=
 if 0 <= i ∧ i < (ds.length : Int) then
  (if (ds.getD i.toNat default).kind = 1 then
    (if pkOk p then
      (if p.s = (ds.getD i.toNat default).addr then
        inj2 (addA ar) ar p (peerF ls i 0)
      else (1, ar))
    else (1, ar))
  else (1, ar))
 else (4, ar)
end Go.Proofs.YtlmmeppifkigeaaGreat
