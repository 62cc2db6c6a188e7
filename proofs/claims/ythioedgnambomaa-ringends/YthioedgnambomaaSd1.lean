/-
  Package step: New.
-/
import Derived.Test.YthioedgnambomaaSc3
import Derived.Test.YthioedgnambomaaSy
import Derived.Test.YthioedgnambomaaNK
namespace Go.Proofs.Ythioedgnambomaa
open Go.RowKit Go.Maps

/-! ### what Check asks of devices -/
theorem devsFrom_all {ds : List Dv} : ∀ (m k : Nat), ds.length - k ≤ m → devsFrom ds k = 0 → ∀ j d, k ≤ j → ds[j]? = some d → devWrong ds j d = 0
  | 0, k, h, _, j, d, hj, hd => by
    have := (List.getElem?_eq_some_iff.1 hd).1
    omega
  | m + 1, k, h, h0, j, d, hj, hd => by
    have hjl := (List.getElem?_eq_some_iff.1 hd).1
    have hk : k < ds.length := by omega
    rw [devsFrom_at (List.getElem?_eq_getElem hk)] at h0
    split at h0
    · rename_i hw
      by_cases e : j = k
      · subst e
        rw [List.getElem?_eq_getElem hk, Option.some.injEq] at hd
        rw [← hd]
        exact hw
      · exact devsFrom_all m (k + 1) (by omega) h0 j d (by omega) hd
    · rename_i hw
      exact absurd h0 hw
theorem netV_devs {ds : List Dv} {ls : List Lk} (h : netV ds ls = 0) : ∀ d ∈ ds, devC d = 0 := by
  intro d hd
  obtain ⟨k, hk, e⟩ := List.mem_iff_getElem.1 hd
  unfold netV at h
  split at h
  · simp at h
  · split at h
    · rename_i hz
      have := devsFrom_all ds.length 0 (by omega) hz k d (Nat.zero_le _) (by rw [List.getElem?_eq_getElem hk, e])
      unfold devWrong at this
      split at this
      · split at this
        · simp at this
        · exact this
      · simp at this
    · rename_i hz
      exact absurd h hz
theorem devC_sizes {d : Dv} (h : devC d = 0) : d.backs.length ≤ 3 ∧ d.rules.length ≤ 8 ∧ d.routes.length ≤ 8 ∧ i64ok d.addr := by
  unfold devC devV at h
  split at h
  · simp at h
  split at h
  · simp at h
  rename_i h1 h2
  split at h
  · simp at h
  rename_i h3
  split at h
  · simp at h
  split at h
  · simp at h
  split at h
  · simp at h
  split at h
  · simp at h
  rename_i h8
  have hr : d.routes.length ≤ 8 := by
    unfold checkV at h
    split at h
    · simp at h
    · rename_i h9
      simpa using h9
  refine ⟨by omega, by omega, hr, ?_⟩
  have ha : (hasAddr d.kind = true ∧ 0 ≤ d.addr ∧ d.addr ≤ 15) ∨ d.addr = 0 := by
    cases hk : hasAddr d.kind
    · rw [hk] at h2
      simp at h2
      exact .inr h2.1
    · rw [hk] at h2
      simp at h2
      exact .inl ⟨rfl, by omega, by omega⟩
  rcases ha with ⟨_, a, b⟩ | a
  · exact i64ok_of (by omega) (by omega)
  · exact i64ok_of (by omega) (by omega)
theorem small_of {ds : List Dv} {ls : List Lk} (h : netV ds ls = 0) : Small ds ls := by
  obtain ⟨h1, h2, _⟩ := netV_links h
  exact ⟨by omega, by omega, fun d hd => by have := devC_sizes (netV_devs h d hd); omega, fun d hd => by have := devC_sizes (netV_devs h d hd); omega, fun d hd => by have := devC_sizes (netV_devs h d hd); omega⟩
theorem addrs_of {ds : List Dv} {ls : List Lk} (h : netV ds ls = 0) : AddrsOk ds := fun d hd => (devC_sizes (netV_devs h d hd)).2.2.2
/-- Nothing is known. -/
def noM : Mnd := ⟨fun _ => none, fun _ => none, fun _ => none⟩
/-- What New tells. -/
def NewOut (w : World) (ds : List Dv) (ls : List Lk) (e : Ending) (w' : World) : Prop :=
  Below w.heap.size w w' ∧ ((netV ds ls ≠ 0 ∧ e = .returned (.tuple #[.pointer none, .int .i64 (netV ds ls)])) ∨
    (netV ds ls = 0 ∧ ∃ m : Mp, e = .returned (.tuple #[.pointer (some ⟨m.B, m.z, none⟩), .int .i64 0]) ∧ MemAt w' m ds ls 0 noM ∧ w.heap.size ≤ m.f ∧ w.heap.size ≤ m.o ∧ w.heap.size ≤ m.k ∧ w.heap.size ≤ m.B ∧ m.z = 0 ∧ m.pre = [] ∧ m.post = []))
theorem MapAt.alloc {k e : TypeId} {α β : Type} {E : KeyEnc k α} {V : ElEnc e β} {w : World} {b n : Nat} {f : α → Option β} (h : MapAt E V w b n f) (o : Obj) : MapAt E V (w.alloc o) b n f := h.same (Below.heap_alloc w o b h.lt)
theorem mapAt_made' {k e : TypeId} {α β : Type} (E : KeyEnc k α) (V : ElEnc e β) (w : World) (b : Nat) (h : b = w.heap.size) : MapAt E V (w.alloc (.map #[] 0)) b 0 (fun _ => none) := by
  subst h
  exact mapAt_made E V w
theorem new_mem {w : World} {A B : Option Addr} {cap cap' : Nat} {ds : List Dv} {ls : List Lk} (hD : Devs w.heap.size w (.slice A ds.length cap) ds) (hL : Links w.heap.size w (.slice B ls.length cap') ls) :
    MemAt ((((w.alloc (.map #[] 0)).alloc (.map #[] 0)).alloc (.map #[] 0)).alloc (.cells #[.slice A ds.length cap, .slice B ls.length cap', .map (some w.heap.size), .map (some (w.heap.size + 1)), .map (some (w.heap.size + 1 + 1))] 71)) ⟨0, [], [], 71, w.heap.size + 1 + 1 + 1, w.heap.size, w.heap.size + 1, w.heap.size + 1 + 1, A, cap, B, cap'⟩ ds ls 0 noM := by
  have hb := Below.alN (Below.alN (Below.alN (Below.alN (Below.refl w.heap.size w) (.map #[] 0)) (.map #[] 0)) (.map #[] 0)) (.cells #[.slice A ds.length cap, .slice B ls.length cap', .map (some w.heap.size), .map (some (w.heap.size + 1)), .map (some (w.heap.size + 1 + 1))] 71)
  refine ⟨⟨bk_new' _ _ _ _ (by simp), rfl⟩, (hD.below hb).mono hb.size, (hL.below hb).mono hb.size, (((mapAt_made' pofE unitV w _ rfl).alloc _).alloc _).alloc _, ((mapAt_made' prtE endV _ _ (by simp)).alloc _).alloc _, (mapAt_made' pofE intV _ _ (by simp)).alloc _, ?_, ?_, ?_⟩
  · show w.heap.size ≠ w.heap.size + 1
    omega
  · show w.heap.size ≠ w.heap.size + 1 + 1
    omega
  · show w.heap.size + 1 ≠ w.heap.size + 1 + 1
    omega
set_option maxHeartbeats 4000000 in
set_option maxRecDepth 100000 in
/-- New. -/
theorem new_any (A B : Option Addr) (cap cap' : Nat) (ds : List Dv) (ls : List Lk) (w : World) (hD : Hid (Devs w.heap.size w (.slice A ds.length cap) ds)) (hL : Hid (Links w.heap.size w (.slice B ls.length cap') ls)) :
    Calls Try.prog 8 #[.agg #[.slice A ds.length cap, .slice B ls.length cap']] w (NewOut w ds ls) := by
  have CK : Hid (∀ W, Below w.heap.size w W → Calls Try.prog 16 #[.agg #[.slice A ds.length cap, .slice B ls.length cap']] W fun e w' => e = .returned (.int .i64 (netV ds ls)) ∧ Below W.heap.size W w') := fun W h => net_any _ _ ds ls W ((hD.out.below h).mono h.size) ((hL.out.below h).mono h.size)
  have CP : Hid (netV ds ls = 0 → ∀ W, Below w.heap.size w W → Calls Try.prog 17 #[.agg #[.slice A ds.length cap, .slice B ls.length cap']] W (CopyOut W ds ls)) := fun hz W h => copy_any A B cap cap' ds ls W ((hD.out.below h).mono h.size) ((hL.out.below h).mono h.size) (small_of hz)
  have D0 := Below.alN (Below.refl w.heap.size w) (.cells #[.slice A ds.length cap, .slice B ls.length cap'] 25)
  have N0 := bk_new w #[.slice A ds.length cap, .slice B ls.length cap'] 25
  clear hD hL
  go_enter Try.func8, Try.ntmps8
  go_wp2_with fail
  refine (CK.out _ D0).mono ?_
  rintro e w1 ⟨rfl, hb1⟩
  have D1 := chnN hb1 D0
  have N1 := N0.keep hb1
  clear hb1 D0 N0 CK
  obtain ⟨n0, n1⟩ := N1.two
  by_cases hz : netV ds ls = 0
  rotate_left
  · have hz1 : (netV ds ls == 0) = false := by simpa using hz
    have HZ : Hid (netV ds ls ≠ 0) := hz
    clear hz CP
    go_wp2_with fail
    go_ret2
    exact ⟨D1, .inl ⟨HZ.out, rfl⟩⟩
  have CP2 : Hid _ := CP.out hz
  have HZ : Hid (netV ds ls = 0) := hz
  rw [hz]
  clear hz CP
  go_wp2_with fail
  refine (CP2.out _ D1).mono ?_
  rintro e w2 ⟨A2, q2, B2, q3, rfl, hD2, hL2, hb2⟩
  have D2 := chnN hb2 D1
  have z2 := D2.size
  have M5 := new_mem hD2 hL2
  have D6 := Below.alN (Below.alN (Below.alN (Below.alN D2 (.map #[] 0)) (.map #[] 0)) (.map #[] 0)) (.cells #[.slice A2 ds.length q2, .slice B2 ls.length q3, .map (some w2.heap.size), .map (some (w2.heap.size + 1)), .map (some (w2.heap.size + 1 + 1))] 71)
  clear hb2 D1 N1 n0 n1 hD2 hL2 CP2
  have hmm := @run_makeMap Try.prog
  go_wp2_with fail
  go_ret2
  exact ⟨D6, .inr ⟨HZ.out, _, rfl, M5, by show w.heap.size ≤ w2.heap.size; omega, by show w.heap.size ≤ w2.heap.size + 1; omega, by show w.heap.size ≤ w2.heap.size + 1 + 1; omega, by show w.heap.size ≤ w2.heap.size + 1 + 1 + 1; omega, rfl, rfl, rfl⟩⟩
end Go.Proofs.Ythioedgnambomaa
