/-
  Nets: their text, apart from any program; what a net is that the check takes.
-/
import Derived.Test.YtkckgoeemfjkkaaDoorNp
import Derived.Test.YtkckgoeemfjkkaaDoorMt1
namespace Go.Proofs.YtkckgoeemfjkkaaDoor
open Go.RowKit

def kwB (k : Int) : List UInt8 := if k = 1 then [104, 111, 115, 116] else if k = 2 then [114, 111, 117, 116, 101, 114] else if k = 3 then [102, 105, 114, 101] else if k = 4 then [110, 97, 116] else if k = 5 then [108, 98] else []
def dcB (n : Int) : List UInt8 := Lib.decDigits n.toNat
def lineT (ws : List (List UInt8)) : List UInt8 := Lib.join ws [32] ++ [10]
def poolL (pl : Nat) : List Int := ((List.range 8).filter fun k => pl.testBit k).map fun k : Nat => (k : Int)
def numsT (l : List Int) : List UInt8 := Lib.join (l.map dcB) [44]
def tailW (d : Dv) : List (List UInt8) := if d.kind = 4 then [numsT (poolL d.pool)] else if d.kind = 5 then [numsT d.backs] else []
def addrW (d : Dv) : List (List UInt8) := if hasAddr d.kind then [dcB d.addr] else []
def devWs (d : Dv) : List (List UInt8) := [kwB d.kind, d.name.data.toList] ++ addrW d ++ tailW d
def ruleW (ok : Bool) : List UInt8 := if ok then [112, 101, 114, 109, 105, 116] else [100, 101, 110, 121]
def ruleT (r : NRule) : List UInt8 := lineT [ruleW r.ok, Mt.matT r.a r.b r.c r.d]
def routeW : List UInt8 := [114, 111, 117, 116, 101]
def routeT (r : NRoute) : List UInt8 := lineT [routeW, dcB r.v ++ 47 :: dcB r.b, dcB r.p]
def devT (d : Dv) : List UInt8 := lineT (devWs d) ++ (d.rules.flatMap ruleT ++ d.routes.flatMap routeT)
def nameAt (ds : List Dv) (i : Int) : ByteArray := ((ds[i.toNat]?).map (·.name)).getD ⟨#[]⟩
def linkW : List UInt8 := [108, 105, 110, 107]
def linkT (ds : List Dv) (l : Lk) : List UInt8 := lineT [linkW, (nameAt ds l.a).data.toList, dcB l.p, (nameAt ds l.b).data.toList, dcB l.q]
def netT (ds : List Dv) (ls : List Lk) : List UInt8 := ds.flatMap devT ++ ls.flatMap (linkT ds)

/-- A device that the check takes. -/
structure RightD (d : Dv) : Prop where
  kind : 1 ≤ d.kind ∧ d.kind ≤ 5
  addr : hasAddr d.kind = true → 0 ≤ d.addr ∧ d.addr ≤ 15
  backs : d.backs.length ≤ 3
  back : ∀ b ∈ d.backs, 0 ≤ b ∧ b ≤ 15
  rules : d.rules.length ≤ 8
  routes : d.routes.length ≤ 8
  route : ∀ r ∈ d.routes, isR (rtOf r) = true
  name : d.name.size ≤ 8
  five : d.kind = 5 → d.backs ≠ []
  four : d.kind = 4 → 0 < d.pool
theorem backsFrom_all {bs : List Int} {ad : Int} : ∀ (m k : Nat), bs.length - k ≤ m → backsFrom bs ad k = 0 → ∀ j x, k ≤ j → bs[j]? = some x → 0 ≤ x ∧ x ≤ 15
  | 0, k, h, _, j, x, hj, hx => by
    have := (List.getElem?_eq_some_iff.1 hx).1
    omega
  | m + 1, k, h, h0, j, x, hj, hx => by
    have hjl := (List.getElem?_eq_some_iff.1 hx).1
    have hk : k < bs.length := by omega
    rw [backsFrom_at (List.getElem?_eq_getElem hk)] at h0
    split at h0
    · rename_i hw
      by_cases e : j = k
      · subst e
        rw [List.getElem?_eq_getElem hk, Option.some.injEq] at hx
        subst hx
        simp only [Bool.and_eq_true, decide_eq_true_eq] at hw
        exact hw.1.1
      · exact backsFrom_all m (k + 1) (by omega) h0 j x (by omega) hx
    · simp at h0
theorem checkFrom_all {xs : List Rt} : ∀ (m k : Nat), xs.length - k ≤ m → checkFrom xs k = 0 → ∀ j r, k ≤ j → xs[j]? = some r → isR r = true
  | 0, k, h, _, j, x, hj, hx => by
    have := (List.getElem?_eq_some_iff.1 hx).1
    omega
  | m + 1, k, h, h0, j, x, hj, hx => by
    have hjl := (List.getElem?_eq_some_iff.1 hx).1
    have hk : k < xs.length := by omega
    rw [checkFrom_at (List.getElem?_eq_getElem hk)] at h0
    split at h0
    · rename_i hw
      by_cases e : j = k
      · subst e
        rw [List.getElem?_eq_getElem hk, Option.some.injEq] at hx
        subst hx
        unfold wrongAt at hw
        split at hw
        · assumption
        · simp at hw
      · exact checkFrom_all m (k + 1) (by omega) h0 j x (by omega) hx
    · rename_i hw
      exact absurd h0 hw
theorem devsFrom_all {ds : List Dv} : ∀ (m k : Nat), ds.length - k ≤ m → devsFrom ds k = 0 → ∀ j d, k ≤ j → ds[j]? = some d → devWrong ds j d = 0
  | 0, k, h, _, j, l, hj, hl => by
    have := (List.getElem?_eq_some_iff.1 hl).1
    omega
  | m + 1, k, h, h0, j, l, hj, hl => by
    have hjl := (List.getElem?_eq_some_iff.1 hl).1
    have hk : k < ds.length := by omega
    rw [devsFrom_at (List.getElem?_eq_getElem hk)] at h0
    split at h0
    · rename_i hw
      by_cases e : j = k
      · subst e
        rw [List.getElem?_eq_getElem hk, Option.some.injEq] at hl
        rw [← hl]
        exact hw
      · exact devsFrom_all m (k + 1) (by omega) h0 j l (by omega) hl
    · rename_i hw
      exact absurd h0 hw
theorem right_of {ds : List Dv} {k : Nat} {d : Dv} (h : devWrong ds k d = 0) : RightD d := by
  unfold devWrong at h
  split at h
  · rename_i hn
    split at h
    · simp at h
    · unfold devC devV at h
      split at h
      · simp at h
      rename_i h1
      split at h
      · simp at h
      rename_i h2
      split at h
      · simp at h
      rename_i h3
      split at h
      · simp at h
      rename_i h4
      split at h
      · simp at h
      rename_i h5
      split at h
      · simp at h
      split at h
      · simp at h
      rename_i h7
      rw [Bool.not_eq_true, Bool.not_eq_false', Bool.and_eq_true, decide_eq_true_eq, decide_eq_true_eq] at h1
      rw [Bool.not_eq_true, Bool.or_eq_false_iff, Bool.or_eq_false_iff] at h2
      unfold checkV at h
      split at h
      · simp at h
      rename_i h8
      rw [List.length_map] at h8
      have hb0 : backsFrom d.backs d.addr 0 = 0 := by
        have : ∀ (m k : Nat), d.backs.length - k ≤ m → backsFrom d.backs d.addr k = 0 ∨ backsFrom d.backs d.addr k = 1 := by
          intro m
          induction m with
          | zero => intro k hk; rw [backsFrom_end (by omega)]; simp
          | succ m ih =>
            intro k hk
            by_cases hkl : k < d.backs.length
            · rw [backsFrom_at (List.getElem?_eq_getElem hkl)]
              split
              · exact ih (k + 1) (by omega)
              · simp
            · rw [backsFrom_end (by omega)]; simp
        rcases this d.backs.length 0 (by omega) with h | h
        · exact h
        · exact absurd h h5
      refine ⟨h1, fun ha => ?_, by omega, fun b hb => ?_, by omega, by omega, fun r hr => ?_, ?_, fun h5' => ?_, fun h4' => ?_⟩
      · have := h2.1.1
        rw [ha, Bool.true_and, Bool.not_eq_false', Bool.and_eq_true, decide_eq_true_eq, decide_eq_true_eq] at this
        exact this
      · obtain ⟨j, hj, e⟩ := List.mem_iff_getElem.1 hb
        exact backsFrom_all d.backs.length 0 (by omega) hb0 j b (by omega) (by rw [List.getElem?_eq_getElem hj, e])
      · obtain ⟨j, hj, e⟩ := List.mem_iff_getElem.1 hr
        exact checkFrom_all _ 0 (Nat.le_refl _) h j (rtOf r) (by omega) (by rw [List.getElem?_map, List.getElem?_eq_getElem hj, e]; rfl)
      · unfold nameOk at hn
        simp only [Bool.and_eq_true, decide_eq_true_eq] at hn
        exact hn.1.2
      · intro e
        rw [e, h5'] at h4
        exact h4 rfl
      · have := h2.2
        rw [h4'] at this
        simp at this
        omega
  · simp at h
/-- Of a net that the check takes. -/
theorem netV_right {ds : List Dv} {ls : List Lk} (h : netV ds ls = 0) : ∀ d ∈ ds, RightD d := by
  unfold netV at h
  split at h
  · simp at h
  · split at h
    · rename_i h0
      intro d hd
      obtain ⟨k, hk, e⟩ := List.mem_iff_getElem.1 hd
      exact right_of (devsFrom_all ds.length 0 (by omega) h0 k d (by omega) (by rw [List.getElem?_eq_getElem hk, e]))
    · rename_i h0
      exact absurd h h0

/-! ### lengths -/
theorem dcB_len {n : Int} (h : n < 100) : (dcB n).length ≤ 2 := by
  unfold dcB
  by_cases h1 : n.toNat < 10
  · rw [Lib.decDigits_one h1]; simp
  · rw [Lib.decDigits_two h1 (by omega)]; simp
theorem numsT_len {l : List Int} (h : ∀ x ∈ l, x < 100) (hl : l.length ≤ 8) : (numsT l).length ≤ 24 := by
  have := Mt.join_len 3 (l.map dcB) [44] (fun y hy => by
    obtain ⟨x, hx, rfl⟩ := List.mem_map.1 hy
    have := dcB_len (h x hx)
    simp
    omega)
  rw [List.length_map] at this
  unfold numsT
  omega
theorem poolL_len (pl : Nat) : (poolL pl).length ≤ 8 := by
  unfold poolL
  rw [List.length_map]
  exact Nat.le_trans (List.length_filter_le _ _) (by simp)
theorem poolL_mem {pl : Nat} {x : Int} (h : x ∈ poolL pl) : 0 ≤ x ∧ x < 8 := by
  unfold poolL at h
  obtain ⟨k, hk, rfl⟩ := List.mem_map.1 h
  have := (List.mem_filter.1 hk).1
  simp at this
  omega
theorem kwB_len (k : Int) : (kwB k).length ≤ 6 := by
  unfold kwB
  repeat' split
  all_goals simp
theorem join_two (a b : List UInt8) : Lib.join [a, b] [32] = a ++ ([32] ++ b) := by simp [Lib.join]
theorem lineT_len (m : Nat) (ws : List (List UInt8)) (h : ∀ y ∈ ws, y.length + 1 ≤ m) : (lineT ws).length ≤ m * ws.length + 1 := by
  have := Mt.join_len m ws [32] (fun y hy => by simpa using h y hy)
  unfold lineT
  rw [List.length_append]
  simp
  omega
theorem devWs_len {d : Dv} (h : RightD d) : (lineT (devWs d)).length ≤ 101 := by
  have hl : (devWs d).length ≤ 4 := by
    unfold devWs addrW tailW
    rw [List.length_append, List.length_append]
    repeat' split
    all_goals simp
  have := lineT_len 25 (devWs d) (fun y hy => by
    unfold devWs at hy
    rcases List.mem_append.1 hy with hy | hy
    · rcases List.mem_append.1 hy with hy | hy
      · simp only [List.mem_cons, List.not_mem_nil, or_false] at hy
        rcases hy with rfl | rfl
        · have := kwB_len d.kind
          omega
        · have := h.name
          rw [Lib.size_eq] at this
          omega
      · unfold addrW at hy
        split at hy
        · rename_i ha
          simp only [List.mem_cons, List.not_mem_nil, or_false] at hy
          subst hy
          have := dcB_len (n := d.addr) (by have := (h.addr ha).2; omega)
          omega
        · simp at hy
    · unfold tailW at hy
      split at hy
      · simp only [List.mem_cons, List.not_mem_nil, or_false] at hy
        subst hy
        have := numsT_len (l := poolL d.pool) (fun x hx => by have := (poolL_mem hx).2; omega) (poolL_len _)
        omega
      · split at hy
        · simp only [List.mem_cons, List.not_mem_nil, or_false] at hy
          subst hy
          have := numsT_len (l := d.backs) (fun x hx => by have := (h.back x hx).2; omega) (by have := h.backs; omega)
          omega
        · simp at hy)
  have : 25 * (devWs d).length ≤ 100 := by omega
  omega
theorem ruleT_len (r : NRule) : (ruleT r).length ≤ 603 := by
  have hm := Mt.matT_len r.a r.b r.c r.d
  have := lineT_len 301 [ruleW r.ok, Mt.matT r.a r.b r.c r.d] (fun y hy => by
    simp only [List.mem_cons, List.not_mem_nil, or_false] at hy
    rcases hy with rfl | rfl
    · unfold ruleW
      split <;> simp
    · omega)
  simpa [ruleT] using this
theorem isR_nums {r : NRoute} (h : isR (rtOf r) = true) : (0 ≤ r.v ∧ r.v < 16) ∧ (0 ≤ r.b ∧ r.b ≤ 4) ∧ 0 ≤ r.p ∧ r.p < 4 := by
  unfold isR rtOf at h
  simp only [Bool.and_eq_true, decide_eq_true_eq] at h
  exact ⟨⟨h.1.1.1.1.2, h.1.1.1.2⟩, ⟨h.1.1.1.1.1.1, h.1.1.1.1.1.2⟩, h.1.2, h.2⟩
theorem routeT_len {r : NRoute} (h : isR (rtOf r) = true) : (routeT r).length ≤ 22 := by
  obtain ⟨⟨_, h1⟩, ⟨_, h2⟩, _, h3⟩ := isR_nums h
  have l1 := dcB_len (n := r.v) (by omega)
  have l2 := dcB_len (n := r.b) (by omega)
  have l3 := dcB_len (n := r.p) (by omega)
  have := lineT_len 7 [routeW, dcB r.v ++ 47 :: dcB r.b, dcB r.p] (fun y hy => by
    simp only [List.mem_cons, List.not_mem_nil, or_false] at hy
    rcases hy with rfl | rfl | rfl
    · simp [routeW]
    · simp
      omega
    · omega)
  simpa [routeT] using this
theorem flat_len {α : Type} (f : α → List UInt8) (m : Nat) : ∀ (xs : List α), (∀ x ∈ xs, (f x).length ≤ m) → (xs.flatMap f).length ≤ m * xs.length
  | [], _ => by simp
  | x :: xs, h => by
    have h1 := h x (by simp)
    have h2 := flat_len f m xs (fun y hy => h y (by simp [hy]))
    rw [List.flatMap_cons, List.length_append, List.length_cons, Nat.mul_add]
    omega
theorem devT_len {d : Dv} (h : RightD d) : (devT d).length ≤ 5101 := by
  have h1 := devWs_len h
  have h2 := flat_len ruleT 603 d.rules (fun r _ => ruleT_len r)
  have h3 := flat_len routeT 22 d.routes (fun r hr => routeT_len (h.route r hr))
  have h4 := h.rules
  have h5 := h.routes
  unfold devT
  rw [List.length_append, List.length_append]
  have : 603 * d.rules.length ≤ 603 * 8 := Nat.mul_le_mul_left _ h4
  have : 22 * d.routes.length ≤ 22 * 8 := Nat.mul_le_mul_left _ h5
  omega
theorem isPl_lt {ds : List Dv} {d p : Int} (h : isPl ds d p = true) : ∃ i : Nat, d = (i : Int) ∧ i < ds.length ∧ 0 ≤ p ∧ p < 4 := by
  unfold isPl at h
  simp only [Bool.and_eq_true, decide_eq_true_eq] at h
  obtain ⟨n, e, h4⟩ := portsV_nat (kindAt ds d)
  exact ⟨d.toNat, by omega, by omega, h.1.2, by omega⟩
theorem nameAt_eq {ds : List Dv} {i : Nat} {x : Dv} (h : ds[i]? = some x) : nameAt ds (i : Int) = x.name := by
  unfold nameAt
  rw [Int.toNat_natCast, h]
  rfl
theorem linkT_len {ds : List Dv} {l : Lk} (hr : ∀ d ∈ ds, RightD d) (h1 : isPl ds l.a l.p = true) (h2 : isPl ds l.b l.q = true) : (linkT ds l).length ≤ 46 := by
  have nm : ∀ i : Int, (nameAt ds i).data.toList.length ≤ 8 := fun i => by
    unfold nameAt
    cases hx : ds[i.toNat]? with
    | none => simp
    | some x =>
      have := (hr x (List.mem_of_getElem? hx)).name
      rw [Lib.size_eq] at this
      simpa using this
  obtain ⟨_, _, _, _, p1⟩ := isPl_lt h1
  obtain ⟨_, _, _, _, p2⟩ := isPl_lt h2
  have n1 := nm l.a
  have n2 := nm l.b
  have l1 := dcB_len (n := l.p) (by omega)
  have l2 := dcB_len (n := l.q) (by omega)
  have := lineT_len 9 [linkW, (nameAt ds l.a).data.toList, dcB l.p, (nameAt ds l.b).data.toList, dcB l.q] (fun y hy => by
    simp only [List.mem_cons, List.not_mem_nil, or_false] at hy
    rcases hy with rfl | rfl | rfl | rfl | rfl
    · simp [linkW]
    · omega
    · omega
    · omega
    · omega)
  simpa [linkT] using this
theorem flat_take {α : Type} (f : α → List UInt8) {xs : List α} {k : Nat} {x : α} (h : xs[k]? = some x) : (xs.take (k + 1)).flatMap f = (xs.take k).flatMap f ++ f x := by
  obtain ⟨hk, e⟩ := List.getElem?_eq_some_iff.1 h
  rw [List.take_succ_eq_append_getElem hk, e, List.flatMap_append]
  simp
end Go.Proofs.YtkckgoeemfjkkaaDoor
