/-
  Nets: what is printed is read as it was, apart from any program.
-/
import Derived.Test.YthofdiacncgbkaaGreatDoorNQ
namespace Go.Proofs.YthofdiacncgbkaaGreatDoor
open Go.RowKit

theorem join_spl (c : UInt8) : ∀ l : List UInt8, Lib.join (Mt.spl c l) [c] = l
  | [] => rfl
  | x :: r => by
    have ih := join_spl c r
    obtain ⟨h, t, e⟩ := Mt.spl_ne c r
    rw [e] at ih
    unfold Mt.spl
    split
    · rename_i hx
      subst hx
      rw [e]
      rw [Lib.join_cons] at ih
      rw [Lib.join_cons, List.nil_append]
      have e2 : Lib.joinTail [x] (h :: t) = x :: (h ++ Lib.joinTail [x] t) := by simp [Lib.joinTail]
      rw [e2, ih]
    · rw [e]
      simp only [Lib.join_cons] at ih ⊢
      rw [List.cons_append, ih]
/-- One line more is read. -/
theorem textP_step {f at' : Nat} {ds ds' : List Dv} {ls ls' : List Lk} {ws : List (List UInt8)} {rest : List UInt8} (h10 : (10 : UInt8) ∉ Lib.join ws [32]) (h : lineP ds ls (Mt.spl 32 (Lib.join ws [32])) = some (ds', ls')) : textP (f + 1) at' ds ls (lineT ws ++ rest) = textP f (at' + 1) ds' ls' rest := by
  unfold lineT
  have e : Lib.join ws [32] ++ [10] ++ rest = Lib.join ws [32] ++ 10 :: rest := by simp
  rw [e, textP, if_neg (by simp), Pk.brk_mk 10 _ _ h10]
  simp only [h]
theorem mem_tail {c x : UInt8} {r : List (List UInt8)} (h : c ∈ Lib.joinTail [x] r) : c = x ∨ ∃ y ∈ r, c ∈ y := by
  unfold Lib.joinTail at h
  simp only [List.mem_flatten, List.mem_map] at h
  obtain ⟨l, ⟨y, hy, rfl⟩, hc⟩ := h
  rcases List.mem_append.1 hc with h1 | h1
  · exact .inl (by simpa using h1)
  · exact .inr ⟨y, hy, h1⟩
theorem mem_join {c : UInt8} {ws : List (List UInt8)} (hc : c ≠ 32) (h : ∀ x ∈ ws, c ∉ x) : c ∉ Lib.join ws [32] := by
  cases ws with
  | nil => simp [Lib.join_nil]
  | cons x r =>
    rw [Lib.join_cons]
    intro hm
    rcases List.mem_append.1 hm with h1 | h1
    · exact h x (by simp) h1
    · rcases mem_tail h1 with e | ⟨y, hy, h2⟩
      · exact hc e
      · exact h y (by simp [hy]) h2
theorem nameOk_byte {s : ByteArray} (h : nameOk s = true) : ∀ c ∈ s.data.toList, (48 : UInt8) ≤ c := by
  unfold nameOk at h
  simp only [Bool.and_eq_true, decide_eq_true_eq, List.all_eq_true] at h
  intro c hc
  have := h.2 c hc
  unfold nameB at this
  simp only [Bool.or_eq_true, Bool.and_eq_true, decide_eq_true_eq] at this
  rw [UInt8.le_iff_toNat_le]
  show 48 ≤ c.toNat
  omega
theorem low_no {l : List UInt8} (h : ∀ c ∈ l, (48 : UInt8) ≤ c) {c : UInt8} (hc : c < 48) : c ∉ l := fun hm => absurd (UInt8.lt_of_lt_of_le hc (h c hm)) (UInt8.lt_irrefl _)
theorem numsT_byte {l : List Int} (h : ∀ x ∈ l, 0 ≤ x ∧ x < 100) : ∀ c ∈ numsT l, (44 : UInt8) ≤ c := by
  unfold numsT
  cases l with
  | nil => simp [Lib.join_nil]
  | cons x r =>
    have dg : ∀ y : Int, 0 ≤ y ∧ y < 100 → ∀ c ∈ dcB y, (44 : UInt8) ≤ c := fun y hy c hc => UInt8.le_trans (by decide) (dcB_byte hy.1 hy.2 c hc).1
    rw [List.map_cons, Lib.join_cons]
    intro c hm
    rcases List.mem_append.1 hm with h1 | h1
    · exact dg x (h x (by simp)) c h1
    · rcases mem_tail h1 with rfl | ⟨y, hy, h2⟩
      · decide
      · obtain ⟨z, hz, rfl⟩ := List.mem_map.1 hy
        exact dg z (h z (by simp [hz])) c h2
theorem low_no44 {l : List UInt8} (h : ∀ c ∈ l, (44 : UInt8) ≤ c) {c : UInt8} (hc : c < 44) : c ∉ l := fun hm => absurd (UInt8.lt_of_lt_of_le hc (h c hm)) (UInt8.lt_irrefl _)
/-- What the check says of a device besides. -/
structure RightE (d : Dv) : Prop where
  ok : nameOk d.name = true
  pool0 : d.kind ≠ 4 → d.pool = 0
  backs0 : d.kind ≠ 5 → d.backs = []
  addr0 : hasAddr d.kind = false → d.addr = 0
theorem rightE_of {ds : List Dv} {k : Nat} {d : Dv} (h : devWrong ds k d = 0) : RightE d := by
  unfold devWrong at h
  split at h
  · rename_i hn
    split at h
    · simp at h
    · unfold devC devV at h
      split at h
      · simp at h
      split at h
      · simp at h
      rename_i h2
      split at h
      · simp at h
      split at h
      · simp at h
      rename_i h4
      rw [Bool.not_eq_true, Bool.or_eq_false_iff, Bool.or_eq_false_iff] at h2
      refine ⟨hn, fun h4' => ?_, fun h5' => ?_, fun ha => ?_⟩
      · have := h2.2
        have e : (d.kind == 4) = false := by simpa using h4'
        rw [e] at this
        simp at this
        omega
      · have e : (d.kind == 5) = false := by simpa using h5'
        rw [e] at h4
        simp at h4
        exact h4
      · have := h2.1.2
        rw [ha] at this
        simpa using this
  · simp at h
theorem netV_rightE {ds : List Dv} {ls : List Lk} (h : netV ds ls = 0) : ∀ d ∈ ds, RightE d := by
  unfold netV at h
  split at h
  · simp at h
  · split at h
    · rename_i h0
      intro d hd
      obtain ⟨k, hk, e⟩ := List.mem_iff_getElem.1 hd
      exact rightE_of (devsFrom_all ds.length 0 (by omega) h0 k d (by omega) (by rw [List.getElem?_eq_getElem hk, e]))
    · rename_i h0
      exact absurd h h0
/-- A device, bare of rules and routes. -/
def bare (d : Dv) : Dv := { d with rules := [], routes := [] }
theorem mkDv_name {s : ByteArray} {k ad : Int} {pl : Nat} {bs : List Int} (h : pl < 256) (hs : s.size ≤ maxLen) : mkDv s.data.toList k ad pl bs = some ⟨s, k, ad, pl, bs, [], [], h, hs⟩ := by
  have hn : s.data.toList.length ≤ maxLen := by rw [← Lib.size_eq]; exact hs
  unfold mkDv
  rw [dif_pos ⟨h, hn⟩]
theorem devP_back {d : Dv} (R : RightD d) (E : RightE d) : devP (devWs d) = some (bare d) := by
  obtain ⟨nm, k, ad, pl, bs, rs, ts, hp, hs⟩ := d
  have hk := R.kind
  have ha := R.addr
  have h5 := R.five
  have h4 := R.four
  have hb := R.back
  have e0 := E.ok
  have e1 := E.pool0
  have e2 := E.backs0
  have e3 := E.addr0
  simp only at hk ha h5 h4 hb e0 e1 e2 e3
  have hn : nameOk ⟨nm.data.toList.toArray⟩ = true := by cases nm; simpa using e0
  have hkk : k = 1 ∨ k = 2 ∨ k = 3 ∨ k = 4 ∨ k = 5 := by omega
  unfold devWs addrW tailW bare
  simp only
  rcases hkk with rfl | rfl | rfl | rfl | rfl
  · have h1 := ha rfl
    obtain rfl := e1 (by omega)
    obtain rfl := e2 (by omega)
    show devP [kwB 1, nm.data.toList, dcB ad] = _
    rw [devP, if_pos hn, if_pos rfl, pnum_dcB h1.1 (by omega)]
    exact mkDv_name hp hs
  · obtain rfl := e1 (by omega)
    obtain rfl := e2 (by omega)
    obtain rfl := e3 rfl
    show devP [kwB 2, nm.data.toList] = _
    rw [devP, if_pos hn, if_pos rfl]
    exact mkDv_name hp hs
  · obtain rfl := e1 (by omega)
    obtain rfl := e2 (by omega)
    obtain rfl := e3 rfl
    show devP [kwB 3, nm.data.toList] = _
    rw [devP, if_pos hn, if_neg (by decide), if_pos rfl]
    exact mkDv_name hp hs
  · have h1 := ha rfl
    obtain rfl := e2 (by omega)
    show devP [kwB 4, nm.data.toList, dcB ad, numsT (poolL pl)] = _
    rw [devP, if_pos hn, if_pos rfl, pnum_dcB h1.1 (by omega), Option.bind_some, ppool_back pl hp (h4 rfl)]
    exact mkDv_name hp hs
  · have h1 := ha rfl
    obtain rfl := e1 (by omega)
    show devP [kwB 5, nm.data.toList, dcB ad, numsT bs] = _
    rw [devP, if_pos hn, if_neg (by decide), if_pos rfl, pnum_dcB h1.1 (by omega), Option.bind_some, pnums_numsT bs (h5 rfl) (fun x hx => by have := hb x hx; omega)]
    exact mkDv_name hp hs
end Go.Proofs.YthofdiacncgbkaaGreatDoor
