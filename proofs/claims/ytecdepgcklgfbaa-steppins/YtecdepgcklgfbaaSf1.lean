/-
  StepPins: what the calls of the law tell, as plain facts.
-/
import Derived.Test.YtecdepgcklgfbaaSe1
namespace Go.Proofs.Ytecdepgcklgfbaa
open Go.RowKit Go.Maps

def pinsD (a : Int) (bs : List Int) : Dv := ⟨⟨#[]⟩, 5, a, 0, bs, [], [], by omega, Nat.zero_le _⟩
theorem pins_devC (a : Int) (bs : List Int) : devC (pinsD a bs) = if 0 ≤ a ∧ a ≤ 15 then (if 3 < bs.length then 2 else if bs.length = 0 then 1 else if backsFrom bs a 0 = 1 then 1 else 0) else 1 := by
  unfold devC devV pinsD
  by_cases h0 : 0 ≤ a <;> by_cases h1 : a ≤ 15 <;> simp [hasAddr, checkV_nil, h0, h1]
theorem pins_netV (a : Int) (bs : List Int) : netV (chainD (pinsD a bs)) chainL = if 0 ≤ a ∧ a ≤ 15 then (if 3 < bs.length then 2 else if bs.length = 0 then 1 else if backsFrom bs a 0 = 1 then 1 else 0) else 1 := by
  rw [chain_netV _ (Or.inr (Or.inr rfl)), pins_devC]
theorem backs_in {bs : List Int} {ad : Int} : ∀ (m k : Nat), bs.length - k ≤ m → backsFrom bs ad k ≠ 1 → ∀ j x, k ≤ j → bs[j]? = some x → 0 ≤ x ∧ x ≤ 15
  | 0, k, h, _, j, x, hj, hx => by
    have := (List.getElem?_eq_some_iff.1 hx).1
    omega
  | m + 1, k, h, h0, j, x, hj, hx => by
    have hjl := (List.getElem?_eq_some_iff.1 hx).1
    have hk : k < bs.length := by omega
    rw [backsFrom_at (List.getElem?_eq_getElem hk)] at h0
    split at h0
    · rename_i hw
      by_cases e : j = k
      · subst e
        rw [List.getElem?_eq_getElem hk] at hx
        obtain rfl := Option.some.inj hx
        simp only [Bool.and_eq_true, decide_eq_true_eq] at hw
        exact hw.1.1
      · exact backs_in m (k + 1) (by omega) h0 j x (by omega) hx
    · exact absurd rfl h0
theorem pins_good {a : Int} {bs : List Int} (h : netV (chainD (pinsD a bs)) chainL = 0) : (0 ≤ a ∧ a ≤ 15) ∧ ∀ (j : Nat) (x : Int), bs[j]? = some x → 0 ≤ x ∧ x ≤ 15 := by
  rw [pins_netV] at h
  split at h
  · rename_i ha
    split at h
    · omega
    · split at h
      · omega
      · split at h
        · omega
        · rename_i hb
          exact ⟨ha, fun j x hx => backs_in _ 0 (Nat.le_refl _) hb j x (Nat.zero_le _) hx⟩
  · omega
theorem pins_67 : netV (chainD (pinsD 5 [6, 7])) chainL = 0 := by
  have h : backsFrom [6, 7] 5 0 = 0 := by
    rw [backsFrom_at (x := 6) rfl, if_pos (by decide), backsFrom_at (x := 7) rfl, if_pos (by decide), backsFrom_end (by decide)]
  rw [pins_netV, h]
  simp
theorem addrs_pins {a : Int} {bs : List Int} (ha : 0 ≤ a ∧ a ≤ 15) : AddrsOk (chainD (pinsD a bs)) := fun d hd => by
  simp only [chainD, List.mem_cons, List.not_mem_nil, or_false] at hd
  rcases hd with rfl | rfl | rfl
  · exact i64ok_of (by decide) (by decide)
  · exact i64ok_of (by show _ ≤ a; omega) (by show a < _; omega)
  · exact i64ok_of (by decide) (by decide)
variable {a : Int} {bs : List Int}
theorem pins_ask (M : Mnd) (p : Pk) (c : Int) : handleP (chainD (pinsD a bs)) chainL M 1 0 p c = if pkOk p then (if (spreadP (pinsD a bs) M 1 p c).err = 0 then
      match peerF chainL 1 (spreadP (pinsD a bs) M 1 p c).port with
      | some t => ⟨0, t, (spreadP (pinsD a bs) M 1 p c).p, learnP M (spreadP (pinsD a bs) M 1 p c).l⟩
      | none => badH 7 M else badH (spreadP (pinsD a bs) M 1 p c).err M) else badH 1 M := by
  have e : sendP ((chainD (pinsD a bs)).getD (1 : Int).toNat default) M 1 0 p c = spreadP (pinsD a bs) M 1 p c := rfl
  unfold handleP
  rw [(chain_pl (pinsD a bs) (Or.inr (Or.inr rfl))).1, e]
  rfl
/-- A new packet goes where it is told. -/
theorem pins_new {M : Mnd} {p : Pk} {c : Int} (hp : pkOk p = true) (hd : p.d = a) (hM : M.bk (1, p) = none) (h0 : 0 ≤ c) (h1 : c < (bs.length : Int)) : handleP (chainD (pinsD a bs)) chainL M 1 0 p c = ⟨0, (2, 0), ⟨p.s, bs.getD c.toNat 0, p.sp, p.dp⟩, learnP M (.back 1 p (bs.getD c.toNat 0))⟩ := by
  have e : spreadP (pinsD a bs) M 1 p c = ⟨0, 1, ⟨p.s, bs.getD c.toNat 0, p.sp, p.dp⟩, .back 1 p (bs.getD c.toNat 0)⟩ := by
    unfold spreadP
    rw [if_pos (by show (p.d == a) = true; rw [hd]; exact beq_self_eq_true _), hM]
    show (if (decide (0 ≤ c) && decide (c < (bs.length : Int))) = true then _ else _) = _
    rw [if_pos (by simp [h0, h1])]
    rfl
  rw [pins_ask, if_pos hp, e, if_pos rfl]
  simp [chain_peer1]
theorem pins_none {M : Mnd} {p : Pk} {c : Int} (hp : pkOk p = true) (hd : p.d = a) (hM : M.bk (1, p) = none) (h : ¬ (0 ≤ c ∧ c < (bs.length : Int))) : handleP (chainD (pinsD a bs)) chainL M 1 0 p c = badH 1 M := by
  have e : spreadP (pinsD a bs) M 1 p c = stayR 1 := by
    unfold spreadP
    rw [if_pos (by show (p.d == a) = true; rw [hd]; exact beq_self_eq_true _), hM]
    show (if (decide (0 ≤ c) && decide (c < (bs.length : Int))) = true then _ else _) = _
    rw [if_neg (by simpa using h)]
  rw [pins_ask, if_pos hp, e]
  rfl
/-- A packet that is pinned goes where it went. -/
theorem pins_old {M : Mnd} {p : Pk} {c b : Int} (hp : pkOk p = true) (hd : p.d = a) (hM : M.bk (1, p) = some b) : handleP (chainD (pinsD a bs)) chainL M 1 0 p c = ⟨0, (2, 0), ⟨p.s, b, p.sp, p.dp⟩, learnP M (.back 1 p b)⟩ := by
  have e : spreadP (pinsD a bs) M 1 p c = ⟨0, 1, ⟨p.s, b, p.sp, p.dp⟩, .back 1 p b⟩ := by
    unfold spreadP
    rw [if_pos (by show (p.d == a) = true; rw [hd]; exact beq_self_eq_true _), hM]
  rw [pins_ask, if_pos hp, e, if_pos rfl]
  simp [chain_peer1]
/-- What the back answers comes from the device's address. -/
theorem pins_back {M : Mnd} {p : Pk} {c b : Int} (hd : p.d = a) (hb : pkOk (flipP ⟨p.s, b, p.sp, p.dp⟩) = true) (hM : M.bk (1, p) = some b) : handleP (chainD (pinsD a bs)) chainL M 1 1 (flipP ⟨p.s, b, p.sp, p.dp⟩) c = ⟨0, (0, 0), flipP p, M⟩ := by
  have e : sendP ((chainD (pinsD a bs)).getD (1 : Int).toNat default) M 1 1 (flipP ⟨p.s, b, p.sp, p.dp⟩) c = passR 0 (flipP p) := by
    show gatherP (pinsD a bs) M 1 (flipP ⟨p.s, b, p.sp, p.dp⟩) = _
    unfold gatherP
    have k : (⟨(flipP ⟨p.s, b, p.sp, p.dp⟩).d, a, (flipP ⟨p.s, b, p.sp, p.dp⟩).dp, (flipP ⟨p.s, b, p.sp, p.dp⟩).sp⟩ : Pk) = p := by
      obtain ⟨s, d, sp, dp⟩ := p
      subst hd
      rfl
    show passR 0 (if M.bk (1, (⟨(flipP ⟨p.s, b, p.sp, p.dp⟩).d, a, (flipP ⟨p.s, b, p.sp, p.dp⟩).dp, (flipP ⟨p.s, b, p.sp, p.dp⟩).sp⟩ : Pk)) = some b then _ else _) = _
    rw [k, if_pos hM]
    obtain ⟨s, d, sp, dp⟩ := p
    subst hd
    rfl
  unfold handleP
  rw [(chain_pl (pinsD a bs) (Or.inr (Or.inr rfl))).2, e, if_pos rfl, if_pos hb]
  simp [chain_peer0, passR, learnP]
theorem pins_forget (M : Mnd) (p : Pk) (c : Int) : forgetP (chainD (pinsD a bs)) M 1 p c = if (M.bk (1, p)).isSome then ⟨0, { M with bk := delF M.bk (1, p) }⟩ else ⟨7, M⟩ := by
  unfold forgetP
  have ld : (chainD (pinsD a bs)).length = 3 := rfl
  have k1 : kindAt (chainD (pinsD a bs)) 1 = 5 := rfl
  rw [if_pos (by rw [ld]; omega), k1, if_neg (by decide), if_neg (by decide), if_pos rfl]
end Go.Proofs.Ytecdepgcklgfbaa
