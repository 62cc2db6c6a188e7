/-
  StepNat: what the calls of the law tell, as plain facts.
-/
import Derived.Test.YtepfckicaafilaaSe1
namespace Go.Proofs.Ytepfckicaafilaa
open Go.RowKit Go.Maps

def natD (a : Int) (pl : Nat) (h : pl < 256) : Dv := ⟨⟨#[]⟩, 4, a, pl, [], [], [], h, Nat.zero_le _⟩
variable {a : Int} {pl : Nat} {hl : pl < 256}
theorem nat_devC (h0 : 0 ≤ a) (h1 : a ≤ 15) (hp : 0 < pl) : devC (natD a pl hl) = 0 := by
  unfold devC devV natD
  simp [hasAddr, checkV_nil, backsFrom_nil, h0, h1, hp]
theorem nat_netV (h0 : 0 ≤ a) (h1 : a ≤ 15) (hp : 0 < pl) : netV (chainD (natD a pl hl)) chainL = 0 := by
  rw [chain_netV _ (Or.inr (Or.inl rfl)), nat_devC h0 h1 hp]
theorem addrs_nat (h0 : 0 ≤ a) (h1 : a ≤ 15) : AddrsOk (chainD (natD a pl hl)) := fun d hd => by
  simp only [chainD, List.mem_cons, List.not_mem_nil, or_false] at hd
  rcases hd with rfl | rfl | rfl
  · exact i64ok_of (by decide) (by decide)
  · exact i64ok_of (by show _ ≤ a; omega) (by show a < _; omega)
  · exact i64ok_of (by decide) (by decide)
theorem ownFrom_some {M : Mnd} {i : Int} {s : Int × Int} {j : Nat} : ∀ (m k : Nat), 8 - k ≤ m → ownFrom M i s k = some j → M.ow (i, (j : Int)) = some s ∧ j < 8
  | 0, k, h, e => by
    rw [ownFrom, dif_neg (by omega)] at e
    cases e
  | m + 1, k, h, e => by
    rw [ownFrom] at e
    by_cases hk : k < 8
    · rw [dif_pos hk] at e
      by_cases ho : M.ow (i, (k : Int)) = some s
      · rw [if_pos ho] at e
        obtain rfl := Option.some.inj e
        exact ⟨ho, hk⟩
      · rw [if_neg ho] at e
        exact ownFrom_some m (k + 1) (by omega) e
    · rw [dif_neg hk] at e
      cases e
theorem ownFrom_none {M : Mnd} {i : Int} {s : Int × Int} (hn : ∀ k, M.ow (i, k) = none) : ∀ (m k : Nat), 8 - k ≤ m → ownFrom M i s k = none
  | 0, k, h => by rw [ownFrom, dif_neg (by omega)]
  | m + 1, k, h => by
    rw [ownFrom]
    by_cases hk : k < 8
    · rw [dif_pos hk, if_neg (by rw [hn]; exact fun e => by cases e)]
      exact ownFrom_none hn m (k + 1) (by omega)
    · rw [dif_neg hk]
/-- Who has a port is known of ports of the pool alone. -/
def NatM (pl : Nat) (M : Mnd) : Prop := ∀ k s, M.ow (1, k) = some s → poB k = true ∧ pl.testBit k.toNat = true
theorem natM_no : NatM pl noM := fun k s h => by cases h
theorem natM_learn {M : Mnd} {k : Int} {s : Int × Int} (h : NatM pl M) (h1 : poB k = true) (h2 : pl.testBit k.toNat = true) : NatM pl (learnP M (.own 1 k s)) := fun k' s' e => by
  by_cases hk : k' = k
  · subst hk
    exact ⟨h1, h2⟩
  · have e' : putF M.ow (1, k) s (1, k') = some s' := e
    rw [putF_other _ _ (fun e => hk (by simpa using e))] at e'
    exact h k' s' e'
theorem nat_ask (M : Mnd) (p : Pk) (c : Int) : handleP (chainD (natD a pl hl)) chainL M 1 0 p c = if pkOk p then (if (hideP (natD a pl hl) M 1 p c).err = 0 then
      match peerF chainL 1 (hideP (natD a pl hl) M 1 p c).port with
      | some t => ⟨0, t, (hideP (natD a pl hl) M 1 p c).p, learnP M (hideP (natD a pl hl) M 1 p c).l⟩
      | none => badH 7 M else badH (hideP (natD a pl hl) M 1 p c).err M) else badH 1 M := by
  have e : sendP ((chainD (natD a pl hl)).getD (1 : Int).toNat default) M 1 0 p c = hideP (natD a pl hl) M 1 p c := rfl
  unfold handleP
  rw [(chain_pl (natD a pl hl) (Or.inr (Or.inl rfl))).1, e]
  rfl
/-- What is told of a packet that asks: an error and nothing is learnt, or it goes out from a port of the pool that nobody else has. -/
theorem nat_out {M : Mnd} {p : Pk} (c : Int) (hM : NatM pl M) (hp : pkOk p = true) : (∃ e, e ≠ 0 ∧ handleP (chainD (natD a pl hl)) chainL M 1 0 p c = badH e M) ∨
    ∃ k : Int, poB k = true ∧ pl.testBit k.toNat = true ∧ (M.ow (1, k) = none ∨ M.ow (1, k) = some (p.s, p.sp)) ∧ handleP (chainD (natD a pl hl)) chainL M 1 0 p c = ⟨0, (2, 0), ⟨a, p.d, k, p.dp⟩, learnP M (.own 1 k (p.s, p.sp))⟩ := by
  cases ho : ownFrom M 1 (p.s, p.sp) 0 with
  | some k =>
    obtain ⟨h1, h2⟩ := ownFrom_some 8 0 (by omega) ho
    obtain ⟨q1, q2⟩ := hM _ _ h1
    have e : hideP (natD a pl hl) M 1 p c = ⟨0, 1, ⟨a, p.d, (k : Int), p.dp⟩, .own 1 (k : Int) (p.s, p.sp)⟩ := by
      unfold hideP
      rw [ho]
      rfl
    refine Or.inr ⟨(k : Int), q1, q2, Or.inr h1, ?_⟩
    rw [nat_ask, if_pos hp, e, if_pos rfl]
    simp [chain_peer1]
  | none =>
    by_cases hpo : poolB (natD a pl hl) c = true
    · cases hoc : M.ow (1, c) with
      | some s =>
        have e : hideP (natD a pl hl) M 1 p c = stayR 6 := by
          unfold hideP
          rw [ho]
          show (if poolB (natD a pl hl) c = true then _ else _) = _
          rw [if_pos hpo, hoc]
          rfl
        refine Or.inl ⟨6, by decide, ?_⟩
        rw [nat_ask, if_pos hp, e]
        rfl
      | none =>
        have e : hideP (natD a pl hl) M 1 p c = ⟨0, 1, ⟨a, p.d, c, p.dp⟩, .own 1 c (p.s, p.sp)⟩ := by
          unfold hideP
          rw [ho]
          show (if poolB (natD a pl hl) c = true then _ else _) = _
          rw [if_pos hpo, hoc]
          rfl
        have hb : (poB c && pl.testBit c.toNat) = true := hpo
        simp only [Bool.and_eq_true] at hb
        refine Or.inr ⟨c, hb.1, hb.2, Or.inl hoc, ?_⟩
        rw [nat_ask, if_pos hp, e, if_pos rfl]
        simp [chain_peer1]
    · have e : hideP (natD a pl hl) M 1 p c = stayR 1 := by
        unfold hideP
        rw [ho]
        show (if poolB (natD a pl hl) c = true then _ else _) = _
        rw [if_neg hpo]
      refine Or.inl ⟨1, by decide, ?_⟩
      rw [nat_ask, if_pos hp, e]
      rfl
/-- What is answered to that port goes back to who asked. -/
theorem nat_back {M : Mnd} {p : Pk} {k c : Int} (h : pkOk (flipP ⟨a, p.d, k, p.dp⟩) = true) (hM : M.ow (1, k) = some (p.s, p.sp)) : handleP (chainD (natD a pl hl)) chainL M 1 1 (flipP ⟨a, p.d, k, p.dp⟩) c = ⟨0, (0, 0), flipP p, M⟩ := by
  have e : sendP ((chainD (natD a pl hl)).getD (1 : Int).toNat default) M 1 1 (flipP ⟨a, p.d, k, p.dp⟩) c = passR 0 (flipP p) := by
    show unhideP (natD a pl hl) M 1 (flipP ⟨a, p.d, k, p.dp⟩) = _
    unfold unhideP
    show (match M.ow (1, k) with | some s => if (a == a) = true then passR 0 ⟨p.d, s.1, p.dp, s.2⟩ else stayR 7 | none => stayR 7) = _
    rw [hM]
    simp [flipP]
  unfold handleP
  rw [(chain_pl (natD a pl hl) (Or.inr (Or.inl rfl))).2, e, if_pos rfl, if_pos h]
  simp [chain_peer0, passR, learnP]
/-- Whom the law takes for a port's owner. -/
def ownerOf (M : Mnd) : Int → Option Pk := fun k => (M.ow (1, k)).map fun s => ⟨s.1, 0, s.2, 0⟩
theorem owner_no : ownerOf noM = fun _ => none := rfl
theorem owner_learn (M : Mnd) (k : Int) (s : Int × Int) : ownerOf (learnP M (.own 1 k s)) = putF (ownerOf M) k ⟨s.1, 0, s.2, 0⟩ := by
  funext k'
  by_cases hk : k' = k
  · subst hk
    rw [putF_same]
    show (putF M.ow (1, k') s (1, k')).map _ = _
    rw [putF_same]
    rfl
  · rw [putF_other _ _ hk]
    show (putF M.ow (1, k) s (1, k')).map _ = _
    rw [putF_other _ _ (fun e => hk (by simpa using e))]
    rfl
theorem owner_was {M : Mnd} {k : Int} {p : Pk} (h : M.ow (1, k) = none ∨ M.ow (1, k) = some (p.s, p.sp)) : ownerOf M k = none ∨ ownerOf M k = some ⟨p.s, 0, p.sp, 0⟩ := by
  unfold ownerOf
  rcases h with h | h <;> rw [h]
  · exact Or.inl rfl
  · exact Or.inr rfl
/-- Where nobody has a port, the first goes out from port 0. -/
theorem nat_last {M : Mnd} (hn : ∀ k, ownerOf M k = none) (h0 : pl.testBit 0 = true) : handleP (chainD (natD a pl hl)) chainL M 1 0 zeroP 0 = ⟨0, (2, 0), ⟨a, 0, 0, 0⟩, learnP M (.own 1 0 (0, 0))⟩ := by
  have hm : ∀ k, M.ow (1, k) = none := fun k => by
    have := hn k
    unfold ownerOf at this
    cases e : M.ow (1, k) with
    | none => rfl
    | some s => rw [e] at this; cases this
  have hpo : poolB (natD a pl hl) 0 = true := by
    show (poB 0 && pl.testBit (0 : Int).toNat) = true
    rw [show (0 : Int).toNat = 0 from rfl, h0]
    rfl
  have e : hideP (natD a pl hl) M 1 zeroP 0 = ⟨0, 1, ⟨a, 0, 0, 0⟩, .own 1 0 (0, 0)⟩ := by
    unfold hideP
    rw [ownFrom_none hm 8 0 (by omega)]
    show (if poolB (natD a pl hl) 0 = true then _ else _) = _
    rw [if_pos hpo, hm]
    rfl
  rw [nat_ask, if_pos (by decide), e, if_pos rfl]
  simp [chain_peer1]
end Go.Proofs.Ytepfckicaafilaa
