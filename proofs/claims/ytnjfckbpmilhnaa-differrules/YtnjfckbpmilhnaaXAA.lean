/-
  What a set of numbers has, and what a match has: package match's calls addrs, ports, has, In and All.
-/
import Derived.Test.YtnjfckbpmilhnaaProg
import Derived.WalkKit
import Derived.WalkSpells
import Derived.WalkLawsBesides
import Derived.Handy
import Derived.BigQuiet
import Derived.Deep.QuietTactic
import Derived.Deep.RegionHeld3
import Derived.Deep.DeepCutAuto
import Derived.Laws.AppendOwn
import Derived.RangeFuncNested
import Derived.RangeFuncBound
import Derived.RangeFuncCalls
import Derived.RangeFuncLeaves
import Derived.Shelf.Abstract
import Derived.Shelf.RegionOpen
import Derived.OwnWalkIn
import Derived.TacticsInMore
import Derived.LoopNIn
import Derived.LoopIn
import Derived.Maps.OwnSet
import Derived.DeepKeys5
import Derived.Deep.AppendLies
import Derived.Deep.RegionLaw
namespace Go.Proofs.Ytnjfckbpmilhnaa
open Go.RowKit

/-- A set: its bits, its size. -/
abbrev st (b n : Int) : Value := .agg #[.int .i64 b, .int .i64 n]
/-- A match. -/
abbrev mt (a b c d : Nat) : Value := .agg #[.int .u16 (a : Int), .int .u16 (b : Int), .int .u8 (c : Int), .int .u8 (d : Int)]
abbrev pk (a b c d : Int) : Value := .agg #[.int .i64 a, .int .i64 b, .int .i64 c, .int .i64 d]
/-- Is a number in a set? -/
def hasB (b : Nat) (n : Int) : Bool := decide (0 ≤ n) && b.testBit n.toNat

theorem chain {W0 W w' : World} (hb : Below W.heap.size W w') (h : Below W0.heap.size W0 W) : Below W0.heap.size W0 w' := h.trans (hb.mono h.size)
theorem Below.alloc' {W0 w : World} (h : Below W0.heap.size W0 w) (o : Obj) : Below W0.heap.size W0 (w.alloc o) := h.alloc h.size o

/-- Four cells lie in a block of their own. -/
def Four (w : World) (n : Nat) (a b c d : Value) : Prop :=
  n < w.heap.size ∧ w.cell? ⟨n, 0, none⟩ = some a ∧ w.cell? ⟨n, 1, none⟩ = some b ∧ w.cell? ⟨n, 2, none⟩ = some c ∧ w.cell? ⟨n, 3, none⟩ = some d
theorem keepFour {W w' : World} {n : Nat} {a b c d : Value} (hb : Below W.heap.size W w') (h : Four W n a b c d) : Four w' n a b c d := by
  obtain ⟨h0, h1, h2, h3, h4⟩ := h
  exact ⟨Nat.lt_of_lt_of_le h0 hb.size, (hb.cell (p := ⟨n, 0, none⟩) h0).trans h1, (hb.cell (p := ⟨n, 1, none⟩) h0).trans h2, (hb.cell (p := ⟨n, 2, none⟩) h0).trans h3, (hb.cell (p := ⟨n, 3, none⟩) h0).trans h4⟩
theorem Four.drew {w : World} {n : Nat} {a b c d : Value} (h : Four w n a b c d) : Four w.drew n a b c d := h
theorem four_new (w : World) (a b c d : Value) (t : TypeId) : Four (w.alloc (.cells #[a, b, c, d] t)) w.heap.size a b c d :=
  ⟨by simp, by simp [go_sem], by simp [go_sem], by simp [go_sem], by simp [go_sem]⟩
theorem allocFour {w : World} {n : Nat} {a b c d : Value} (h : Four w n a b c d) (o : Obj) : Four (w.alloc o) n a b c d := keepFour ((Below.refl _ _).alloc (Nat.le_refl _) o) h
theorem two_fours {w' : World} {n1 n2 : Nat} {a1 b1 c1 d1 a2 b2 c2 d2 : Value} (h1 : Four w' n1 a1 b1 c1 d1) (h2 : Four w' n2 a2 b2 c2 d2) :
    w'.cell? ⟨n1, 0, none⟩ = some a1 ∧ w'.cell? ⟨n1, 1, none⟩ = some b1 ∧ w'.cell? ⟨n1, 2, none⟩ = some c1 ∧ w'.cell? ⟨n1, 3, none⟩ = some d1 ∧
    w'.cell? ⟨n2, 0, none⟩ = some a2 ∧ w'.cell? ⟨n2, 1, none⟩ = some b2 ∧ w'.cell? ⟨n2, 2, none⟩ = some c2 ∧ w'.cell? ⟨n2, 3, none⟩ = some d2 :=
  ⟨h1.2.1, h1.2.2.1, h1.2.2.2.1, h1.2.2.2.2, h2.2.1, h2.2.2.1, h2.2.2.2.1, h2.2.2.2.2⟩

theorem addrs_any (b : Nat) (w : World) (h1 : b < 65536) :
    Calls Try.prog 37 #[.int .u16 (b : Int)] w fun e w' => e = .returned (st b 16) ∧ Below w.heap.size w w' := by
  go_enter Try.func37, Try.ntmps37
  go_wp2_with fail
  exact bodyPost_ret (v := st b 16) (by simp [results, Try.results37, go_sem]) rfl ⟨rfl, by go_grown⟩
theorem ports_any (b : Nat) (w : World) (h1 : b < 256) :
    Calls Try.prog 35 #[.int .u8 (b : Int)] w fun e w' => e = .returned (st b 8) ∧ Below w.heap.size w w' := by
  go_enter Try.func35, Try.ntmps35
  go_wp2_with fail
  exact bodyPost_ret (v := st b 8) (by simp [results, Try.results35, go_sem]) rfl ⟨rfl, by go_grown⟩
theorem shr_any (b n : Nat) (hb : b < 2 ^ 62) : Op.shift .shr .i64 (b : Int) .i64 (n : Int) = (pure (.int .i64 ((b >>> n : Nat) : Int)) : Sem Value) := by
  by_cases h : n ≤ 64
  · rw [shift_shr _ _ _ _ (by omega) (by show (n : Int) ≤ 64; omega), Nat.shiftRight_eq_div_pow, Int.toNat_natCast]
    simp
  · have hp : 2 ^ 64 ≤ 2 ^ n := Nat.pow_le_pow_right (by omega) (by omega)
    have e : b >>> n = 0 := by rw [Nat.shiftRight_eq_div_pow, Nat.div_eq_of_lt (by omega)]
    have hm : min n IntKind.i64.bits = 64 := by show min n 64 = 64; omega
    have hf : (b : Int).fdiv (2 ^ 64) = 0 := by
      rw [Int.fdiv_eq_ediv_of_nonneg _ (by decide), Int.ediv_eq_zero_of_lt (by omega) (by omega)]
    rw [e]
    simp only [Op.shift, Int.toNat_natCast, hm, hf]
    rw [if_neg (by omega)]
    rfl
theorem bits_one (q : Nat) (hq : q < 2 ^ 62) : (Go.bits .and .i64 (q : Int) 1 == 1) = (q % 2 == 1) := by
  have e1 : BitVec.ofInt 64 (q : Int) = BitVec.ofNat 64 q := by simp
  have hm : (BitVec.ofNat 64 q &&& BitVec.ofInt 64 1).toNat = q % 2 := by
    rw [show BitVec.ofInt 64 1 = BitVec.ofNat 64 1 by rfl, BitVec.toNat_and, BitVec.toNat_ofNat, BitVec.toNat_ofNat, Nat.mod_eq_of_lt (show q < 2 ^ 64 by omega)]
    exact Nat.and_one_is_mod q
  have e2 : Go.bits .and .i64 (q : Int) 1 = ((q % 2 : Nat) : Int) := by
    show IntKind.i64.wrap ((BitVec.ofInt 64 (q : Int) &&& BitVec.ofInt 64 1).toNat : Int) = _
    rw [e1, hm, IntWalk.i64_in _ (by omega)]
  rw [e2]
  have : q % 2 = 0 ∨ q % 2 = 1 := by omega
  rcases this with h | h <;> rw [h] <;> rfl

set_option maxHeartbeats 400000 in
theorem has_any (b : Nat) (n z : Int) (w : World) (h1 : b < 65536) :
    Calls Try.prog 40 #[st b z, .int .i64 n] w fun e w' => e = .returned (.bool (hasB b n)) ∧ Below w.heap.size w w' := by
  by_cases hn : 0 ≤ n
  · obtain ⟨k, rfl⟩ : ∃ k : Nat, n = k := ⟨n.toNat, by omega⟩
    have t : decide (0 ≤ (k : Int)) = true := by simp
    have hs := shr_any b k (by omega)
    have hle : b >>> k ≤ b := by rw [Nat.shiftRight_eq_div_pow]; exact Nat.div_le_self _ _
    have he : Hid ((Go.bits .and .i64 ((b >>> k : Nat) : Int) 1 == 1) = hasB b k) := by
      show _ = _
      rw [bits_one _ (by omega), hasB, t, Bool.true_and, Int.toNat_natCast, Nat.testBit, Nat.one_and_eq_mod_two]
      have : (b >>> k) % 2 = 0 ∨ (b >>> k) % 2 = 1 := by omega
      rcases this with h | h <;> rw [h] <;> rfl
    clear hn hle
    generalize b >>> k = q at *
    go_enter Try.func40, Try.ntmps40
    go_wp2_with fail
    go_ret
    refine ⟨?_, by go_grown⟩
    rw [← he.out]
    simp
  · have t : decide (0 ≤ n) = false := by simp; omega
    have e : hasB b n = false := by unfold hasB; rw [t, Bool.false_and]
    rw [e]
    go_enter Try.func40, Try.ntmps40
    go_wp2_with fail
    go_ret
    exact ⟨rfl, by go_grown⟩

end Go.Proofs.Ytnjfckbpmilhnaa



namespace Go.Proofs.Ytnjfckbpmilhnaa
open Go.RowKit

/-- What In tells. -/
def inB (a b c d : Nat) (p q r s : Int) : Bool := hasB a p && hasB b q && hasB c r && hasB d s
/-- A rule: does it let through what its match has? -/
structure Rl where
  ok : Bool
  a : Nat
  b : Nat
  c : Nat
  d : Nat
  ha : a < 65536
  hb : b < 65536
  hc : c < 256
  hd : d < 256
def inR (r : Rl) (p q s t : Int) : Bool := inB r.a r.b r.c r.d p q s t
/-- What a list of rules says of a packet. -/
def letsB : List Rl → Int → Int → Int → Int → Bool
  | [], _, _, _, _ => false
  | r :: l, p, q, s, t => if inR r p q s t then r.ok else letsB l p q s t
def allR (ok : Bool) : Rl := ⟨ok, 65535, 65535, 255, 255, by omega, by omega, by omega, by omega⟩
abbrev rcells (r : Rl) : List Value := [.bool r.ok, .int .u16 (r.a : Int), .int .u16 (r.b : Int), .int .u8 (r.c : Int), .int .u8 (r.d : Int)]
abbrev rv (r : Rl) : Value := .agg #[.bool r.ok, .int .u16 (r.a : Int), .int .u16 (r.b : Int), .int .u8 (r.c : Int), .int .u8 (r.d : Int)]
def cellsR (xs : List Rl) : List Value := xs.flatMap fun r => rcells r

theorem cellsR_cons (r : Rl) (l : List Rl) : cellsR (r :: l) = rcells r ++ cellsR l := rfl
theorem cellsR_append (a b : List Rl) : cellsR (a ++ b) = cellsR a ++ cellsR b := by simp [cellsR]
theorem cellsR_length : ∀ xs : List Rl, (cellsR xs).length = xs.length * 5
  | [] => rfl
  | r :: l => by
    have := cellsR_length l
    rw [cellsR_cons, List.length_append, this]
    simp
    omega
theorem cellsR_one : ∀ xs : List Rl, ∀ u ∈ cellsR xs, u.oneCell' = true
  | [], u, h => by simp [cellsR] at h
  | r :: l, u, h => by
    rw [cellsR_cons, List.mem_append] at h
    rcases h with h | h
    · simp only [rcells, List.mem_cons, List.not_mem_nil, or_false] at h
      rcases h with rfl | rfl | rfl | rfl | rfl <;> rfl
    · exact cellsR_one l u h
theorem cellsR_at : ∀ (xs : List Rl) (k : Nat) (r : Rl), xs[k]? = some r →
    (cellsR xs)[k * 5]? = some (.bool r.ok) ∧ (cellsR xs)[k * 5 + 1]? = some (.int .u16 (r.a : Int)) ∧ (cellsR xs)[k * 5 + 2]? = some (.int .u16 (r.b : Int)) ∧ (cellsR xs)[k * 5 + 3]? = some (.int .u8 (r.c : Int)) ∧ (cellsR xs)[k * 5 + 4]? = some (.int .u8 (r.d : Int))
  | [], k, r, h => by simp at h
  | x :: l, 0, r, h => by
    obtain rfl : x = r := by simpa using h
    exact ⟨rfl, rfl, rfl, rfl, rfl⟩
  | x :: l, k + 1, r, h => by
    have ih := cellsR_at l k r (by simpa using h)
    have sh : ∀ j, (cellsR (x :: l))[(k + 1) * 5 + j]? = (cellsR l)[k * 5 + j]? := fun j => by
      rw [cellsR_cons, List.getElem?_append_right (by simp; omega)]
      congr 1
      simp
      omega
    have s0 := sh 0
    simp only [Nat.add_zero] at s0
    rw [s0, sh 1, sh 2, sh 3, sh 4]
    exact ih

/-- So the rules lie in block b, from cell o on. -/
def RAt (w : World) (b o : Nat) (xs : List Rl) : Prop := ∀ j u, (cellsR xs)[j]? = some u → w.cell? ⟨b, o + j, none⟩ = some u
/-- A slice that holds the rules, below block number base. -/
def Rules (base : Nat) (w : World) (v : Value) (xs : List Rl) : Prop :=
  ∃ A cap, v = .slice A xs.length cap ∧ (A = none → cap = 0) ∧ xs.length ≤ cap ∧ cap ≤ maxLen ∧ (xs ≠ [] → ∃ b o, A = some ⟨b, o, none⟩ ∧ b < base ∧ RAt w b o xs)

theorem RAt.at {w : World} {b o : Nat} {xs : List Rl} (h : RAt w b o xs) {k : Nat} {r : Rl} (hk : xs[k]? = some r) :
    w.cell? ⟨b, o + k * 5, none⟩ = some (.bool r.ok) ∧ w.cell? ⟨b, o + k * 5 + 1, none⟩ = some (.int .u16 (r.a : Int)) ∧ w.cell? ⟨b, o + k * 5 + 2, none⟩ = some (.int .u16 (r.b : Int)) ∧ w.cell? ⟨b, o + k * 5 + 3, none⟩ = some (.int .u8 (r.c : Int)) ∧ w.cell? ⟨b, o + k * 5 + 4, none⟩ = some (.int .u8 (r.d : Int)) := by
  obtain ⟨h0, h1, h2, h3, h4⟩ := cellsR_at xs k r hk
  exact ⟨h _ _ h0, h _ _ h1, h _ _ h2, h _ _ h3, h _ _ h4⟩
theorem RAt.below {base : Nat} {w w' : World} {b o : Nat} {xs : List Rl} (h : RAt w b o xs) (hb : Below base w w') (hl : b < base) : RAt w' b o xs :=
  fun j u hj => (hb.cell (p := ⟨b, _, none⟩) hl).trans (h j u hj)
theorem Rules.below {base : Nat} {w w' : World} {v : Value} {xs : List Rl} (h : Rules base w v xs) (hb : Below base w w') : Rules base w' v xs := by
  obtain ⟨A, cap, e, h0, h1, h2, h3⟩ := h
  refine ⟨A, cap, e, h0, h1, h2, fun hn => ?_⟩
  obtain ⟨b, o, ea, hl, hr⟩ := h3 hn
  exact ⟨b, o, ea, hl, hr.below hb hl⟩
theorem Rules.mono {base base' : Nat} {w : World} {v : Value} {xs : List Rl} (h : Rules base w v xs) (hb : base ≤ base') : Rules base' w v xs := by
  obtain ⟨A, cap, e, h0, h1, h2, h3⟩ := h
  refine ⟨A, cap, e, h0, h1, h2, fun hn => ?_⟩
  obtain ⟨b, o, ea, hl, hr⟩ := h3 hn
  exact ⟨b, o, ea, by omega, hr⟩
/-- A row of a call's own, read as rules. -/
theorem Rules.own {base : Nat} {w : World} {t : TypeId} {v : Value} {xs : List Rl} (h : w.ownsRow base t 5 v xs.length (cellsR xs)) : Rules w.heap.size w v xs := by
  obtain ⟨hl, hc⟩ := h
  rcases hc with ⟨rfl, h0⟩ | ⟨g, cap, cur, rfl, hb, hg, hn, hcap, hs, ht⟩
  · exact ⟨none, 0, by rw [h0], fun _ => rfl, by omega, by unfold maxLen; omega, fun hn => absurd (List.length_eq_zero_iff.1 h0) hn⟩
  · refine ⟨_, cap, rfl, (fun e => by cases e), hn, hcap, fun _ => ⟨g, 0, rfl, (Array.getElem?_eq_some_iff.1 hg).1, fun j u hj => ?_⟩⟩
    have hown : w.ownsRow base t 5 (.slice (some ⟨g, 0, none⟩) xs.length cap) xs.length (cellsR xs) := ⟨hl, .inr ⟨g, cap, cur, rfl, hb, hg, hn, hcap, hs, ht⟩⟩
    have := hown.cells (g := g) rfl j u hj
    rw [Addr.add_lit] at this
    exact this

/-! ### what a list says -/
theorem inR_all {ok : Bool} {p q s t : Int} (hp : 0 ≤ p ∧ p < 16) (hq : 0 ≤ q ∧ q < 16) (hs : 0 ≤ s ∧ s < 8) (ht : 0 ≤ t ∧ t < 8) : inR (allR ok) p q s t = true := by
  have one : ∀ (n : Int) (m : Nat), 0 ≤ n → n < m → hasB (2 ^ m - 1) n = true := by
    intro n m h0 h1
    unfold hasB
    rw [Nat.testBit_two_pow_sub_one]
    simp
    omega
  unfold inR allR inB
  have h1 := one p 16 hp.1 hp.2
  have h2 := one q 16 hq.1 hq.2
  have h3 := one s 8 hs.1 hs.2
  have h4 := one t 8 ht.1 ht.2
  simp only [show (2 : Nat) ^ 16 - 1 = 65535 from rfl, show (2 : Nat) ^ 8 - 1 = 255 from rfl] at h1 h2 h3 h4
  simp [h1, h2, h3, h4]
theorem letsB_append : ∀ (l m : List Rl) (p q s t : Int), (∃ r ∈ l, inR r p q s t = true) → letsB (l ++ m) p q s t = letsB l p q s t
  | [], _, _, _, _, _, h => by obtain ⟨r, hr, _⟩ := h; cases hr
  | x :: l, m, p, q, s, t, h => by
    simp only [List.cons_append, letsB]
    by_cases hx : inR x p q s t = true
    · rw [if_pos hx, if_pos hx]
    · rw [if_neg hx, if_neg hx]
      refine letsB_append l m p q s t ?_
      obtain ⟨r, hr, hi⟩ := h
      rcases List.mem_cons.1 hr with rfl | hr
      · exact absurd hi hx
      · exact ⟨r, hr, hi⟩
theorem letsB_none : ∀ (l m : List Rl) (p q s t : Int), (∀ r ∈ l, inR r p q s t = false) → letsB (l ++ m) p q s t = letsB m p q s t
  | [], _, _, _, _, _, _ => rfl
  | x :: l, m, p, q, s, t, h => by
    simp only [List.cons_append, letsB]
    rw [if_neg (by rw [h x (List.mem_cons_self ..)]; simp)]
    exact letsB_none l m p q s t (fun r hr => h r (List.mem_cons_of_mem _ hr))
/-- Behind a rule for all that lets nothing through nothing is looked at. -/
theorem letsB_ended (l m : List Rl) {p q s t : Int} (h : inR (allR false) p q s t = true) : letsB (l ++ (allR false :: m)) p q s t = letsB l p q s t := by
  by_cases hx : ∃ r ∈ l, inR r p q s t = true
  · exact letsB_append l _ p q s t hx
  · have hx' : ∀ r ∈ l, inR r p q s t = false := fun r hr => by
      cases hi : inR r p q s t
      · rfl
      · exact absurd ⟨r, hr, hi⟩ hx
    rw [letsB_none l _ p q s t hx', letsB, if_pos h]
    have := letsB_none l [] p q s t hx'
    rw [List.append_nil] at this
    rw [this]
    rfl
end Go.Proofs.Ytnjfckbpmilhnaa



namespace Go.Proofs.Ytnjfckbpmilhnaa
open Go.RowKit Go.Shelf
attribute [local go_sem] Oper.semAt_some

abbrev IR := Nat × Rl
def encIR (x : IR) : Array Value := #[.int .i64 (x.1 : Int), rv x.2]
/-- What has come when k rounds are over. -/
def came (xs : List Rl) (k : Nat) : List IR := (List.range k).map fun j => (xs.length - 1 - j, (xs[xs.length - 1 - j]?).getD (allR false))
theorem came_succ (xs : List Rl) (k : Nat) : came xs (k + 1) = came xs k ++ [(xs.length - 1 - k, (xs[xs.length - 1 - k]?).getD (allR false))] := by simp [came, List.range_succ]
theorem came_length (xs : List Rl) (k : Nat) : (came xs k).length = k := by simp [came]
/-- What a round keeps for the iterator. -/
def KpB (base Bs : Nat) (v : Value) (W W' : World) : Prop := Below base W W' ∧ (Boxed W Bs 22 v → Boxed W' Bs 22 v)
theorem kpB_t {base Bs : Nat} {v : Value} {A B C : World} (h : KpB base Bs v A B) (k : KpB base Bs v B C) : KpB base Bs v A C := ⟨h.1.trans k.1, fun x => k.2 (h.2 x)⟩
theorem kpB_refl {base Bs : Nat} {v : Value} (A : World) : KpB base Bs v A A := ⟨Below.refl _ _, id⟩

set_option maxRecDepth 100000 in
set_option maxHeartbeats 2000000 in
theorem back1_in (F : Fence) (n : Nat) (hF : F.fn 33) (hro : F.round = none) (hn : 1 ≤ n) (l Bs base b o cap : Nat) (xs : List Rl) (hlen : xs.length ≤ 1099511627776) (hb : b < base) (J Jx : List IR → World → Prop)
    (hY : ∀ pre x W, J pre W → pre.length < xs.length → YieldAt F (n - 1) Try.prog l (encIR x) W fun e W' =>
      (e = .returned (.bool true) ∧ J (pre ++ [x]) W' ∧ KpB base Bs (.slice (some ⟨b, o, none⟩) xs.length cap) W W') ∨ (e = .returned (.bool false) ∧ Jx (pre ++ [x]) W'))
    (W : World) (hBs : Boxed W Bs 22 (.slice (some ⟨b, o, none⟩) xs.length cap)) (hr : RAt W b o xs) (h0 : J [] W) :
    CallsIn F n Try.prog 33 #[.func (.yield l) #[] #[], .pointer (some ⟨Bs, 0, none⟩)] W fun e W' => (∃ v, e = .returned v) ∧
      ((∃ ys, ys = came xs xs.length ∧ J ys W') ∨ (∃ pre, (∃ k, k ≤ xs.length ∧ pre = came xs k) ∧ Jx pre W')) := by
  have c0 := hBs.cell
  refine callsIn_of_wp Try.func33 rfl hF ?_ hro
  simp only [Try.ntmps33, List.size_toArray, List.length_cons, List.length_nil, Nat.reduceAdd, Nat.reduceSub, Array.replicate_succ, Array.replicate_zero, List.push_toArray, List.append_toArray, List.nil_append, List.cons_append]
  gi_wp2
  gi_loopw [3] (fun i wr => ∃ (m k : Nat) (I : Int), m + k = xs.length ∧ i = .int .i64 I ∧ I = (m : Int) - 1 ∧ J (came xs k) wr ∧ KpB base Bs (.slice (some ⟨b, o, none⟩) xs.length cap) W wr)
    (fun i _ => (intOf i + 1).toNat)
  case atStart => exact ⟨xs.length, 0, _, by omega, rfl, rfl, h0, kpB_refl _⟩
  case round =>
    obtain ⟨m, k, I, hmk, rfl, hI, hJs, hK⟩ := hrel
    have c1 := (hK.2 hBs).cell
    cases m with
    | zero =>
      obtain rfl : k = xs.length := by omega
      obtain rfl : I = -1 := by omega
      clear hI
      gi_wp2
      go_end0
      exact ⟨⟨_, rfl⟩, .inl ⟨_, rfl, hJs⟩⟩
    | succ j =>
      have hj : j < xs.length := by omega
      obtain ⟨r, hxj⟩ : ∃ r, xs[j]? = some r := ⟨_, List.getElem?_eq_getElem hj⟩
      obtain ⟨d0, d1, d2, d3, d4⟩ := (hr.below hK.1 hb).at hxj
      have hce : came xs (k + 1) = came xs k ++ [(j, r)] := by
        rw [came_succ, show xs.length - 1 - k = j by omega, hxj]
        rfl
      obtain ⟨fn, tmps, assign, body, hy, hR⟩ := hY _ (j, r) wr hJs (by rw [came_length]; omega)
      simp only [encIR] at hy
      obtain rfl : I = (j : Int) := by omega
      clear hI
      gi_wp2
      refine hR.mono ?_
      rintro e W3 (⟨rfl, hJ3, hk3⟩ | ⟨rfl, hJx3⟩)
      · gi_wp2
        go_roundw
        case rel => exact ⟨j, k + 1, _, by omega, rfl, rfl, by rw [hce]; exact hJ3, kpB_t hK hk3⟩
        case measure => simp [intOf]
      · gi_wp2
        refine bodyPost_ret (results_none rfl _ _ _) rfl ?_
        exact ⟨⟨_, rfl⟩, .inr ⟨_, ⟨k + 1, by omega, hce.symm⟩, hJx3⟩⟩

set_option maxRecDepth 100000 in
set_option maxHeartbeats 1000000 in
theorem back0_in (F : Fence) (n : Nat) (hF : F.fn 33) (hro : F.round = none) (l Bs : Nat) (A : Option Addr) (cap : Nat) (J : List IR → World → Prop) (W : World) (hBs : Boxed W Bs 22 (.slice A 0 cap)) (h0 : J [] W) :
    CallsIn F n Try.prog 33 #[.func (.yield l) #[] #[], .pointer (some ⟨Bs, 0, none⟩)] W fun e W' => (∃ v, e = .returned v) ∧ J [] W' := by
  have c0 := hBs.cell
  refine callsIn_of_wp Try.func33 rfl hF ?_ hro
  simp only [Try.ntmps33, List.size_toArray, List.length_cons, List.length_nil, Nat.reduceAdd, Nat.reduceSub, Array.replicate_succ, Array.replicate_zero, List.push_toArray, List.append_toArray, List.nil_append, List.cons_append]
  gi_wp2
  gi_loopw [3] (fun i wr => i = .int .i64 (-1) ∧ J [] wr) (fun _ _ => 0)
  case atStart => exact ⟨rfl, h0⟩
  case round =>
    obtain ⟨rfl, hJs⟩ := hrel
    gi_wp2
    go_end0
    exact ⟨⟨_, rfl⟩, hJs⟩

set_option maxHeartbeats 1000000 in
/-- slices.Backward: the slice is boxed, the function captures the box. -/
theorem back_in (F : Fence) (n : Nat) (hF : F.fn 27) (hro : F.round = none) (A : Option Addr) (len cap : Nat) (w : World) :
    CallsIn F n Try.prog 27 #[.slice A len cap] w fun e w' => e = .returned (.func (.func 33) #[] #[.pointer (some ⟨w.heap.size, 0, none⟩)]) ∧ w' = w.alloc (.cells #[.slice A len cap] 22) := by
  refine callsIn_of_wp Try.func27 rfl hF ?_ hro
  simp only [Try.ntmps27, List.size_toArray, List.length_cons, List.length_nil, Nat.reduceAdd, Nat.reduceSub, Array.replicate_succ, Array.replicate_zero, List.push_toArray, List.append_toArray, List.nil_append, List.cons_append]
  gi_wp2
  go_ret
  exact ⟨rfl, rfl⟩

/-- What slices.Backward hands back: all rules, from the last one on; or the first of these. -/
theorem back_stops (F : Fence) (n : Nat) (hF : F.fn 33) (hro : F.round = none) (hn : 1 ≤ n) (Bs base : Nat) (v : Value) (xs : List Rl) (hlen : xs.length ≤ 1099511627776) (w : World) (hbase : base ≤ w.heap.size)
    (hB : Boxed w Bs 22 v) (hR : Rules base w v xs) :
    SeqStopsK F n Try.prog 33 #[.pointer (some ⟨Bs, 0, none⟩)] encIR (KpB base Bs v) (fun ys => ys = came xs xs.length)
      (fun pre => ∃ k, k ≤ xs.length ∧ pre = came xs k) xs.length w := fun l J Jx W hW _ _ hY h0 => by
  have hB' : Boxed W Bs 22 v := (hW.block Bs hB.lt).trans hB
  obtain ⟨A, cap, rfl, h1, h2, h3, h4⟩ := hR.below (hW.mono hbase)
  by_cases hx : xs = []
  · subst hx
    exact (back0_in F n hF hro l Bs A cap J W hB' h0).mono fun e W' ⟨he, hj⟩ => ⟨he, .inl ⟨_, rfl, hj⟩⟩
  · obtain ⟨b, o, rfl, hb, hr⟩ := h4 hx
    exact back1_in F n hF hro hn l Bs base b o cap xs hlen hb J Jx hY W hB' hr h0
end Go.Proofs.Ytnjfckbpmilhnaa



namespace Go.Proofs.Ytnjfckbpmilhnaa

/-- A node: its variable, what it is if that is false, what it is if that is true. -/
abbrev Nd := Nat × Nat × Nat
def nd (ns : List Nd) (f : Nat) : Nd := ns.getD f (0, 0, 0)
abbrev nv (ns : List Nd) (f : Nat) : Nat := (nd ns f).1
abbrev nl (ns : List Nd) (f : Nat) : Nat := (nd ns f).2.1
abbrev nh (ns : List Nd) (f : Nat) : Nat := (nd ns f).2.2

structure Wf (vars : Nat) (ns : List Nd) : Prop where
  len : 2 ≤ ns.length
  n0 : nd ns 0 = (vars, 0, 0)
  n1 : nd ns 1 = (vars, 1, 1)
  va : ∀ f, 2 ≤ f → f < ns.length → nv ns f < vars
  lo : ∀ f, 2 ≤ f → f < ns.length → nl ns f < f
  hi : ∀ f, 2 ≤ f → f < ns.length → nh ns f < f
  ne : ∀ f, 2 ≤ f → f < ns.length → nl ns f ≠ nh ns f
  vlo : ∀ f, 2 ≤ f → f < ns.length → nv ns f < nv ns (nl ns f)
  vhi : ∀ f, 2 ≤ f → f < ns.length → nv ns f < nv ns (nh ns f)
  uniq : ∀ f g, 2 ≤ f → f < ns.length → 2 ≤ g → g < ns.length → nd ns f = nd ns g → f = g

abbrev Env := Nat → Bool
def setE (e : Env) (i : Nat) (b : Bool) : Env := fun j => if j = i then b else e j
theorem setE_same (e : Env) (i : Nat) (b : Bool) : setE e i b i = b := by simp [setE]
theorem setE_ne (e : Env) {i j : Nat} (b : Bool) (h : j ≠ i) : setE e i b j = e j := by simp [setE, h]
theorem setE_self (e : Env) (i : Nat) : setE e i (e i) = e := by
  funext j
  unfold setE
  split
  · rename_i h; rw [h]
  · rfl

def evF (ns : List Nd) : Nat → Nat → Env → Bool
  | 0, f, _ => f == 1
  | k + 1, f, e => if f ≤ 1 then f == 1 else if e (nv ns f) then evF ns k (nh ns f) e else evF ns k (nl ns f) e
def ev (ns : List Nd) (f : Nat) (e : Env) : Bool := evF ns f f e

variable {vars : Nat} {ns ns' : List Nd}

theorem evF_enough (h : Wf vars ns) : ∀ (k f : Nat) (e : Env), f < ns.length → f ≤ k → evF ns k f e = ev ns f e := by
  intro k
  induction k using Nat.strongRecOn with
  | _ k ih =>
    intro f e hf hk
    by_cases h1 : f ≤ 1
    · unfold ev
      match k, f, h1 with
      | 0, 0, _ => rfl
      | k + 1, 0, _ => rfl
      | 0, 1, _ => rfl
      | k + 1, 1, _ => rfl
    · have l1 := h.lo f (by omega) hf
      have l2 := h.hi f (by omega) hf
      obtain ⟨m, rfl⟩ : ∃ m, f = m + 1 := ⟨f - 1, by omega⟩
      obtain ⟨k', rfl⟩ : ∃ k', k = k' + 1 := ⟨k - 1, by omega⟩
      unfold ev
      rw [evF, if_neg h1, evF, if_neg h1, ih k' (by omega) _ _ (by omega) (by omega), ih k' (by omega) _ _ (by omega) (by omega)]
      by_cases hm : m < k' + 1
      · rw [ih m (by omega) _ _ (by omega) (by omega), ih m (by omega) _ _ (by omega) (by omega)]
      · omega

theorem ev0 (ns : List Nd) (e : Env) : ev ns 0 e = false := rfl
theorem ev1 (ns : List Nd) (e : Env) : ev ns 1 e = true := by simp [ev, evF]

theorem ev_node (h : Wf vars ns) {f : Nat} (h2 : 2 ≤ f) (hf : f < ns.length) (e : Env) : ev ns f e = if e (nv ns f) then ev ns (nh ns f) e else ev ns (nl ns f) e := by
  have l1 := h.lo f h2 hf
  have l2 := h.hi f h2 hf
  have := evF_enough h (f + 1) f e hf (by omega)
  rw [← this, evF, if_neg (by omega), evF_enough h f _ e (by omega) (by omega), evF_enough h f _ e (by omega) (by omega)]

theorem va_le (h : Wf vars ns) {f : Nat} (hf : f < ns.length) : nv ns f ≤ vars := by
  by_cases h2 : 2 ≤ f
  · exact Nat.le_of_lt (h.va f h2 hf)
  · match f, h2 with
    | 0, _ => simp [nv, h.n0]
    | 1, _ => simp [nv, h.n1]
    | f + 2, h2 => omega

theorem va_lt (h : Wf vars ns) {f : Nat} (hf : f < ns.length) (hv : nv ns f < vars) : 2 ≤ f := by
  by_cases h2 : 2 ≤ f
  · exact h2
  · match f, h2 with
    | 0, _ => simp [nv, h.n0] at hv
    | 1, _ => simp [nv, h.n1] at hv
    | f + 2, h2 => omega

theorem ev_dep (h : Wf vars ns) : ∀ (f : Nat), f < ns.length → ∀ e e' : Env, (∀ i, nv ns f ≤ i → i < vars → e i = e' i) → ev ns f e = ev ns f e' := by
  intro f
  induction f using Nat.strongRecOn with
  | _ f ih =>
    intro hf e e' he
    by_cases h2 : 2 ≤ f
    · have l1 := h.lo f h2 hf
      have l2 := h.hi f h2 hf
      have v1 := h.vlo f h2 hf
      have v2 := h.vhi f h2 hf
      rw [ev_node h h2 hf, ev_node h h2 hf, he _ (Nat.le_refl _) (h.va f h2 hf)]
      rw [ih _ l2 (by omega) e e' (fun i hi hv => he i (by omega) hv), ih _ l1 (by omega) e e' (fun i hi hv => he i (by omega) hv)]
    · match f, h2 with
      | 0, _ => rfl
      | 1, _ => rw [ev1, ev1]
      | f + 2, h2 => omega

theorem ev_skip (h : Wf vars ns) {f : Nat} (hf : f < ns.length) {i : Nat} (hi : i < nv ns f) (e : Env) (b : Bool) : ev ns f (setE e i b) = ev ns f e :=
  ev_dep h f hf _ _ (fun j hj _ => setE_ne e b (by omega))

/-- What a node is where its variable is set. -/
theorem ev_set (h : Wf vars ns) {f : Nat} (h2 : 2 ≤ f) (hf : f < ns.length) (e : Env) (b : Bool) : ev ns f (setE e (nv ns f) b) = if b then ev ns (nh ns f) e else ev ns (nl ns f) e := by
  have l1 := h.lo f h2 hf
  have l2 := h.hi f h2 hf
  rw [ev_node h h2 hf, setE_same, ev_skip h (by omega) (h.vhi f h2 hf), ev_skip h (by omega) (h.vlo f h2 hf)]

/-- BRYANT. -/
theorem canon_to (h : Wf vars ns) : ∀ (n f g : Nat), f < n → g < n → f < ns.length → g < ns.length → (∀ e, ev ns f e = ev ns g e) → f = g := by
  intro n
  induction n with
  | zero => intro f g hn; omega
  | succ n ih =>
    have one : ∀ f g, f < n + 1 → 2 ≤ f → f < ns.length → g < ns.length → nv ns f < nv ns g → (∀ e, ev ns f e = ev ns g e) → False := by
      intro f g hn h2 hf hg hv he
      have l1 := h.lo f h2 hf
      have l2 := h.hi f h2 hf
      refine h.ne f h2 hf (ih _ _ (by omega) (by omega) (by omega) (by omega) ?_)
      intro e
      have a1 := ev_set h h2 hf e false
      have a2 := ev_set h h2 hf e true
      simp only [if_true, Bool.false_eq_true, if_false] at a1 a2
      rw [← a1, ← a2, he, he, ev_skip h hg hv, ev_skip h hg hv]
    intro f g hfn hgn hf hg he
    rcases Nat.lt_trichotomy (nv ns f) (nv ns g) with hv | hv | hv
    · exact (one f g hfn (va_lt h hf (Nat.lt_of_lt_of_le hv (va_le h hg))) hf hg hv he).elim
    · by_cases h2 : 2 ≤ f
      · have g2 : 2 ≤ g := va_lt h hg (by rw [← hv]; exact h.va f h2 hf)
        have l1 := h.lo f h2 hf
        have l2 := h.hi f h2 hf
        have m1 := h.lo g g2 hg
        have m2 := h.hi g g2 hg
        have e1 : nl ns f = nl ns g := ih _ _ (by omega) (by omega) (by omega) (by omega) (fun e => by
          have a1 := ev_set h h2 hf e false
          have a2 := ev_set h g2 hg e false
          simp only [Bool.false_eq_true, if_false] at a1 a2
          rw [← a1, ← a2, he, hv])
        have e2 : nh ns f = nh ns g := ih _ _ (by omega) (by omega) (by omega) (by omega) (fun e => by
          have a1 := ev_set h h2 hf e true
          have a2 := ev_set h g2 hg e true
          simp only [if_true] at a1 a2
          rw [← a1, ← a2, he, hv])
        exact h.uniq f g h2 hf g2 hg (Prod.ext hv (Prod.ext e1 e2))
      · by_cases g2 : 2 ≤ g
        · have := va_lt h hf (by rw [hv]; exact h.va g g2 hg)
          omega
        · have e0 := he (fun _ => false)
          match f, g, h2, g2 with
          | 0, 0, _, _ => rfl
          | 1, 1, _, _ => rfl
          | 0, 1, _, _ => rw [ev0, ev1] at e0; cases e0
          | 1, 0, _, _ => rw [ev0, ev1] at e0; cases e0
          | f + 2, _, h2, _ => omega
          | _, g + 2, _, g2 => omega
    · exact (one g f hgn (va_lt h hg (Nat.lt_of_lt_of_le hv (va_le h hf))) hg hf hv (fun e => (he e).symm)).elim

theorem canon (h : Wf vars ns) {f g : Nat} (hf : f < ns.length) (hg : g < ns.length) (he : ∀ e, ev ns f e = ev ns g e) : f = g :=
  canon_to h (max f g + 1) f g (by omega) (by omega) hf hg he

/-! ### more nodes -/
/-- ns' has ns's nodes first. -/
def Ext (ns ns' : List Nd) : Prop := ∃ more, ns' = ns ++ more
theorem Ext.refl (ns : List Nd) : Ext ns ns := ⟨[], by simp⟩
theorem Ext.trans {a b c : List Nd} (h : Ext a b) (k : Ext b c) : Ext a c := by
  obtain ⟨x, rfl⟩ := h
  obtain ⟨y, rfl⟩ := k
  exact ⟨x ++ y, by simp⟩
theorem Ext.len (h : Ext ns ns') : ns.length ≤ ns'.length := by
  obtain ⟨x, rfl⟩ := h
  simp
theorem Ext.nd (h : Ext ns ns') {f : Nat} (hf : f < ns.length) : nd ns' f = nd ns f := by
  obtain ⟨x, rfl⟩ := h
  simp [Ytnjfckbpmilhnaa.nd, List.getElem?_append_left hf]
theorem Ext.va (h : Ext ns ns') {f : Nat} (hf : f < ns.length) : nv ns' f = nv ns f := by rw [nv, h.nd hf]
theorem Ext.ev (h : Ext ns ns') (wf : Wf vars ns) (wf' : Wf vars ns') : ∀ (f : Nat), f < ns.length → ∀ e, ev ns' f e = ev ns f e := by
  intro f
  induction f using Nat.strongRecOn with
  | _ f ih =>
    intro hf e
    by_cases h2 : 2 ≤ f
    · have l1 := wf.lo f h2 hf
      have l2 := wf.hi f h2 hf
      have hl := h.len
      rw [ev_node wf' h2 (by omega), ev_node wf h2 hf, show nv ns' f = nv ns f from h.va hf, show nh ns' f = nh ns f by rw [nh, h.nd hf], show nl ns' f = nl ns f by rw [nl, h.nd hf],
        ih _ l2 (by omega), ih _ l1 (by omega)]
    · match f, h2 with
      | 0, _ => rfl
      | 1, _ => rw [ev1, ev1]
      | f + 2, h2 => omega

/-- A node that isn't there yet, and is in order, may be laid behind the others. -/
theorem wf_snoc (h : Wf vars ns) {n : Nd} (hv : n.1 < vars) (hlo : n.2.1 < ns.length) (hhi : n.2.2 < ns.length) (hne : n.2.1 ≠ n.2.2) (v1 : n.1 < nv ns n.2.1) (v2 : n.1 < nv ns n.2.2)
    (hnew : ∀ f, 2 ≤ f → f < ns.length → nd ns f ≠ n) : Wf vars (ns ++ [n]) := by
  have X : Ext ns (ns ++ [n]) := ⟨[n], rfl⟩
  have last : nd (ns ++ [n]) ns.length = n := by simp [nd]
  have len' : (ns ++ [n]).length = ns.length + 1 := by simp
  have h2 := h.len
  refine ⟨by rw [len']; omega, by rw [X.nd (by omega)]; exact h.n0, by rw [X.nd (by omega)]; exact h.n1, ?_, ?_, ?_, ?_, ?_, ?_, ?_⟩
  · intro f f2 hf
    by_cases hl : f < ns.length
    · rw [nv, X.nd hl]; exact h.va f f2 hl
    · obtain rfl : f = ns.length := by omega
      rw [nv, last]; exact hv
  · intro f f2 hf
    by_cases hl : f < ns.length
    · rw [nl, X.nd hl]; exact h.lo f f2 hl
    · obtain rfl : f = ns.length := by omega
      rw [nl, last]; exact hlo
  · intro f f2 hf
    by_cases hl : f < ns.length
    · rw [nh, X.nd hl]; exact h.hi f f2 hl
    · obtain rfl : f = ns.length := by omega
      rw [nh, last]; exact hhi
  · intro f f2 hf
    by_cases hl : f < ns.length
    · rw [nl, nh, X.nd hl]; exact h.ne f f2 hl
    · obtain rfl : f = ns.length := by omega
      rw [nl, nh, last]; exact hne
  · intro f f2 hf
    by_cases hl : f < ns.length
    · have := h.lo f f2 hl
      rw [nv, nl, X.nd hl, nv, X.nd (Nat.lt_trans this hl)]; exact h.vlo f f2 hl
    · obtain rfl : f = ns.length := by omega
      rw [nv, nl, last, nv, X.nd hlo]; exact v1
  · intro f f2 hf
    by_cases hl : f < ns.length
    · have := h.hi f f2 hl
      rw [nv, nh, X.nd hl, nv, X.nd (Nat.lt_trans this hl)]; exact h.vhi f f2 hl
    · obtain rfl : f = ns.length := by omega
      rw [nv, nh, last, nv, X.nd hhi]; exact v2
  · intro f g f2 hf g2 hg he
    by_cases hl : f < ns.length
    · by_cases gl : g < ns.length
      · rw [X.nd hl, X.nd gl] at he
        exact h.uniq f g f2 hl g2 gl he
      · obtain rfl : g = ns.length := by omega
        rw [X.nd hl, last] at he
        exact (hnew f f2 hl he).elim
    · obtain rfl : f = ns.length := by omega
      by_cases gl : g < ns.length
      · rw [X.nd gl, last] at he
        exact (hnew g g2 gl he.symm).elim
      · omega

theorem wf_start (vars : Nat) : Wf vars [(vars, 0, 0), (vars, 1, 1)] := by
  refine ⟨by simp, rfl, rfl, ?_, ?_, ?_, ?_, ?_, ?_, ?_⟩ <;> (intro f; intros; simp only [List.length_cons, List.length_nil] at *; omega)

/-- f is what a node says, in ns. -/
structure IsNode (ns : List Nd) (v l h f : Nat) : Prop where
  lt : f < ns.length
  ev : ∀ e, ev ns f e = if e v then ev ns h e else ev ns l e
  va : v ≤ nv ns f

theorem isNode_same {v l : Nat} (hl : l < ns.length) (hv : v < nv ns l) : IsNode ns v l l l := ⟨hl, fun e => by simp, Nat.le_of_lt hv⟩
theorem isNode_there (h : Wf vars ns) {v l u f : Nat} (f2 : 2 ≤ f) (hf : f < ns.length) (hn : nd ns f = (v, l, u)) : IsNode ns v l u f :=
  ⟨hf, fun e => by rw [ev_node h f2 hf]; simp only [nv, nl, nh, hn], by simp [nv, hn]⟩
end Go.Proofs.Ytnjfckbpmilhnaa



namespace Go.Proofs.Ytnjfckbpmilhnaa
open Go.RowKit Go.Maps

theorem Try.u3 : Try.prog.underlying 3 = some (.int .i64) := by kernel_rfl
theorem Try.u4 : Try.prog.underlying 4 = some .bool := by kernel_rfl
theorem Try.u39 : Try.prog.underlying 61 = some (.map 59 3) := by kernel_rfl
theorem Try.u45 : Try.prog.underlying 74 = some (.map 89 3) := by kernel_rfl
theorem Try.u46 : Try.prog.underlying 75 = some (.map 110 3) := by kernel_rfl
theorem Try.u47 : Try.prog.underlying 73 = some (.map 3 3) := by kernel_rfl
theorem Try.u38 : Try.prog.underlying 60 = some (.slice 59) := by kernel_rfl
theorem zero3 (w : World) : (zeroValue 3).run Try.prog w = .ok (.int .i64 0) w := by kernel_rfl
theorem Try.laidOut : laidOutB Try.prog = true := by kernel_rfl
theorem Try.size : Try.prog.types.size = 112 := by kernel_rfl
theorem law3 : Keyed Try.prog 3 := int_keyed Try.u3
theorem Try.cells3 : Try.prog.cellsOf 3 = 1 := by kernel_rfl
theorem Try.cells4 : Try.prog.cellsOf 4 = 1 := by kernel_rfl
theorem law37 : Keyed Try.prog 59 := Keyed.of_law (deep_law_gate (k := 59) Try.laidOut (by rw [Try.size]; decide) (by rw [Try.size]; decide) (by kernel_rfl) (by kernel_rfl))
theorem law56 : Keyed Try.prog 89 := Keyed.of_law (deep_law_gate (k := 89) Try.laidOut (by rw [Try.size]; decide) (by rw [Try.size]; decide) (by kernel_rfl) (by kernel_rfl))
theorem law62 : Keyed Try.prog 110 := Keyed.of_law (deep_law_gate (k := 110) Try.laidOut (by rw [Try.size]; decide) (by rw [Try.size]; decide) (by kernel_rfl) (by kernel_rfl))

theorem wf_nat {n : Nat} (h : n < 9223372036854775808) : (Lit.int .i64 (n : Int)).wf = true := WalkArith.wf_i64 (by omega)

/-- How values of α are keys of type k. -/
structure KeyEnc (k : TypeId) (α : Type) where
  enc : α → Value
  ok : α → Prop
  lit : α → Lit
  law : Keyed Try.prog k
  key : ∀ x, ok x → keyOf Try.prog k (enc x) = some (lit x)
  inj : ∀ x y, enc x = enc y → x = y

/-- Block b is a map of at most n entries, which are f. -/
def MapIs {k : TypeId} {α : Type} (E : KeyEnc k α) (w : World) (b n : Nat) (f : α → Option Nat) : Prop :=
  ∃ D : DataW Unit, w.ownsMap Try.prog k (plainElem Try.prog 3) b n D ∧ ∀ x, E.ok x → Maps.has D (E.lit x) = (f x).isSome ∧ D.atKey (E.lit x) (.lit (.int .i64 0)) = .lit (.int .i64 (((f x).getD 0 : Nat) : Int))

open Classical in
noncomputable def upd {α : Type} (f : α → Option Nat) (x : α) (v : Nat) : α → Option Nat := fun y => if y = x then some v else f y

section
variable {k : TypeId} {α : Type} {E : KeyEnc k α} {w w' : World} {b n : Nat} {f : α → Option Nat}

theorem MapIs.lt (h : MapIs E w b n f) : b < w.heap.size := by
  obtain ⟨D, h, _⟩ := h
  exact h.lt
theorem MapIs.isMap (h : MapIs E w b n f) : ∃ es clock, w.heap[b]? = some (.map es clock) := by
  obtain ⟨D, ⟨es, clock, hb, _⟩, _⟩ := h
  exact ⟨es, clock, hb⟩
theorem MapIs.mono (h : MapIs E w b n f) {n' : Nat} (hn : n ≤ n') : MapIs E w b n' f := by
  obtain ⟨D, h, r⟩ := h
  exact ⟨D, h.mono hn, r⟩
theorem MapIs.same (h : MapIs E w b n f) (hb : w'.heap[b]? = w.heap[b]?) : MapIs E w' b n f := by
  obtain ⟨D, ⟨es, clock, h1, r⟩, r'⟩ := h
  exact ⟨D, ⟨es, clock, hb.trans h1, r⟩, r'⟩
theorem mapIs_made (E : KeyEnc k α) (w : World) : MapIs E (w.alloc (.map #[] 0)) w.heap.size 0 (fun _ => none) :=
  ⟨.map [], World.ownsMap_made w _ _ _, fun _ _ => ⟨rfl, rfl⟩⟩

theorem MapIs.look (h : MapIs E w b n f) {t : TypeId} (ht : Try.prog.underlying t = some (.map k 3)) {x : α} (hx : E.ok x) :
    (Instr.lookup t (.map (some b)) (E.enc x) true).run Try.prog w = .ok (.tuple #[.int .i64 (((f x).getD 0 : Nat) : Int), .bool (f x).isSome]) w := by
  obtain ⟨D, h, r⟩ := h
  obtain ⟨v, ps, hrun, hv⟩ := h.look_ok E.law ht (zero3 w) (plainElem_int Try.u3 (by decide)) (E.key x hx)
  rw [(r x hx).2] at hv
  obtain ⟨c, rfl, hc, _⟩ := plainElem_int_inv Try.u3 hv
  simp only [Prod.mk.injEq, DataW.lit.injEq, Lit.int.injEq, true_and] at hc
  rw [hrun, (r x hx).1, hc.1]

theorem MapIs.store (h : MapIs E w b n f) {t : TypeId} (ht : Try.prog.underlying t = some (.map k 3)) (hn : n < maxLen) {x : α} (hx : E.ok x) {v : Nat} (hv : v < 9223372036854775808) :
    ∃ w', (Instr.mapUpdate t (.map (some b)) (E.enc x) (.int .i64 (v : Int))).run Try.prog w = .ok () w' ∧ MapIs E w' b (n + 1) (upd f x v) ∧ w.grownBy w' (some b) := by
  obtain ⟨D, h, r⟩ := h
  obtain ⟨w', hrun, hown, hgrow⟩ := h.update E.law ht hn (E.key x hx) (plainElem_int Try.u3 (wf_nat hv))
  refine ⟨w', hrun, ⟨_, hown, fun y hy => ?_⟩, hgrow⟩
  by_cases e : y = x
  · subst e
    rw [has_put_same h.isMap (E.law.key (E.key y hy)), atKey_put_same h.isMap (E.law.key (E.key y hy))]
    simp [upd]
  · have hne : E.lit y ≠ E.lit x := fun hl => by
      have k1 := E.key y hy
      rw [hl] at k1
      exact e (E.inj _ _ (E.law.inj k1 (E.key x hx)))
    rw [has_put_other hne, atKey_put_other hne]
    simp [upd, e, r y hy]
end

def ok3 (n : Nd) : Prop := n.1 < 9223372036854775808 ∧ n.2.1 < 9223372036854775808 ∧ n.2.2 < 9223372036854775808
abbrev agg3 (n : Nd) : Value := .agg #[.int .i64 (n.1 : Int), .int .i64 (n.2.1 : Int), .int .i64 (n.2.2 : Int)]
theorem agg3_inj (x y : Nd) (h : agg3 x = agg3 y) : x = y := by
  obtain ⟨a, b, c⟩ := x
  obtain ⟨d, e, f⟩ := y
  simp at h
  simp
  omega
noncomputable def litOf (k : TypeId) (v : Value) : Lit := (keyOf Try.prog k v).getD (.bool false)
theorem litOf_some {k : TypeId} {v : Value} (hs : (keyOf Try.prog k v).isSome = true) : keyOf Try.prog k v = some (litOf k v) := by
  unfold litOf
  cases hk : keyOf Try.prog k v with
  | none => rw [hk] at hs; cases hs
  | some l => rfl
theorem Try.fuel : ∃ m, Try.prog.types.size + 1 = m + 2 := ⟨111, by rw [Try.size]⟩
theorem key37 (n : Nd) (h : ok3 n) : keyOf Try.prog 59 (agg3 n) = some (litOf 59 (agg3 n)) := by
  obtain ⟨h1, h2, h3⟩ := h
  have w1 := wf_nat h1
  have w2 := wf_nat h2
  have w3 := wf_nat h3
  obtain ⟨m, hm⟩ := Try.fuel
  refine litOf_some ?_
  unfold keyOf
  simp only [Try.underlying59]
  rw [if_pos (by kernel_rfl), hm]
  unfold Program.keyLits
  simp only [Try.underlying59, Value.cells]
  rw [if_pos ⟨by kernel_rfl, by kernel_rfl⟩]
  simp [Program.keyLits, Try.underlying3, w1, w2, w3, Try.cells3]
theorem key56 (n : Nd) (h : ok3 n) : keyOf Try.prog 89 (agg3 n) = some (litOf 89 (agg3 n)) := by
  obtain ⟨h1, h2, h3⟩ := h
  have w1 := wf_nat h1
  have w2 := wf_nat h2
  have w3 := wf_nat h3
  obtain ⟨m, hm⟩ := Try.fuel
  refine litOf_some ?_
  unfold keyOf
  simp only [Try.underlying89]
  rw [if_pos (by kernel_rfl), hm]
  unfold Program.keyLits
  simp only [Try.underlying89, Value.cells]
  rw [if_pos ⟨by kernel_rfl, by kernel_rfl⟩]
  simp [Program.keyLits, Try.underlying3, w1, w2, w3, Try.cells3]

abbrev Mx := Nat × Nat × Bool
def okx (n : Mx) : Prop := n.1 < 9223372036854775808 ∧ n.2.1 < 9223372036854775808
abbrev aggx (n : Mx) : Value := .agg #[.int .i64 (n.1 : Int), .int .i64 (n.2.1 : Int), .bool n.2.2]
theorem aggx_inj (x y : Mx) (h : aggx x = aggx y) : x = y := by
  obtain ⟨a, b, c⟩ := x
  obtain ⟨d, e, f⟩ := y
  simp at h
  obtain ⟨h1, h2, rfl⟩ := h
  simp
  omega
theorem key62 (n : Mx) (h : okx n) : keyOf Try.prog 110 (aggx n) = some (litOf 110 (aggx n)) := by
  obtain ⟨h1, h2⟩ := h
  have w1 := wf_nat h1
  have w2 := wf_nat h2
  obtain ⟨m, hm⟩ := Try.fuel
  refine litOf_some ?_
  unfold keyOf
  simp only [Try.underlying110]
  rw [if_pos (by kernel_rfl), hm]
  unfold Program.keyLits
  simp only [Try.underlying110, Value.cells]
  rw [if_pos ⟨by kernel_rfl, by kernel_rfl⟩]
  simp [Program.keyLits, Try.underlying3, Try.underlying4, w1, w2, Try.cells3, Try.cells4]
noncomputable def nodeE : KeyEnc 59 Nd := ⟨agg3, ok3, fun n => litOf 59 (agg3 n), law37, key37, agg3_inj⟩
noncomputable def choiceE : KeyEnc 89 Nd := ⟨agg3, ok3, fun n => litOf 89 (agg3 n), law56, key56, agg3_inj⟩
noncomputable def mixE : KeyEnc 110 Mx := ⟨aggx, okx, fun n => litOf 110 (aggx n), law62, key62, aggx_inj⟩
noncomputable def intE : KeyEnc 3 Nat := ⟨fun n => .int .i64 (n : Int), fun n => n < 9223372036854775808, fun n => .int .i64 (n : Int), law3, fun _ h => keyOf_int_mk Try.u3 (wf_nat h), fun x y h => by simp at h; omega⟩
end Go.Proofs.Ytnjfckbpmilhnaa



namespace Go.Proofs.Ytnjfckbpmilhnaa
open Go.RowKit Go.Maps

def cellsOf (ns : List Nd) : List Value := ns.flatMap fun n => [.int .i64 (n.1 : Int), .int .i64 (n.2.1 : Int), .int .i64 (n.2.2 : Int)]
theorem cellsOf_append (a b : List Nd) : cellsOf (a ++ b) = cellsOf a ++ cellsOf b := by simp [cellsOf]
theorem cellsOf_length : ∀ ns : List Nd, (cellsOf ns).length = ns.length * 3
  | [] => rfl
  | n :: r => by
    have := cellsOf_length r
    simp only [cellsOf, List.flatMap_cons, List.length_append, List.length_cons, List.length_nil] at this ⊢
    omega
theorem cellsOf_at : ∀ (ns : List Nd) (f : Nat), f < ns.length →
    (cellsOf ns)[f * 3]? = some (.int .i64 (nv ns f : Int)) ∧ (cellsOf ns)[f * 3 + 1]? = some (.int .i64 (nl ns f : Int)) ∧ (cellsOf ns)[f * 3 + 2]? = some (.int .i64 (nh ns f : Int))
  | [], f, h => by simp at h
  | _ :: _, 0, _ => ⟨rfl, rfl, rfl⟩
  | n :: r, f + 1, h => by
    have ih := cellsOf_at r f (by simpa using h)
    have e : cellsOf (n :: r) = [.int .i64 (n.1 : Int), .int .i64 (n.2.1 : Int), .int .i64 (n.2.2 : Int)] ++ cellsOf r := rfl
    have en : nd (n :: r) (f + 1) = nd r f := by simp [nd]
    rw [e, nv, nl, nh, en]
    refine ⟨?_, ?_, ?_⟩
    · rw [List.getElem?_append_right (by simp; omega)]; simpa [show (f + 1) * 3 - 3 = f * 3 by omega] using ih.1
    · rw [List.getElem?_append_right (by simp; omega)]; simpa [show (f + 1) * 3 + 1 - 3 = f * 3 + 1 by omega] using ih.2.1
    · rw [List.getElem?_append_right (by simp; omega)]; simpa [show (f + 1) * 3 + 2 - 3 = f * 3 + 2 by omega] using ih.2.2

/-- The block of the nodes of the arena that lies in block a. -/
def rowOf (w : World) (a : Nat) : Nat :=
  match w.heap[a]? with
  | some (.cells cs _ _) => ((cs[2]?).bind Value.ownBlock).getD 0
  | _ => 0
theorem rowOf_same {w w' : World} {a : Nat} (h : w'.heap[a]? = w.heap[a]?) : rowOf w' a = rowOf w a := by simp only [rowOf, h]

def NumOk (ns : List Nd) (num : Nd → Option Nat) : Prop := ∀ n f, num n = some f ↔ 2 ≤ f ∧ f < ns.length ∧ nd ns f = n

/-- An arena, in block a, its map in block M. -/
structure Ar (base a M vars most : Nat) (w : World) (ns : List Nd) : Prop where
  wf : Wf vars ns
  le : ns.length ≤ most
  vars1 : 1 ≤ vars
  vars16 : vars ≤ 16
  most4 : most ≤ 40000
  lowA : base ≤ a
  lowM : base ≤ M
  blk : ∃ g cap, w.heap[a]? = some (.cells #[.int .i64 (vars : Int), .int .i64 (most : Int), .slice (some ⟨g, 0, none⟩) ns.length cap, .map (some M)] 63 (0, 0)) ∧
    w.ownsRow base 59 3 (.slice (some ⟨g, 0, none⟩) ns.length cap) ns.length (cellsOf ns)
  map : ∃ num, MapIs nodeE w M ns.length num ∧ NumOk ns num

section
variable {base a M vars most : Nat} {w w' : World} {ns : List Nd}

theorem Ar.lta (h : Ar base a M vars most w ns) : a < w.heap.size := by
  obtain ⟨g, cap, hb, _⟩ := h.blk
  exact (Array.getElem?_eq_some_iff.1 hb).1
theorem Ar.ltM (h : Ar base a M vars most w ns) : M < w.heap.size := by
  obtain ⟨num, hm, _⟩ := h.map
  exact hm.lt
theorem Ar.row (h : Ar base a M vars most w ns) : ∃ cur, w.heap[rowOf w a]? = some (.cells cur 59 (0, 0)) ∧ base ≤ rowOf w a ∧ rowOf w a < w.heap.size := by
  obtain ⟨g, cap, hb, hr⟩ := h.blk
  have e : rowOf w a = g := by simp [rowOf, hb, Value.ownBlock]
  rw [e]
  rcases hr.2 with ⟨hv, _⟩ | ⟨g', cap', cur, hv, hbase, hg, _⟩
  · cases hv
  · simp only [Value.slice.injEq, Option.some.injEq, Addr.mk.injEq, and_true, true_and] at hv
    obtain ⟨rfl, _⟩ := hv
    exact ⟨cur, hg, hbase, (Array.getElem?_eq_some_iff.1 hg).1⟩
theorem Ar.ne_row_a (h : Ar base a M vars most w ns) : rowOf w a ≠ a := fun e => by
  obtain ⟨cur, hg, _⟩ := h.row
  obtain ⟨g, cap, hb, _⟩ := h.blk
  rw [e, hb] at hg
  simp at hg
theorem Ar.ne_row_M (h : Ar base a M vars most w ns) : rowOf w a ≠ M := fun e => by
  obtain ⟨cur, hg, _⟩ := h.row
  obtain ⟨num, hm, _⟩ := h.map
  obtain ⟨es, clock, hb⟩ := hm.isMap
  rw [e, hb] at hg
  simp at hg
theorem Ar.ne_a_M (h : Ar base a M vars most w ns) : a ≠ M := fun e => by
  obtain ⟨num, hm, _⟩ := h.map
  obtain ⟨es, clock, hb⟩ := hm.isMap
  obtain ⟨g, cap, hb', _⟩ := h.blk
  rw [e, hb] at hb'
  simp at hb'
/-- The arena stays what it is where its three blocks do. -/
theorem Ar.same (h : Ar base a M vars most w ns) (ha : w'.heap[a]? = w.heap[a]?) (hM : w'.heap[M]? = w.heap[M]?) (hr : w'.heap[rowOf w a]? = w.heap[rowOf w a]?) : Ar base a M vars most w' ns := by
  obtain ⟨g, cap, hb, hrow⟩ := h.blk
  have e : rowOf w a = g := by simp [rowOf, hb, Value.ownBlock]
  rw [e] at hr
  refine ⟨h.wf, h.le, h.vars1, h.vars16, h.most4, h.lowA, h.lowM, ⟨g, cap, ha.trans hb, ?_⟩, ?_⟩
  · refine ⟨hrow.1, ?_⟩
    rcases hrow.2 with ⟨hv, _⟩ | ⟨g', cap', cur, hv, hbase, hg, rest⟩
    · cases hv
    · simp only [Value.slice.injEq, Option.some.injEq, Addr.mk.injEq, and_true, true_and] at hv
      obtain ⟨rfl, rfl⟩ := hv
      exact .inr ⟨g, cap, cur, rfl, hbase, hr.trans hg, rest⟩
  · obtain ⟨num, hm, hn⟩ := h.map
    exact ⟨num, hm.same hM, hn⟩

/-- What the walk reads of an arena. -/
theorem Ar.reads (h : Ar base a M vars most w ns) : ∃ cap, w.cell? ⟨a, 0, none⟩ = some (.int .i64 (vars : Int)) ∧ w.cell? ⟨a, 1, none⟩ = some (.int .i64 (most : Int)) ∧
    w.cell? ⟨a, 2, none⟩ = some (.slice (some ⟨rowOf w a, 0, none⟩) ns.length cap) ∧ w.cell? ⟨a, 3, none⟩ = some (.map (some M)) ∧ (∀ j, w.frozen? ⟨a, j, none⟩ = false) ∧
    ∀ f, f < ns.length → w.cell? ⟨rowOf w a, f * 3, none⟩ = some (.int .i64 (nv ns f : Int)) ∧ w.cell? ⟨rowOf w a, f * 3 + 1, none⟩ = some (.int .i64 (nl ns f : Int)) ∧ w.cell? ⟨rowOf w a, f * 3 + 2, none⟩ = some (.int .i64 (nh ns f : Int)) := by
  obtain ⟨g, cap, hb, hrow⟩ := h.blk
  have e : rowOf w a = g := by simp [rowOf, hb, Value.ownBlock]
  rw [e]
  refine ⟨cap, ?_, ?_, ?_, ?_, ?_, ?_⟩
  · rw [cell_of_row w a 0 _ _ _ hb]; rfl
  · rw [cell_of_row w a 1 _ _ _ hb]; rfl
  · rw [cell_of_row w a 2 _ _ _ hb]; rfl
  · rw [cell_of_row w a 3 _ _ _ hb]; rfl
  · intro j
    simp [World.frozen?, hb]
  · intro f hf
    obtain ⟨h1, h2, h3⟩ := cellsOf_at ns f hf
    refine ⟨?_, ?_, ?_⟩
    · rw [hrow.cellAt _ (by omega), h1]
    · rw [hrow.cellAt _ (by omega), h2]
    · rw [hrow.cellAt _ (by omega), h3]
end

/-- Where a builder and its arena lie. -/
structure Cfg where
  base : Nat
  a : Nat
  b : Nat
  M : Nat
  c1 : Option Nat
  c2 : Option Nat
  c3 : Option Nat
  vars : Nat
  most : Nat
def Cfg.mine (C : Cfg) (i : Nat) : Prop := i = C.a ∨ i = C.b ∨ i = C.M ∨ C.c1 = some i ∨ C.c2 = some i ∨ C.c3 = some i

def OMap {k : TypeId} {α : Type} (E : KeyEnc k α) (w : World) (c : Option Nat) (n : Nat) (f : α → Option Nat) : Prop := ∀ b, c = some b → MapIs E w b n f

structure Bu (C : Cfg) (w : World) (ns : List Nd) (full : Bool) (N : Nat) (m1 : Nd → Option Nat) (m2 : Mx → Option Nat) (m3 : Nat → Option Nat) : Prop where
  ar : Ar C.base C.a C.M C.vars C.most w ns
  blk : w.heap[C.b]? = some (.cells #[.pointer (some ⟨C.a, 0, none⟩), .bool full, .map C.c1, .map C.c2, .map C.c3] 77 (0, 0))
  lowB : C.base ≤ C.b
  o1 : OMap choiceE w C.c1 N m1
  o2 : OMap mixE w C.c2 N m2
  o3 : OMap intE w C.c3 N m3
  low1 : ∀ i, C.c1 = some i → C.base ≤ i ∧ i ≠ C.M ∧ C.c2 ≠ some i ∧ C.c3 ≠ some i
  low2 : ∀ i, C.c2 = some i → C.base ≤ i ∧ i ≠ C.M ∧ C.c1 ≠ some i ∧ C.c3 ≠ some i
  low3 : ∀ i, C.c3 = some i → C.base ≤ i ∧ i ≠ C.M ∧ C.c1 ≠ some i ∧ C.c2 ≠ some i
  full_len : full = true → ns.length = C.most

/-- From w to w' nothing has turned but what is the builder's, its arena's and new. -/
structure Kp (C : Cfg) (w w' : World) : Prop where
  os : w'.os = w.os
  tape : w'.tape = w.tape
  output : w'.output = w.output
  size : w.heap.size ≤ w'.heap.size
  blk : ∀ i, i < w.heap.size → ¬ C.mine i → i ≠ rowOf w C.a → w'.heap[i]? = w.heap[i]?
  row : rowOf w' C.a = rowOf w C.a ∨ w.heap.size ≤ rowOf w' C.a

section
variable {C : Cfg} {w w' w'' : World} {ns ns' : List Nd} {full full' : Bool} {N N' : Nat} {m1 m1' : Nd → Option Nat} {m2 m2' : Mx → Option Nat} {m3 m3' : Nat → Option Nat}

theorem Kp.refl (C : Cfg) (w : World) : Kp C w w := ⟨rfl, rfl, rfl, Nat.le_refl _, fun _ _ _ _ => rfl, Or.inl rfl⟩
theorem Kp.trans (h : Kp C w w') (k : Kp C w' w'') : Kp C w w'' := by
  refine ⟨k.os.trans h.os, k.tape.trans h.tape, k.output.trans h.output, Nat.le_trans h.size k.size, fun i hi hm hr => ?_, ?_⟩
  · have h1 := h.size
    refine (k.blk i (by omega) hm ?_).trans (h.blk i hi hm hr)
    rcases h.row with e | e
    · rw [e]; exact hr
    · omega
  · have h1 := h.size
    rcases k.row with e | e
    · rw [e]; exact h.row
    · exact Or.inr (by omega)
theorem Kp.drew (h : Kp C w w') : Kp C w w'.drew := ⟨h.os, h.tape, h.output, h.size, h.blk, h.row⟩
theorem Bu.drew (h : Bu C w ns full N m1 m2 m3) : Bu C w.drew ns full N m1 m2 m3 := ⟨h.ar.same rfl rfl rfl, h.blk, h.lowB, h.o1, h.o2, h.o3, h.low1, h.low2, h.low3, h.full_len⟩

theorem Bu.ltb (h : Bu C w ns full N m1 m2 m3) : C.b < w.heap.size := (Array.getElem?_eq_some_iff.1 h.blk).1
theorem Bu.ltm (h : Bu C w ns full N m1 m2 m3) : ∀ i, C.mine i → i < w.heap.size := by
  rintro i (rfl | rfl | rfl | e | e | e)
  · exact h.ar.lta
  · exact h.ltb
  · exact h.ar.ltM
  · exact (h.o1 i e).lt
  · exact (h.o2 i e).lt
  · exact (h.o3 i e).lt
theorem Bu.low (h : Bu C w ns full N m1 m2 m3) : ∀ i, C.mine i → C.base ≤ i := by
  rintro i (rfl | rfl | rfl | e | e | e)
  · exact h.ar.lowA
  · exact h.lowB
  · exact h.ar.lowM
  · exact (h.low1 i e).1
  · exact (h.low2 i e).1
  · exact (h.low3 i e).1
theorem Bu.ne_b_a (h : Bu C w ns full N m1 m2 m3) : C.b ≠ C.a := fun e => by
  obtain ⟨g, cap, hb, _⟩ := h.ar.blk
  rw [← e, h.blk] at hb
  simp at hb
theorem Bu.ne_b_row (h : Bu C w ns full N m1 m2 m3) : C.b ≠ rowOf w C.a := fun e => by
  obtain ⟨cur, hg, _⟩ := h.ar.row
  rw [← e, h.blk] at hg
  simp at hg
theorem Bu.b_noMap (h : Bu C w ns full N m1 m2 m3) {i : Nat} {es : Array MapEntry} {clock : Nat} (hi : w.heap[i]? = some (.map es clock)) : i ≠ C.b ∧ i ≠ C.a ∧ i ≠ rowOf w C.a := by
  refine ⟨fun e => ?_, fun e => ?_, fun e => ?_⟩
  · rw [e, h.blk] at hi; simp at hi
  · obtain ⟨g, cap, hb, _⟩ := h.ar.blk
    rw [e, hb] at hi; simp at hi
  · obtain ⟨cur, hg, _⟩ := h.ar.row
    rw [e, hg] at hi; simp at hi

/-- A builder stays what it is where its blocks do. -/
theorem Bu.same (h : Bu C w ns full N m1 m2 m3) (hs : ∀ i, i < w.heap.size → (C.mine i ∨ i = rowOf w C.a) → w'.heap[i]? = w.heap[i]?) : Bu C w' ns full N m1 m2 m3 := by
  obtain ⟨_, _, _, hrl⟩ := h.ar.row
  have L := h.ltm
  refine ⟨h.ar.same (hs _ (L _ (Or.inl rfl)) (Or.inl (Or.inl rfl))) (hs _ h.ar.ltM (Or.inl (Or.inr (Or.inr (Or.inl rfl))))) (hs _ hrl (Or.inr rfl)), ?_, h.lowB, ?_, ?_, ?_, h.low1, h.low2, h.low3, h.full_len⟩
  · exact (hs _ h.ltb (Or.inl (Or.inr (Or.inl rfl)))).trans h.blk
  · exact fun i e => (h.o1 i e).same (hs _ (h.o1 i e).lt (Or.inl (Or.inr (Or.inr (Or.inr (Or.inl e))))))
  · exact fun i e => (h.o2 i e).same (hs _ (h.o2 i e).lt (Or.inl (Or.inr (Or.inr (Or.inr (Or.inr (Or.inl e)))))))
  · exact fun i e => (h.o3 i e).same (hs _ (h.o3 i e).lt (Or.inl (Or.inr (Or.inr (Or.inr (Or.inr (Or.inr e)))))))

theorem Bu.alloc (h : Bu C w ns full N m1 m2 m3) (o : Obj) : Bu C (w.alloc o) ns full N m1 m2 m3 := h.same fun i hi _ => Below.heap_alloc w o i hi
theorem Bu.kalloc (h : Bu C w ns full N m1 m2 m3) (o : Obj) : Kp C w (w.alloc o) :=
  ⟨rfl, rfl, rfl, by simp, fun i hi _ _ => Below.heap_alloc w o i hi, Or.inl (rowOf_same (Below.heap_alloc w o _ h.ar.lta))⟩

/-- A block that is neither the builder's nor its arena's. -/
structure Out (C : Cfg) (w : World) (i : Nat) : Prop where
  lt : i < w.heap.size
  not : ¬ C.mine i
  ne : i ≠ rowOf w C.a
theorem Out.kp {i : Nat} (h : Out C w i) (k : Kp C w w') : Out C w' i := by
  have h1 := h.lt
  have h2 := k.size
  refine ⟨by omega, h.not, fun e => ?_⟩
  rcases k.row with r | r
  · exact h.ne (e.trans r)
  · omega
/-- A variable in a block of its own. -/
structure Loc (C : Cfg) (w : World) (i : Nat) (cs : Array Value) (t : TypeId) : Prop where
  out : Out C w i
  blk : w.heap[i]? = some (.cells cs t (0, 0))
theorem Loc.kp {i : Nat} {cs : Array Value} {t : TypeId} (h : Loc C w i cs t) (k : Kp C w w') : Loc C w' i cs t := ⟨h.out.kp k, (k.blk i h.out.lt h.out.not h.out.ne).trans h.blk⟩
theorem Loc.drew {i : Nat} {cs : Array Value} {t : TypeId} (h : Loc C w i cs t) : Loc C w.drew i cs t := ⟨⟨h.out.lt, h.out.not, h.out.ne⟩, h.blk⟩
theorem Bu.loc (h : Bu C w ns full N m1 m2 m3) (cs : Array Value) (t : TypeId) : Loc C (w.alloc (.cells cs t)) w.heap.size cs t := by
  refine ⟨⟨by simp, fun hm => Nat.lt_irrefl _ (h.ltm _ hm), fun e => ?_⟩, heap_alloc_new w _⟩
  rw [rowOf_same (Below.heap_alloc w _ _ h.ar.lta)] at e
  obtain ⟨_, _, _, hl⟩ := h.ar.row
  omega
end
end Go.Proofs.Ytnjfckbpmilhnaa



namespace Go.Proofs.Ytnjfckbpmilhnaa
open Go.RowKit Go.Maps

section
variable {C : Cfg} {w : World} {ns : List Nd} {full : Bool} {N : Nat} {m1 : Nd → Option Nat} {m2 : Mx → Option Nat} {m3 : Nat → Option Nat}

theorem Bu.reads (h : Bu C w ns full N m1 m2 m3) : w.cell? ⟨C.b, 0, none⟩ = some (.pointer (some ⟨C.a, 0, none⟩)) ∧ w.cell? ⟨C.b, 1, none⟩ = some (.bool full) ∧ w.cell? ⟨C.b, 2, none⟩ = some (.map C.c1) ∧ w.cell? ⟨C.b, 3, none⟩ = some (.map C.c2) ∧
    w.cell? ⟨C.b, 4, none⟩ = some (.map C.c3) ∧ ∀ j, w.frozen? ⟨C.b, j, none⟩ = false := by
  have hb := h.blk
  refine ⟨?_, ?_, ?_, ?_, ?_, ?_⟩
  · rw [cell_of_row w C.b 0 _ _ _ hb]; rfl
  · rw [cell_of_row w C.b 1 _ _ _ hb]; rfl
  · rw [cell_of_row w C.b 2 _ _ _ hb]; rfl
  · rw [cell_of_row w C.b 3 _ _ _ hb]; rfl
  · rw [cell_of_row w C.b 4 _ _ _ hb]; rfl
  · intro j
    simp [World.frozen?, hb]

set_option maxHeartbeats 1000000 in
theorem variable_any (h : Bu C w ns full N m1 m2 m3) {f : Nat} (hf : f < ns.length) :
    Calls Try.prog 42 #[.pointer (some ⟨C.b, 0, none⟩), .int .i64 (f : Int)] w fun e w' => e = .returned (.int .i64 (nv ns f : Int)) ∧ w' = w := by
  obtain ⟨b0, b1, b2, b3, b4, bf⟩ := h.reads
  obtain ⟨cap, a0, a1, a2, a3, af, an⟩ := h.ar.reads
  obtain ⟨n0, n1, n2⟩ := an f hf
  have hl : ns.length ≤ 40000 := Nat.le_trans h.ar.le h.ar.most4
  clear h an
  generalize rowOf w C.a = g at *
  go_enter Try.func42, Try.ntmps42
  go_wp2_with fail
  go_ret
  exact ⟨rfl, rfl⟩

/-- A builder that is as it says, in a world that came from w0. -/
structure At (C : Cfg) (w0 w : World) (ns : List Nd) (full : Bool) (N : Nat) (m1 : Nd → Option Nat) (m2 : Mx → Option Nat) (m3 : Nat → Option Nat) : Prop where
  bu : Bu C w ns full N m1 m2 m3
  kp : Kp C w0 w
theorem At.refl (h : Bu C w ns full N m1 m2 m3) : At C w w ns full N m1 m2 m3 := ⟨h, Kp.refl C w⟩
variable {w0 w1 : World}
theorem At.alloc (h : At C w0 w ns full N m1 m2 m3) (o : Obj) : At C w0 (w.alloc o) ns full N m1 m2 m3 := ⟨h.bu.alloc o, h.kp.trans (h.bu.kalloc o)⟩
theorem At.drew (h : At C w0 w ns full N m1 m2 m3) : At C w0 w.drew ns full N m1 m2 m3 := ⟨h.bu.drew, h.kp.drew⟩
theorem At.then {ns' : List Nd} {full' : Bool} {N' : Nat} {m1' : Nd → Option Nat} {m2' : Mx → Option Nat} {m3' : Nat → Option Nat} (h : At C w0 w ns full N m1 m2 m3) (k : At C w w1 ns' full' N' m1' m2' m3') : At C w0 w1 ns' full' N' m1' m2' m3' :=
  ⟨k.bu, h.kp.trans k.kp⟩
theorem Out.set {i : Nat} (h : Out C w i) {p : Addr} (hp : p.block ≠ C.a) (u : Value) : Out C (w.setCell p u) i :=
  ⟨by simpa [World.setCell] using h.lt, h.not, by rw [rowOf_same (Below.heap_setCell w p u C.a hp.symm)]; exact h.ne⟩
theorem Out.nea {i : Nat} (h : Out C w i) : i ≠ C.a := fun e => h.not (Or.inl e)
theorem At.set (h : At C w0 w ns full N m1 m2 m3) {p : Addr} (ho : Out C w p.block) (hi : w0.heap.size ≤ p.block) (u : Value) : At C w0 (w.setCell p u) ns full N m1 m2 m3 := by
  have hr : rowOf (w.setCell p u) C.a = rowOf w C.a := rowOf_same (Below.heap_setCell w p u C.a ho.nea.symm)
  refine ⟨h.bu.same fun j _ hm => Below.heap_setCell w p u j (fun e => ?_), ⟨h.kp.os, h.kp.tape, h.kp.output, by simpa [World.setCell] using h.kp.size, fun j hj hm hn => ?_, ?_⟩⟩
  · rcases hm with hm | hm
    · exact ho.not (e ▸ hm)
    · exact ho.ne (e ▸ hm)
  · rw [Below.heap_setCell w p u j (by omega)]
    exact h.kp.blk j hj hm hn
  · rw [hr]
    exact h.kp.row
/-- What f is where variable v is val. -/
def partOf (ns : List Nd) (f v : Nat) (val : Bool) : Nat := if nv ns f = v then (if val then nh ns f else nl ns f) else f

set_option maxHeartbeats 1000000 in
theorem apart_any (h : Bu C w ns full N m1 m2 m3) {f v : Nat} (val : Bool) (hf : f < ns.length) (hv : v ≤ 16) :
    Calls Try.prog 25 #[.pointer (some ⟨C.a, 0, none⟩), .int .i64 (f : Int), .int .i64 (v : Int), .bool val] w fun e w' => e = .returned (.int .i64 (partOf ns f v val : Int)) ∧ At C w w' ns full N m1 m2 m3 := by
  have hA := At.refl h
  obtain ⟨b0, b1, b2, b3, b4, bf⟩ := h.reads
  obtain ⟨cap, a0, a1, a2, a3, af, an⟩ := h.ar.reads
  obtain ⟨n0, n1, n2⟩ := an f hf
  have hl : ns.length ≤ 40000 := Nat.le_trans h.ar.le h.ar.most4
  have hb3 := hA.alloc (.cells #[.int .i64 (nv ns f : Int), .int .i64 (nl ns f : Int), .int .i64 (nh ns f : Int)] 59)
  unfold partOf
  clear h an hA
  generalize rowOf w C.a = g at *
  by_cases he : nv ns f = v
  · subst he
    cases val
    · go_enter Try.func25, Try.ntmps25
      go_wp2_with fail
      go_ret
      exact ⟨by simp, hb3⟩
    · go_enter Try.func25, Try.ntmps25
      go_wp2_with fail
      go_ret
      exact ⟨by simp, hb3⟩
  · have he' : ((nv ns f : Int) != (v : Int)) = true := by simp; omega
    go_enter Try.func25, Try.ntmps25
    go_wp2_with fail
    go_ret
    exact ⟨by simp, hb3⟩

set_option maxHeartbeats 1000000 in
theorem part_any (h : Bu C w ns full N m1 m2 m3) {f v : Nat} (val : Bool) (hf : f < ns.length) (hv : v ≤ 16) :
    Calls Try.prog 46 #[.pointer (some ⟨C.b, 0, none⟩), .int .i64 (f : Int), .int .i64 (v : Int), .bool val] w fun e w' => e = .returned (.int .i64 (partOf ns f v val : Int)) ∧ At C w w' ns full N m1 m2 m3 := by
  have hp := apart_any h val hf hv
  obtain ⟨b0, b1, b2, b3, b4, bf⟩ := h.reads
  clear h
  generalize At C w = AA at *
  go_enter Try.func46, Try.ntmps46
  go_wp2_with fail
  refine hp.mono ?_
  rintro e w' ⟨rfl, hA⟩
  dsimp only
  go_wp2_with fail
  go_ret
  exact ⟨rfl, hA⟩

theorem answer_any (h : Bu C w ns full N m1 m2 m3) (f : Nat) :
    Calls Try.prog 31 #[.pointer (some ⟨C.b, 0, none⟩), .int .i64 (f : Int)] w fun e w' => e = .returned (.tuple #[.int .i64 ((if full then 0 else f : Nat) : Int), .int .i64 (if full then 6 else 0)]) ∧ w' = w := by
  obtain ⟨b0, b1, b2, b3, b4, bf⟩ := h.reads
  clear h
  cases full
  · go_enter Try.func31, Try.ntmps31
    go_wp2_with fail
    go_ret2
    exact ⟨rfl, rfl⟩
  · go_enter Try.func31, Try.ntmps31
    go_wp2_with fail
    go_ret2
    exact ⟨rfl, rfl⟩
end

section
variable {base a M vars most : Nat} {w : World} {ns : List Nd}
theorem hasFunction_any (h : Ar base a M vars most w ns) (f : Int) :
    Calls Try.prog 24 #[.pointer (some ⟨a, 0, none⟩), .int .i64 f] w fun e w' => e = .returned (.bool (decide (0 ≤ f) && decide (f < ns.length))) ∧ w' = w := by
  obtain ⟨cap, a0, a1, a2, a3, af, an⟩ := h.reads
  clear h an
  by_cases h0 : 0 ≤ f
  · go_enter Try.func24, Try.ntmps24
    go_wp2_with fail
    go_ret
    exact ⟨by simp [h0], rfl⟩
  · have h0' : decide (0 ≤ f) = false := by simp; omega
    go_enter Try.func24, Try.ntmps24
    go_wp2_with fail
    go_ret
    exact ⟨by simp, rfl⟩
theorem hasVariable_any (h : Ar base a M vars most w ns) (i : Int) :
    Calls Try.prog 44 #[.pointer (some ⟨a, 0, none⟩), .int .i64 i] w fun e w' => e = .returned (.bool (decide (0 ≤ i) && decide (i < vars))) ∧ w' = w := by
  obtain ⟨cap, a0, a1, a2, a3, af, an⟩ := h.reads
  clear h an
  by_cases h0 : 0 ≤ i
  · go_enter Try.func44, Try.ntmps44
    go_wp2_with fail
    go_ret
    exact ⟨by simp [h0], rfl⟩
  · have h0' : decide (0 ≤ i) = false := by simp; omega
    go_enter Try.func44, Try.ntmps44
    go_wp2_with fail
    go_ret
    exact ⟨by simp, rfl⟩
end
end Go.Proofs.Ytnjfckbpmilhnaa



namespace Go.Proofs.Ytnjfckbpmilhnaa
open Go.RowKit Go.Maps

section
variable {C : Cfg} {w : World} {ns : List Nd} {full : Bool} {N : Nat} {m1 : Nd → Option Nat} {m2 : Mx → Option Nat} {m3 : Nat → Option Nat}

set_option maxHeartbeats 1000000 in
set_option maxRecDepth 100000 in
theorem numberOf_same (h : Bu C w ns full N m1 m2 m3) {v l : Nat} :
    Calls Try.prog 39 #[.pointer (some ⟨C.b, 0, none⟩), agg3 (v, l, l)] w fun e w' => e = .returned (.int .i64 (l : Int)) ∧ At C w w' ns full N m1 m2 m3 := by
  have hA := (At.refl h).alloc (.cells #[.int .i64 (v : Int), .int .i64 (l : Int), .int .i64 (l : Int)] 59)
  obtain ⟨b0, b1, b2, b3, b4, bf⟩ := h.reads
  have lb := h.ltb
  clear h
  go_enter Try.func39, Try.ntmps39
  go_wp2_with fail
  go_ret
  exact ⟨rfl, hA⟩

set_option maxHeartbeats 1000000 in
set_option maxRecDepth 100000 in
theorem numberOf_there (h : Bu C w ns full N m1 m2 m3) {v l u f : Nat} (hne : l ≠ u) (ho : ok3 (v, l, u)) (h2 : 2 ≤ f) (hf : f < ns.length) (hn : nd ns f = (v, l, u)) :
    Calls Try.prog 39 #[.pointer (some ⟨C.b, 0, none⟩), agg3 (v, l, u)] w fun e w' => e = .returned (.int .i64 (f : Int)) ∧ At C w w' ns full N m1 m2 m3 := by
  have hA := ((At.refl h).alloc (.cells #[.int .i64 (v : Int), .int .i64 (l : Int), .int .i64 (u : Int)] 59)).drew
  obtain ⟨b0, b1, b2, b3, b4, bf⟩ := h.reads
  obtain ⟨cap, a0, a1, a2, a3, af, an⟩ := h.ar.reads
  have lb := h.ltb
  have la := h.ar.lta
  obtain ⟨num, hm, hk⟩ := hA.bu.ar.map
  have hlook := hm.look Try.u39 (x := (v, l, u)) ho
  rw [(hk (v, l, u) f).2 ⟨h2, hf, hn⟩] at hlook
  simp only [nodeE, Option.getD_some, Option.isSome_some] at hlook
  have hne' : ((l : Int) == (u : Int)) = false := by simp; omega
  clear h an hm hk
  go_enter Try.func39, Try.ntmps39
  go_wp2_with fail
  go_region
  all_goals
    go_wp2_with fail
    go_ret
    exact ⟨rfl, hA⟩

theorem At.setFull {w0 : World} (h : At C w0 w ns full N m1 m2 m3) (hl : ns.length = C.most) : At C w0 (w.setCell ⟨C.b, 1, none⟩ (.bool true)) ns true N m1 m2 m3 := by
  have hb := h.bu
  have ho : ∀ k, k ≠ C.b → (w.setCell ⟨C.b, 1, none⟩ (.bool true)).heap[k]? = w.heap[k]? := fun k hk => Below.heap_setCell w _ _ k hk
  have hbl := heap_setCell_same w C.b 1 _ _ (.bool true) hb.blk
  have noM : ∀ {i}, (∃ es clock, w.heap[i]? = some (.map es clock)) → i ≠ C.b := fun {i} hi => by
    obtain ⟨es, clock, hi⟩ := hi
    exact (hb.b_noMap hi).1
  obtain ⟨num, hM, _⟩ := hb.ar.map
  have hr : rowOf (w.setCell ⟨C.b, 1, none⟩ (.bool true)) C.a = rowOf w C.a := rowOf_same (ho _ hb.ne_b_a.symm)
  refine ⟨⟨hb.ar.same (ho _ hb.ne_b_a.symm) (ho _ (noM hM.isMap)) (ho _ hb.ne_b_row.symm), ?_, hb.lowB, ?_, ?_, ?_, hb.low1, hb.low2, hb.low3, fun _ => hl⟩, ?_⟩
  · rw [hbl]; rfl
  · exact fun i e => (hb.o1 i e).same (ho _ (noM (hb.o1 i e).isMap))
  · exact fun i e => (hb.o2 i e).same (ho _ (noM (hb.o2 i e).isMap))
  · exact fun i e => (hb.o3 i e).same (ho _ (noM (hb.o3 i e).isMap))
  · refine ⟨h.kp.os, h.kp.tape, h.kp.output, by simpa [World.setCell] using h.kp.size, fun i hi hm hn => ?_, ?_⟩
    · rw [ho i (fun e => hm (Or.inr (Or.inl e)))]
      exact h.kp.blk i hi hm hn
    · rw [hr]
      exact h.kp.row

set_option maxHeartbeats 1000000 in
set_option maxRecDepth 100000 in
theorem numberOf_full (h : Bu C w ns full N m1 m2 m3) {v l u : Nat} (hne : l ≠ u) (ho : ok3 (v, l, u)) (hn : ∀ f, 2 ≤ f → f < ns.length → nd ns f ≠ (v, l, u)) (hl : ns.length = C.most) :
    Calls Try.prog 39 #[.pointer (some ⟨C.b, 0, none⟩), agg3 (v, l, u)] w fun e w' => e = .returned (.int .i64 0) ∧ At C w w' ns true N m1 m2 m3 := by
  have hA := ((At.refl h).alloc (.cells #[.int .i64 (v : Int), .int .i64 (l : Int), .int .i64 (u : Int)] 59)).drew
  obtain ⟨b0, b1, b2, b3, b4, bf⟩ := h.reads
  obtain ⟨cap, a0, a1, a2, a3, af, an⟩ := h.ar.reads
  have lb := h.ltb
  have la := h.ar.lta
  obtain ⟨num, hm, hk⟩ := hA.bu.ar.map
  have hlook := hm.look Try.u39 (x := (v, l, u)) ho
  have hnone : num (v, l, u) = none := by
    cases hx : num (v, l, u) with
    | none => rfl
    | some f => obtain ⟨q1, q2, q3⟩ := (hk _ _).1 hx; exact (hn f q1 q2 q3).elim
  rw [hnone] at hlook
  simp only [nodeE, Option.getD_none, Option.isSome_none] at hlook
  have hne' : ((l : Int) == (u : Int)) = false := by simp; omega
  have hF := ((((At.refl h).setFull hl).alloc (.cells #[.int .i64 (v : Int), .int .i64 (l : Int), .int .i64 (u : Int)] 59)).drew).drew
  have hge : decide ((C.most : Int) ≤ (ns.length : Int)) = true := by simp; omega
  clear h an hm hk hnone hn
  go_enter Try.func39, Try.ntmps39
  go_wp2_with fail
  go_region
  all_goals
    go_wp2_with fail
    go_region
    all_goals
      go_wp2_with fail
      go_ret
      exact ⟨rfl, hF⟩

theorem Try.info37 : (Try.prog.info? 59).map (fun i => (i.zero, i.size, i.bytes)) = some (some (.agg #[.int .i64 0, .int .i64 0, .int .i64 0]), 3, 24) := by kernel_rfl

/-- The nodes lie in a row of the arena's own. -/
theorem Ar.owns {base a M vars most : Nat} (h : Ar base a M vars most w ns) : ∃ cap, w.cell? ⟨a, 2, none⟩ = some (.slice (some ⟨rowOf w a, 0, none⟩) ns.length cap) ∧ w.ownsRow base 59 3 (.slice (some ⟨rowOf w a, 0, none⟩) ns.length cap) ns.length (cellsOf ns) := by
  obtain ⟨g, cap, hb, hr⟩ := h.blk
  have e : rowOf w a = g := by simp [rowOf, hb, Value.ownBlock]
  rw [e]
  exact ⟨cap, by rw [cell_of_row w a 2 _ _ _ hb]; rfl, hr⟩

theorem numOk_snoc {n : Nd} {num : Nd → Option Nat} (h : NumOk ns num) (hnew : ∀ f, 2 ≤ f → f < ns.length → nd ns f ≠ n) (h2 : 2 ≤ ns.length) : NumOk (ns ++ [n]) (upd num n ns.length) := by
  intro m f
  have X : Ext ns (ns ++ [n]) := ⟨[n], rfl⟩
  have last : nd (ns ++ [n]) ns.length = n := by simp [nd]
  have len' : (ns ++ [n]).length = ns.length + 1 := by simp
  unfold upd
  by_cases e : m = n
  · subst e
    rw [if_pos rfl]
    constructor
    · intro hf
      obtain rfl : ns.length = f := by simpa using hf
      exact ⟨h2, by omega, last⟩
    · rintro ⟨f2, fl, hf⟩
      by_cases hl : f < ns.length
      · rw [X.nd hl] at hf
        exact (hnew f f2 hl hf).elim
      · rw [show f = ns.length by omega]
  · rw [if_neg e, h m f]
    constructor
    · rintro ⟨f2, fl, hf⟩
      exact ⟨f2, by omega, by rw [X.nd fl]; exact hf⟩
    · rintro ⟨f2, fl, hf⟩
      by_cases hl : f < ns.length
      · rw [X.nd hl] at hf
        exact ⟨f2, hl, hf⟩
      · obtain rfl : f = ns.length := by omega
        rw [last] at hf
        exact (e hf.symm).elim

/-- A node more: the row has it, the arena's slice, its map. -/
theorem At.grow {w0 w3 w5 : World} {n : Nd} {g g' cap' : Nat} (h : At C w0 w ns false N m1 m2 m3) (hg : rowOf w C.a = g) (hlt : ns.length < C.most) (hwf : Wf C.vars (ns ++ [n]))
    (hown : w3.ownsRow C.base 59 3 (.slice (some ⟨g', 0, none⟩) (ns.length + 1) cap') (ns.length + 1) (cellsOf ns ++ [.int .i64 (n.1 : Int), .int .i64 (n.2.1 : Int), .int .i64 (n.2.2 : Int)]))
    (hgrow : w.grownBy w3 (some g)) (hat : g = g' ∨ g' = w.heap.size) {num : Nd → Option Nat} (hnum : NumOk ns num) (hnew : ∀ f, 2 ≤ f → f < ns.length → nd ns f ≠ n)
    (hM : MapIs nodeE w5 C.M (ns.length + 1) (upd num n ns.length)) (hg5 : (w3.setCell ⟨C.a, 2, none⟩ (.slice (some ⟨g', 0, none⟩) (ns.length + 1) cap')).drew.grownBy w5 (some C.M)) :
    At C w0 w5 (ns ++ [n]) false N m1 m2 m3 := by
  subst hg
  have hb := h.bu
  have la := hb.ar.lta
  have lM := hb.ar.ltM
  have ra := hb.ar.ne_row_a
  have rM := hb.ar.ne_row_M
  have aM := hb.ar.ne_a_M
  obtain ⟨_, _, _, rl⟩ := hb.ar.row
  have sz3 := hgrow.size
  have sz5 := hg5.size
  simp only [heap_drew, World.size_setCell] at sz5
  have ga : g' ≠ C.a := by rcases hat with e | e <;> omega
  have gM : g' ≠ C.M := by rcases hat with e | e <;> omega
  have to5 : ∀ i, i < w.heap.size → i ≠ rowOf w C.a → i ≠ C.a → i ≠ C.M → w5.heap[i]? = w.heap[i]? := fun i hi h1 h2 h3 => by
    rw [hg5.block i (by simp; omega) (by simpa using h3), heap_drew, Below.heap_setCell _ _ _ _ h2, hgrow.block i hi (by simpa using h1)]
  obtain ⟨q, cap, hbl, hrow⟩ := hb.ar.blk
  have hbl5 : w5.heap[C.a]? = some (.cells #[.int .i64 (C.vars : Int), .int .i64 (C.most : Int), .slice (some ⟨g', 0, none⟩) (ns ++ [n]).length cap', .map (some C.M)] 63 (0, 0)) := by
    rw [hg5.block C.a (by simp; omega) (by simpa using aM), heap_drew, heap_setCell_same w3 C.a 2 _ _ _ ((hgrow.block C.a la (by simpa using ra.symm)).trans hbl)]
    simp
  have row5 : rowOf w5 C.a = g' := by simp [rowOf, hbl5, Value.ownBlock]
  have hown5 : w5.ownsRow C.base 59 3 (.slice (some ⟨g', 0, none⟩) (ns ++ [n]).length cap') (ns ++ [n]).length (cellsOf (ns ++ [n])) := by
    rw [cellsOf_append, show (ns ++ [n]).length = ns.length + 1 by simp, show cellsOf [n] = [.int .i64 (n.1 : Int), .int .i64 (n.2.1 : Int), .int .i64 (n.2.2 : Int)] from rfl]
    refine ⟨hown.1, ?_⟩
    rcases hown.2 with ⟨hv, _⟩ | ⟨g2, cap2, cur, hv, hbase, hg2, rest⟩
    · cases hv
    · simp only [Value.slice.injEq, Option.some.injEq, Addr.mk.injEq, and_true, true_and] at hv
      obtain ⟨rfl, rfl⟩ := hv
      have l3 := (Array.getElem?_eq_some_iff.1 hg2).1
      refine .inr ⟨g', cap', cur, rfl, hbase, ?_, rest⟩
      rw [hg5.block g' (by simpa using l3) (by simpa using gM), heap_drew, Below.heap_setCell _ _ _ _ ga]
      exact hg2
  refine ⟨⟨⟨hwf, by simp; omega, hb.ar.vars1, hb.ar.vars16, hb.ar.most4, hb.ar.lowA, hb.ar.lowM, ⟨g', cap', hbl5, hown5⟩, ⟨_, by simpa using hM, numOk_snoc hnum hnew hb.ar.wf.len⟩⟩, ?_, hb.lowB, ?_, ?_, ?_, hb.low1, hb.low2, hb.low3, fun e => by cases e⟩, h.kp.trans ?_⟩
  · rw [to5 C.b hb.ltb hb.ne_b_row hb.ne_b_a (fun e => by obtain ⟨num, hm, _⟩ := hb.ar.map; obtain ⟨es, clock, hm⟩ := hm.isMap; exact (hb.b_noMap hm).1 e.symm)]
    exact hb.blk
  · intro i e
    obtain ⟨es, clock, hm⟩ := (hb.o1 i e).isMap
    obtain ⟨_, k1, k2⟩ := hb.b_noMap hm
    exact (hb.o1 i e).same (to5 i (hb.o1 i e).lt k2 k1 (hb.low1 i e).2.1)
  · intro i e
    obtain ⟨es, clock, hm⟩ := (hb.o2 i e).isMap
    obtain ⟨_, k1, k2⟩ := hb.b_noMap hm
    exact (hb.o2 i e).same (to5 i (hb.o2 i e).lt k2 k1 (hb.low2 i e).2.1)
  · intro i e
    obtain ⟨es, clock, hm⟩ := (hb.o3 i e).isMap
    obtain ⟨_, k1, k2⟩ := hb.b_noMap hm
    exact (hb.o3 i e).same (to5 i (hb.o3 i e).lt k2 k1 (hb.low3 i e).2.1)
  · refine ⟨hg5.os.trans hgrow.os, hg5.tape.trans hgrow.tape, hg5.output.trans hgrow.output, by omega, fun i hi hm hr => to5 i hi hr (fun e => hm (Or.inl e)) (fun e => hm (Or.inr (Or.inr (Or.inl e)))), ?_⟩
    rw [row5]
    rcases hat with e | e
    · exact Or.inl e.symm
    · exact Or.inr (by omega)

set_option maxHeartbeats 2000000 in
set_option maxRecDepth 100000 in
theorem numberOf_new (h : Bu C w ns false N m1 m2 m3) {v l u : Nat} (hne : l ≠ u) (ho : ok3 (v, l, u)) (hn : ∀ f, 2 ≤ f → f < ns.length → nd ns f ≠ (v, l, u)) (hl : ns.length < C.most) (hwf : Wf C.vars (ns ++ [(v, l, u)])) :
    Calls Try.prog 39 #[.pointer (some ⟨C.b, 0, none⟩), agg3 (v, l, u)] w fun e w' => e = .returned (.int .i64 (ns.length : Int)) ∧ At C w w' (ns ++ [(v, l, u)]) false N m1 m2 m3 := by
  have hA := ((At.refl h).alloc (.cells #[.int .i64 (v : Int), .int .i64 (l : Int), .int .i64 (u : Int)] 59)).drew
  obtain ⟨b0, b1, b2, b3, b4, bf⟩ := h.reads
  obtain ⟨cap, a0, a1, a2, a3, af, an⟩ := h.ar.reads
  have lb := h.ltb
  have la := h.ar.lta
  obtain ⟨num, hm, hk⟩ := hA.bu.ar.map
  have hlook := hm.look Try.u39 (x := (v, l, u)) ho
  have hnone : num (v, l, u) = none := by
    cases hx : num (v, l, u) with
    | none => rfl
    | some f => obtain ⟨q1, q2, q3⟩ := (hk _ _).1 hx; exact (hn f q1 q2 q3).elim
  rw [hnone] at hlook
  simp only [nodeE, Option.getD_none, Option.isSome_none] at hlook
  have hne' : ((l : Int) == (u : Int)) = false := by simp; omega
  have hge : decide ((C.most : Int) ≤ (ns.length : Int)) = false := by simp; omega
  have hl4 : ns.length ≤ 40000 := Nat.le_trans h.ar.le h.ar.most4
  obtain ⟨i0, hi, hz0, hz1, hz2⟩ := info_parts Try.info37
  clear a2 cap
  obtain ⟨cap, a2, hown⟩ := h.ar.owns
  have rl := h.ar.row
  have nra := h.ar.ne_row_a
  have hlow := h.ar.lowA
  have hA2 := ((hA.alloc (.cells #[.int .i64 (v : Int), .int .i64 (l : Int), .int .i64 (u : Int)] 59)).drew).drew
  have rM := h.ar.ne_row_M
  have aM := h.ar.ne_a_M
  have lM := h.ar.ltM
  have hkeep : ∀ g' cap' w3, (((w.alloc (.cells #[.int .i64 (v : Int), .int .i64 (l : Int), .int .i64 (u : Int)] 59)).alloc (.cells #[.int .i64 (v : Int), .int .i64 (l : Int), .int .i64 (u : Int)] 59)).drew.drew.drew).grownBy w3 (some (rowOf w C.a)) → (some (rowOf w C.a) = some g' ∨ g' = (((w.alloc (.cells #[.int .i64 (v : Int), .int .i64 (l : Int), .int .i64 (u : Int)] 59)).alloc (.cells #[.int .i64 (v : Int), .int .i64 (l : Int), .int .i64 (u : Int)] 59)).drew.drew.drew).heap.size) →
      w3.ownsRow C.base 59 3 (.slice (some ⟨g', 0, none⟩) (ns.length + 1) cap') (ns.length + 1) (cellsOf ns ++ [.int .i64 (v : Int), .int .i64 (l : Int), .int .i64 (u : Int)]) → ∃ w5,
      w3.cell? ⟨C.a, 2, none⟩ = some (.slice (some ⟨rowOf w C.a, 0, none⟩) ns.length cap) ∧ w3.cell? ⟨C.a, 3, none⟩ = some (.map (some C.M)) ∧
      (w3.setCell ⟨C.a, 2, none⟩ (.slice (some ⟨g', 0, none⟩) (ns.length + 1) cap')).cell? ⟨w.heap.size, 0, none⟩ = some (.int .i64 (v : Int)) ∧ (w3.setCell ⟨C.a, 2, none⟩ (.slice (some ⟨g', 0, none⟩) (ns.length + 1) cap')).cell? ⟨w.heap.size, 1, none⟩ = some (.int .i64 (l : Int)) ∧ (w3.setCell ⟨C.a, 2, none⟩ (.slice (some ⟨g', 0, none⟩) (ns.length + 1) cap')).cell? ⟨w.heap.size, 2, none⟩ = some (.int .i64 (u : Int)) ∧ w3.frozen? ⟨C.a, 2, none⟩ = false ∧
      (Instr.mapUpdate 61 (.map (some C.M)) (agg3 (v, l, u)) (.int .i64 (ns.length : Int))).run Try.prog (w3.setCell ⟨C.a, 2, none⟩ (.slice (some ⟨g', 0, none⟩) (ns.length + 1) cap')).drew = .ok () w5 ∧ At C w w5 (ns ++ [(v, l, u)]) false N m1 m2 m3 := by
    intro g' cap' w3 hg hat hown3
    obtain ⟨_, _, _, rl⟩ := rl
    have hm3 : MapIs nodeE (w3.setCell ⟨C.a, 2, none⟩ (.slice (some ⟨g', 0, none⟩) (ns.length + 1) cap')).drew C.M ns.length num := by
      refine hm.same ?_
      rw [heap_drew, Below.heap_setCell _ _ _ _ (fun e => aM e.symm), hg.block C.M (by simp; omega) (by simpa using rM.symm), heap_drew, heap_drew, heap_drew, heap_drew, Below.heap_alloc _ _ _ (by simp; omega)]
    obtain ⟨w5, hrun, hM5, hg5⟩ := hm3.store Try.u39 (by unfold maxLen; omega) (x := (v, l, u)) ho (v := ns.length) (by omega)
    have hr2 : rowOf (((w.alloc (.cells #[.int .i64 (v : Int), .int .i64 (l : Int), .int .i64 (u : Int)] 59)).alloc (.cells #[.int .i64 (v : Int), .int .i64 (l : Int), .int .i64 (u : Int)] 59)).drew.drew.drew) C.a = rowOf w C.a := by
      refine rowOf_same ?_
      rw [heap_drew, heap_drew, heap_drew, Below.heap_alloc _ _ _ (by simp; omega), Below.heap_alloc _ _ _ la]
    have hfin := hA2.grow hr2 hl hwf hown3 hg (by simpa using hat) hk hn hM5 hg5
    refine ⟨w5, ?_, ?_, ?_, ?_, ?_, ?_, hrun, hfin⟩
    · rw [hg.cell_far ⟨C.a, 2, none⟩ (by simp; omega) (by simp; omega)]; simp [*, World.cell?_alloc_some]
    · rw [hg.cell_far ⟨C.a, 3, none⟩ (by simp; omega) (by simp; omega)]; simp [*, World.cell?_alloc_some]
    · rw [World.cell?_of_block (Below.heap_setCell _ _ _ _ (by simp; omega)), hg.cell_far ⟨w.heap.size, 0, none⟩ (by simp; omega) (by simp; omega)]; simp [*, World.cell?_alloc_some]
    · rw [World.cell?_of_block (Below.heap_setCell _ _ _ _ (by simp; omega)), hg.cell_far ⟨w.heap.size, 1, none⟩ (by simp; omega) (by simp; omega)]; simp [*, World.cell?_alloc_some]
    · rw [World.cell?_of_block (Below.heap_setCell _ _ _ _ (by simp; omega)), hg.cell_far ⟨w.heap.size, 2, none⟩ (by simp; omega) (by simp; omega)]; simp [*, World.cell?_alloc_some]
    · rw [hg.frozen_far ⟨C.a, 2, none⟩ (by simp; omega) (by simp; omega)]; simp [*, frozen?_alloc_cells]
  have own2 : (((w.alloc (.cells #[.int .i64 (v : Int), .int .i64 (l : Int), .int .i64 (u : Int)] 59)).alloc (.cells #[.int .i64 (v : Int), .int .i64 (l : Int), .int .i64 (u : Int)] 59)).drew.drew.drew).ownsRow C.base 59 3 (.slice (some ⟨rowOf w C.a, 0, none⟩) ns.length cap) ns.length (cellsOf ns) := (hown.alloc _).alloc _
  have news : ∀ j x, [Value.int .i64 (v : Int), .int .i64 (l : Int), .int .i64 (u : Int)][j]? = some x → (((w.alloc (.cells #[.int .i64 (v : Int), .int .i64 (l : Int), .int .i64 (u : Int)] 59)).alloc (.cells #[.int .i64 (v : Int), .int .i64 (l : Int), .int .i64 (u : Int)] 59)).drew.drew.drew).cell? ((⟨w.heap.size + 1, 0, none⟩ : Addr).add j) = some x :=
    World.news_of_block (w := (((w.alloc (.cells #[.int .i64 (v : Int), .int .i64 (l : Int), .int .i64 (u : Int)] 59)).alloc (.cells #[.int .i64 (v : Int), .int .i64 (l : Int), .int .i64 (u : Int)] 59)).drew.drew.drew)) (B := w.heap.size + 1) (cs := #[.int .i64 (v : Int), .int .i64 (l : Int), .int .i64 (u : Int)]) (t := 59) (fr := (0, 0)) (by rw [heap_drew, heap_drew, heap_drew, show w.heap.size + 1 = (w.alloc (.cells #[.int .i64 (v : Int), .int .i64 (l : Int), .int .i64 (u : Int)] 59)).heap.size by simp]; exact Go.heap_alloc_new _ _)
  have one : ∀ x ∈ [Value.int .i64 (v : Int), .int .i64 (l : Int), .int .i64 (u : Int)], x.oneCell' = true := by simp [Value.oneCell']
  have s1 : ns.length + 1 ≤ maxLen := by unfold maxLen; omega
  have s2 : (ns.length + 1) * 24 ≤ 140737488355328 := by omega
  have s3 : C.base ≤ (((w.alloc (.cells #[.int .i64 (v : Int), .int .i64 (l : Int), .int .i64 (u : Int)] 59)).alloc (.cells #[.int .i64 (v : Int), .int .i64 (l : Int), .int .i64 (u : Int)] 59)).drew.drew.drew).heap.size := by simp; omega
  clear h an hnone hn
  go_enter Try.func39, Try.ntmps39
  go_wp2_with fail
  go_region
  all_goals
    go_wp2_with fail
    go_region
    all_goals
      go_wp2_with fail
      go_region_law (refine step_append_lies _ rfl _ _ 60 rfl C.base 59 i0 _ 3 24 Try.u38 hi hz0 hz1 hz2 rfl (by decide) _ ns.length (cellsOf ns) rfl own2 ⟨w.heap.size + 1, 0, none⟩ 1 1 [.int .i64 (v : Int), .int .i64 (l : Int), .int .i64 (u : Int)] rfl rfl news one (by decide) s1 s2 s3 _ rfl ?_; intro g' cap' w3 hown3 hgrow3 hat3 hlt3; obtain ⟨w5, k1, k2, k3, k4, k5, k6, hrun, hfin⟩ := hkeep g' cap' w3 hgrow3 hat3 hown3; clear hown3 hgrow3 hat3 hlt3)
      all_goals
        go_wp2_with fail
        go_region
        all_goals
          go_wp2_with fail
          go_ret
          exact ⟨rfl, hfin⟩

/-- numberOf. -/
theorem numberOf_any (h : Bu C w ns full N m1 m2 m3) {v l u : Nat} (hv : v < C.vars) (hl : l < ns.length) (hu : u < ns.length) (hord : full = false → v < nv ns l ∧ v < nv ns u) :
    Calls Try.prog 39 #[.pointer (some ⟨C.b, 0, none⟩), agg3 (v, l, u)] w fun e w' => ∃ f ns' full', e = .returned (.int .i64 ((f : Nat) : Int)) ∧ At C w w' ns' full' N m1 m2 m3 ∧ Ext ns ns' ∧ ns'.length ≤ ns.length + 1 ∧ f < ns'.length ∧
      (full = true → full' = true) ∧ (full' = false → IsNode ns' v l u f) := by
  have hlen : ns.length ≤ 40000 := Nat.le_trans h.ar.le h.ar.most4
  have hv16 := h.ar.vars16
  have ho : ok3 (v, l, u) := ⟨by show v < _; omega, by show l < _; omega, by show u < _; omega⟩
  have h2 := h.ar.wf.len
  by_cases hne : l = u
  · subst hne
    refine (numberOf_same h).mono ?_
    rintro e w' ⟨rfl, hA⟩
    exact ⟨l, ns, full, rfl, hA, Ext.refl _, by omega, hl, id, fun hf => isNode_same hl (hord hf).1⟩
  · by_cases hex : ∃ f, 2 ≤ f ∧ f < ns.length ∧ nd ns f = (v, l, u)
    · obtain ⟨f, f2, fl, fn⟩ := hex
      refine (numberOf_there h hne ho f2 fl fn).mono ?_
      rintro e w' ⟨rfl, hA⟩
      exact ⟨f, ns, full, rfl, hA, Ext.refl _, by omega, fl, id, fun _ => isNode_there h.ar.wf f2 fl fn⟩
    · have hn : ∀ f, 2 ≤ f → f < ns.length → nd ns f ≠ (v, l, u) := fun f f2 fl fn => hex ⟨f, f2, fl, fn⟩
      by_cases hm : ns.length = C.most
      · refine (numberOf_full h hne ho hn hm).mono ?_
        rintro e w' ⟨rfl, hA⟩
        exact ⟨0, ns, true, rfl, hA, Ext.refl _, by omega, by omega, fun _ => rfl, fun e => by cases e⟩
      · have hle := h.ar.le
        obtain rfl : full = false := by
          cases full
          · rfl
          · exact (hm (h.full_len rfl)).elim
        have hwf := wf_snoc h.ar.wf (n := (v, l, u)) hv hl hu hne (hord rfl).1 (hord rfl).2 hn
        refine (numberOf_new h hne ho hn (by omega) hwf).mono ?_
        rintro e w' ⟨rfl, hA⟩
        have X : Ext ns (ns ++ [(v, l, u)]) := ⟨_, rfl⟩
        refine ⟨ns.length, _, false, rfl, hA, X, by simp, by simp, (fun e => by cases e), fun _ => isNode_there hwf h2 (by simp) (by simp [nd])⟩
end
end Go.Proofs.Ytnjfckbpmilhnaa



namespace Go.Proofs.Ytnjfckbpmilhnaa
open Go.RowKit Go.Maps

section
variable {C : Cfg} {w : World} {ns : List Nd} {full : Bool} {N : Nat} {m1 : Nd → Option Nat} {m2 : Mx → Option Nat} {m3 : Nat → Option Nat}

theorem Loc.reads {i : Nat} {x y z : Value} {t : TypeId} (h : Loc C w i #[x, y, z] t) :
    (w.cell? ⟨i, 0, none⟩ = some x ∧ w.cell? ⟨i, 1, none⟩ = some y ∧ w.cell? ⟨i, 2, none⟩ = some z) ∧ w.frozen? ⟨i, 0, none⟩ = false ∧ w.frozen? ⟨i, 1, none⟩ = false ∧ w.frozen? ⟨i, 2, none⟩ = false := by
  have hb := h.blk
  refine ⟨⟨?_, ?_, ?_⟩, ?_, ?_, ?_⟩
  · rw [cell_of_row w i 0 _ _ _ hb]; rfl
  · rw [cell_of_row w i 1 _ _ _ hb]; rfl
  · rw [cell_of_row w i 2 _ _ _ hb]; rfl
  · simp [World.frozen?, hb]
  · simp [World.frozen?, hb]
  · simp [World.frozen?, hb]
theorem Loc.set {i j : Nat} {cs : Array Value} {t : TypeId} (h : Loc C w i cs t) (u : Value) : Loc C (w.setCell ⟨i, j, none⟩ u) i (cs.setIfInBounds j u) t :=
  ⟨h.out.set (p := ⟨i, j, none⟩) h.out.nea u, heap_setCell_same w i j cs t u h.blk⟩
theorem Loc.setOther {i k j : Nat} {cs : Array Value} {t : TypeId} (h : Loc C w i cs t) (hk : Out C w k) (hne : i ≠ k) (u : Value) : Loc C (w.setCell ⟨k, j, none⟩ u) i cs t :=
  ⟨h.out.set (p := ⟨k, j, none⟩) hk.nea u, (Below.heap_setCell w _ u i hne).trans h.blk⟩
theorem Loc.alloc {i : Nat} {cs : Array Value} {t : TypeId} (h : Loc C w i cs t) (hb : Bu C w ns full N m1 m2 m3) (o : Obj) : Loc C (w.alloc o) i cs t := h.kp (hb.kalloc o)
theorem At.loc {w0 : World} (h : At C w0 w ns full N m1 m2 m3) (cs : Array Value) (t : TypeId) : Loc C (w.alloc (.cells cs t)) w.heap.size cs t := h.bu.loc cs t

theorem At.store3 {w0 : World} {i : Nat} {a b c : Value} {t : TypeId} (h : At C w0 w ns full N m1 m2 m3) (L : Loc C w i #[a, b, c] t) (hi : w0.heap.size ≤ i) (x y z : Value) :
    At C w0 (((w.setCell ⟨i, 0, none⟩ x).setCell ⟨i, 1, none⟩ y).setCell ⟨i, 2, none⟩ z) ns full N m1 m2 m3 ∧ Loc C (((w.setCell ⟨i, 0, none⟩ x).setCell ⟨i, 1, none⟩ y).setCell ⟨i, 2, none⟩ z) i #[x, y, z] t := by
  have L1 := L.set (j := 0) x
  have L2 := L1.set (j := 1) y
  have L3 := L2.set (j := 2) z
  refine ⟨((h.set (p := ⟨i, 0, none⟩) L.out hi x).set (p := ⟨i, 1, none⟩) L1.out hi y).set (p := ⟨i, 2, none⟩) L2.out hi z, ?_⟩
  simpa using L3

set_option maxHeartbeats 2000000 in
theorem partOfChoice_any (h : Bu C w ns full N m1 m2 m3) {c : Nd} {v : Nat} (val : Bool) (h1 : c.1 < ns.length) (h2 : c.2.1 < ns.length) (h3 : c.2.2 < ns.length) (hv : v ≤ 16) :
    Calls Try.prog 43 #[.pointer (some ⟨C.b, 0, none⟩), agg3 c, .int .i64 (v : Int), .bool val] w fun e w' => e = .returned (agg3 (partOf ns c.1 v val, partOf ns c.2.1 v val, partOf ns c.2.2 v val)) ∧ At C w w' ns full N m1 m2 m3 := by
  obtain ⟨x, y, z⟩ := c
  simp only [] at h1 h2 h3
  have hA0 := (At.refl h).alloc (.cells #[.int .i64 (x : Int), .int .i64 (y : Int), .int .i64 (z : Int)] 89)
  have L0 := h.loc #[.int .i64 (x : Int), .int .i64 (y : Int), .int .i64 (z : Int)] 89
  have hA := (hA0.alloc (.cells #[.int .i64 0, .int .i64 0, .int .i64 0] 89)).drew
  have L1 := (L0.alloc hA0.bu (.cells #[.int .i64 0, .int .i64 0, .int .i64 0] 89)).drew
  have L2 := (hA0.loc #[.int .i64 0, .int .i64 0, .int .i64 0] 89).drew
  rw [show (w.alloc (.cells #[.int .i64 (x : Int), .int .i64 (y : Int), .int .i64 (z : Int)] 89)).heap.size = w.heap.size + 1 by simp] at L2
  clear L0 hA0 h
  obtain ⟨⟨q0, q1, q2⟩, _⟩ := L1.reads
  go_enter Try.func43, Try.ntmps43
  go_wp2_with fail
  go_region_held3 (fun w' => w'.cell? ⟨w.heap.size, 0, none⟩ = some (.int .i64 (x : Int)) ∧ w'.cell? ⟨w.heap.size, 1, none⟩ = some (.int .i64 (y : Int)) ∧ w'.cell? ⟨w.heap.size, 2, none⟩ = some (.int .i64 (z : Int))) (go_keep)
    (first | (go_at_call 46; refine (part_any (At.bu (w0 := w) (by assumption)) val (by assumption) hv).mono ?_; rintro e wn ⟨rfl, hn⟩; have hA' := At.then (w0 := w) (by assumption) hn; have L1' := Loc.kp (i := w.heap.size) (by assumption) hn.kp; have L2' := Loc.kp (i := w.heap.size + 1) (by assumption) hn.kp; obtain ⟨⟨q0', q1', q2'⟩, _⟩ := L1'.reads; obtain ⟨_, p0', p1', p2'⟩ := L2'.reads))
  obtain ⟨hF, LF⟩ := At.store3 hA' L2' (Nat.le_succ _) (.int .i64 (partOf ns x v val : Int)) (.int .i64 (partOf ns y v val : Int)) (.int .i64 (partOf ns z v val : Int))
  obtain ⟨⟨r0, r1, r2⟩, _⟩ := LF.reads
  go_wp2_with fail
  refine bodyPost_ret (v := agg3 (partOf ns x v val, partOf ns y v val, partOf ns z v val)) (by simp [results, Try.results43, go_sem, r0, r1, r2]) rfl ⟨rfl, hF⟩
end
end Go.Proofs.Ytnjfckbpmilhnaa


