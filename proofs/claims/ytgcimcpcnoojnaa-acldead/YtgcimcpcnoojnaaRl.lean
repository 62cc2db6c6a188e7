/-
  Lists of rules: as lists, and in memory.
-/
import Derived.Test.YtgcimcpcnoojnaaHas
import Derived.Laws.AppendOwn
namespace Go.Proofs.Ytgcimcpcnoojnaa
open Go.RowKit

/-- What In tells. -/
def inB (a b c d : Nat) (p q r s : Int) : Bool := hasB a p && hasB b q && hasB c r && hasB d s
theorem in_any (a b c d : Nat) (p q r s : Int) (w : World) (ha : a < 65536) (hb : b < 65536) (hc : c < 256) (hd : d < 256) :
    Calls Try.prog 73 #[mt a b c d, pk p q r s] w fun e w' => e = .returned (.bool (inB a b c d p q r s)) ∧ Below w.heap.size w w' :=
  in_case a b c d p q r s w _ _ _ _ (fun w => addrs_any a w ha) (fun w => addrs_any b w hb) (fun w => ports_any c w hc) (fun w => ports_any d w hd)
    (fun w => has_any a p 16 w ha) (fun w => has_any b q 16 w hb) (fun w => has_any c r 8 w (by omega)) (fun w => has_any d s 8 w (by omega))

/-- A rule: does it let through what its match has? -/
structure Rl where
  ok : Bool
  a : Nat
  b : Nat
  c : Nat
  d : Nat
  ha : a < 65536
  hb : b < 65536
  hc : c < 256
  hd : d < 256
def inR (r : Rl) (p q s t : Int) : Bool := inB r.a r.b r.c r.d p q s t
/-- What a list of rules says of a packet. -/
def letsB : List Rl → Int → Int → Int → Int → Bool
  | [], _, _, _, _ => false
  | r :: l, p, q, s, t => if inR r p q s t then r.ok else letsB l p q s t
def allR (ok : Bool) : Rl := ⟨ok, 65535, 65535, 255, 255, by omega, by omega, by omega, by omega⟩
abbrev rcells (r : Rl) : List Value := [.bool r.ok, .int .u16 (r.a : Int), .int .u16 (r.b : Int), .int .u8 (r.c : Int), .int .u8 (r.d : Int)]
abbrev rv (r : Rl) : Value := .agg #[.bool r.ok, .int .u16 (r.a : Int), .int .u16 (r.b : Int), .int .u8 (r.c : Int), .int .u8 (r.d : Int)]
def cellsR (xs : List Rl) : List Value := xs.flatMap fun r => rcells r

theorem cellsR_cons (r : Rl) (l : List Rl) : cellsR (r :: l) = rcells r ++ cellsR l := rfl
theorem cellsR_append (a b : List Rl) : cellsR (a ++ b) = cellsR a ++ cellsR b := by simp [cellsR]
theorem cellsR_length : ∀ xs : List Rl, (cellsR xs).length = xs.length * 5
  | [] => rfl
  | r :: l => by
    have := cellsR_length l
    rw [cellsR_cons, List.length_append, this]
    simp
    omega
theorem cellsR_one : ∀ xs : List Rl, ∀ u ∈ cellsR xs, u.oneCell' = true
  | [], u, h => by simp [cellsR] at h
  | r :: l, u, h => by
    rw [cellsR_cons, List.mem_append] at h
    rcases h with h | h
    · simp only [rcells, List.mem_cons, List.not_mem_nil, or_false] at h
      rcases h with rfl | rfl | rfl | rfl | rfl <;> rfl
    · exact cellsR_one l u h
theorem cellsR_at : ∀ (xs : List Rl) (k : Nat) (r : Rl), xs[k]? = some r →
    (cellsR xs)[k * 5]? = some (.bool r.ok) ∧ (cellsR xs)[k * 5 + 1]? = some (.int .u16 (r.a : Int)) ∧ (cellsR xs)[k * 5 + 2]? = some (.int .u16 (r.b : Int)) ∧ (cellsR xs)[k * 5 + 3]? = some (.int .u8 (r.c : Int)) ∧ (cellsR xs)[k * 5 + 4]? = some (.int .u8 (r.d : Int))
  | [], k, r, h => by simp at h
  | x :: l, 0, r, h => by
    obtain rfl : x = r := by simpa using h
    exact ⟨rfl, rfl, rfl, rfl, rfl⟩
  | x :: l, k + 1, r, h => by
    have ih := cellsR_at l k r (by simpa using h)
    have sh : ∀ j, (cellsR (x :: l))[(k + 1) * 5 + j]? = (cellsR l)[k * 5 + j]? := fun j => by
      rw [cellsR_cons, List.getElem?_append_right (by simp; omega)]
      congr 1
      simp
      omega
    have s0 := sh 0
    simp only [Nat.add_zero] at s0
    rw [s0, sh 1, sh 2, sh 3, sh 4]
    exact ih

/-- So the rules lie in block b, from cell o on. -/
def RAt (w : World) (b o : Nat) (xs : List Rl) : Prop := ∀ j u, (cellsR xs)[j]? = some u → w.cell? ⟨b, o + j, none⟩ = some u
/-- A slice that holds the rules, below block number base. -/
def Rules (base : Nat) (w : World) (v : Value) (xs : List Rl) : Prop :=
  ∃ A cap, v = .slice A xs.length cap ∧ (A = none → cap = 0) ∧ xs.length ≤ cap ∧ cap ≤ maxLen ∧ (xs ≠ [] → ∃ b o, A = some ⟨b, o, none⟩ ∧ b < base ∧ RAt w b o xs)

theorem RAt.at {w : World} {b o : Nat} {xs : List Rl} (h : RAt w b o xs) {k : Nat} {r : Rl} (hk : xs[k]? = some r) :
    w.cell? ⟨b, o + k * 5, none⟩ = some (.bool r.ok) ∧ w.cell? ⟨b, o + k * 5 + 1, none⟩ = some (.int .u16 (r.a : Int)) ∧ w.cell? ⟨b, o + k * 5 + 2, none⟩ = some (.int .u16 (r.b : Int)) ∧ w.cell? ⟨b, o + k * 5 + 3, none⟩ = some (.int .u8 (r.c : Int)) ∧ w.cell? ⟨b, o + k * 5 + 4, none⟩ = some (.int .u8 (r.d : Int)) := by
  obtain ⟨h0, h1, h2, h3, h4⟩ := cellsR_at xs k r hk
  exact ⟨h _ _ h0, h _ _ h1, h _ _ h2, h _ _ h3, h _ _ h4⟩
theorem RAt.below {base : Nat} {w w' : World} {b o : Nat} {xs : List Rl} (h : RAt w b o xs) (hb : Below base w w') (hl : b < base) : RAt w' b o xs :=
  fun j u hj => (hb.cell (p := ⟨b, _, none⟩) hl).trans (h j u hj)
theorem Rules.below {base : Nat} {w w' : World} {v : Value} {xs : List Rl} (h : Rules base w v xs) (hb : Below base w w') : Rules base w' v xs := by
  obtain ⟨A, cap, e, h0, h1, h2, h3⟩ := h
  refine ⟨A, cap, e, h0, h1, h2, fun hn => ?_⟩
  obtain ⟨b, o, ea, hl, hr⟩ := h3 hn
  exact ⟨b, o, ea, hl, hr.below hb hl⟩
theorem Rules.mono {base base' : Nat} {w : World} {v : Value} {xs : List Rl} (h : Rules base w v xs) (hb : base ≤ base') : Rules base' w v xs := by
  obtain ⟨A, cap, e, h0, h1, h2, h3⟩ := h
  refine ⟨A, cap, e, h0, h1, h2, fun hn => ?_⟩
  obtain ⟨b, o, ea, hl, hr⟩ := h3 hn
  exact ⟨b, o, ea, by omega, hr⟩
/-- A row of a call's own, read as rules. -/
theorem Rules.own {base : Nat} {w : World} {t : TypeId} {v : Value} {xs : List Rl} (h : w.ownsRow base t 5 v xs.length (cellsR xs)) : Rules w.heap.size w v xs := by
  obtain ⟨hl, hc⟩ := h
  rcases hc with ⟨rfl, h0⟩ | ⟨g, cap, cur, rfl, hb, hg, hn, hcap, hs, ht⟩
  · exact ⟨none, 0, by rw [h0], fun _ => rfl, by omega, by unfold maxLen; omega, fun hn => absurd (List.length_eq_zero_iff.1 h0) hn⟩
  · refine ⟨_, cap, rfl, (fun e => by cases e), hn, hcap, fun _ => ⟨g, 0, rfl, (Array.getElem?_eq_some_iff.1 hg).1, fun j u hj => ?_⟩⟩
    have hown : w.ownsRow base t 5 (.slice (some ⟨g, 0, none⟩) xs.length cap) xs.length (cellsR xs) := ⟨hl, .inr ⟨g, cap, cur, rfl, hb, hg, hn, hcap, hs, ht⟩⟩
    have := hown.cells (g := g) rfl j u hj
    rw [Addr.add_lit] at this
    exact this

/-! ### what a list says -/
theorem inR_all {ok : Bool} {p q s t : Int} (hp : 0 ≤ p ∧ p < 16) (hq : 0 ≤ q ∧ q < 16) (hs : 0 ≤ s ∧ s < 8) (ht : 0 ≤ t ∧ t < 8) : inR (allR ok) p q s t = true := by
  have one : ∀ (n : Int) (m : Nat), 0 ≤ n → n < m → hasB (2 ^ m - 1) n = true := by
    intro n m h0 h1
    unfold hasB
    rw [Nat.testBit_two_pow_sub_one]
    simp
    omega
  unfold inR allR inB
  have h1 := one p 16 hp.1 hp.2
  have h2 := one q 16 hq.1 hq.2
  have h3 := one s 8 hs.1 hs.2
  have h4 := one t 8 ht.1 ht.2
  simp only [show (2 : Nat) ^ 16 - 1 = 65535 from rfl, show (2 : Nat) ^ 8 - 1 = 255 from rfl] at h1 h2 h3 h4
  simp [h1, h2, h3, h4]
theorem letsB_append : ∀ (l m : List Rl) (p q s t : Int), (∃ r ∈ l, inR r p q s t = true) → letsB (l ++ m) p q s t = letsB l p q s t
  | [], _, _, _, _, _, h => by obtain ⟨r, hr, _⟩ := h; cases hr
  | x :: l, m, p, q, s, t, h => by
    simp only [List.cons_append, letsB]
    by_cases hx : inR x p q s t = true
    · rw [if_pos hx, if_pos hx]
    · rw [if_neg hx, if_neg hx]
      refine letsB_append l m p q s t ?_
      obtain ⟨r, hr, hi⟩ := h
      rcases List.mem_cons.1 hr with rfl | hr
      · exact absurd hi hx
      · exact ⟨r, hr, hi⟩
theorem letsB_none : ∀ (l m : List Rl) (p q s t : Int), (∀ r ∈ l, inR r p q s t = false) → letsB (l ++ m) p q s t = letsB m p q s t
  | [], _, _, _, _, _, _ => rfl
  | x :: l, m, p, q, s, t, h => by
    simp only [List.cons_append, letsB]
    rw [if_neg (by rw [h x (List.mem_cons_self ..)]; simp)]
    exact letsB_none l m p q s t (fun r hr => h r (List.mem_cons_of_mem _ hr))
/-- Behind a rule for all that lets nothing through nothing is looked at. -/
theorem letsB_ended (l m : List Rl) {p q s t : Int} (h : inR (allR false) p q s t = true) : letsB (l ++ (allR false :: m)) p q s t = letsB l p q s t := by
  by_cases hx : ∃ r ∈ l, inR r p q s t = true
  · exact letsB_append l _ p q s t hx
  · have hx' : ∀ r ∈ l, inR r p q s t = false := fun r hr => by
      cases hi : inR r p q s t
      · rfl
      · exact absurd ⟨r, hr, hi⟩ hx
    rw [letsB_none l _ p q s t hx', letsB, if_pos h]
    have := letsB_none l [] p q s t hx'
    rw [List.append_nil] at this
    rw [this]
    rfl
end Go.Proofs.Ytgcimcpcnoojnaa


