/-
  XBE.
-/
import Derived.Test.YtlmmeppifkigeaaGreatXAM
import Derived.Test.YtlmmeppifkigeaaGreatXAR
import Derived.Test.YtlmmeppifkigeaaGreatXBD
import Derived.Test.YtlmmeppifkigeaaGreatXAL
import Derived.Deep.RegionHeld3
set_option maxHeartbeats 8000000
set_option maxRecDepth 100000
namespace Go.Proofs.YtlmmeppifkigeaaGreat
open Go.RowKit Go.Maps
def pkE (p : Pk) : Env := fun v => if v < 4 then p.s.toNat.testBit (3 - v) else if v < 8 then p.d.toNat.testBit (7 - v) else if v < 11 then p.sp.toNat.testBit (10 - v) else if v < 14 then p.dp.toNat.testBit (13 - v) else false
theorem val_of {k first n : Nat} {x : Env} (hn : n < 2 ^ k) (h : ∀ j, j < k -> x (first + j) = n.testBit (k - 1 - j)) : val k first x = n := by
 refine Nat.eq_of_testBit_eq fun i => ?_
 by_cases hi : i < k
 ·have e := val_test k first x (k - 1 - i) (by omega)
  rw [h _ (by omega), show k - 1 - (k - 1 - i) = i by omega] at e
  exact e
 ·rw [Nat.testBit_lt_two_pow (Nat.lt_of_lt_of_le (val_lt k first x) (Nat.pow_le_pow_right (by omega) (by omega))), Nat.testBit_lt_two_pow (Nat.lt_of_lt_of_le hn (Nat.pow_le_pow_right (by omega) (by omega)))]
theorem pk_bounds {p : Pk} (h : pkOk p = true) : (0 <= p.s ∧ p.s < 16) ∧ (0 <= p.d ∧ p.d < 16) ∧ (0 <= p.sp ∧ p.sp < 8) ∧ (0 <= p.dp ∧ p.dp < 8) := by
 unfold pkOk adB poB at h
 simp only [Bool.and_eq_true, decide_eq_true_eq] at h
 obtain ⟨⟨⟨h1, h2⟩, h3⟩, h4⟩ := h
 exact ⟨h1, h2, h3, h4⟩
theorem pk_made {p : Pk} (h1 : 0 <= p.s ∧ p.s < 16) (h2 : 0 <= p.d ∧ p.d < 16) (h3 : 0 <= p.sp ∧ p.sp < 8) (h4 : 0 <= p.dp ∧ p.dp < 8) : pkOk p = true := by
 unfold pkOk adB poB
 simp only [Bool.and_eq_true, decide_eq_true_eq]
 exact ⟨⟨⟨h1, h2⟩, h3⟩, h4⟩
theorem phi_pk (sa sb sc sd : Nat) {p : Pk} (h : pkOk p = true) : phi sa sb sc sd (pkE p) = (sa.testBit p.s.toNat && (sb.testBit p.d.toNat && (sc.testBit p.sp.toNat && sd.testBit p.dp.toNat))) := by
 obtain ⟨h1, h2, h3, h4⟩ := pk_bounds h
 unfold phi
 rw [sel_val, sel_val, sel_val, sel_val, Bool.and_true,
  val_of (k := 4) (first := 0) (n := p.s.toNat) (by show _ < 16; omega) (fun j hj => by unfold pkE; rw [if_pos (by omega)]; congr 1; omega),
  val_of (k := 4) (first := 4) (n := p.d.toNat) (by show _ < 16; omega) (fun j hj => by unfold pkE; rw [if_neg (by omega), if_pos (by omega)]; congr 1; omega),
  val_of (k := 3) (first := 8) (n := p.sp.toNat) (by show _ < 8; omega) (fun j hj => by unfold pkE; rw [if_neg (by omega), if_neg (by omega), if_pos (by omega)]; congr 1; omega),
  val_of (k := 3) (first := 11) (n := p.dp.toNat) (by show _ < 8; omega) (fun j hj => by unfold pkE; rw [if_neg (by omega), if_neg (by omega), if_neg (by omega), if_pos (by omega)]; congr 1; omega)]
theorem letsF_pk : ∀ (xs : List Rl) {p : Pk}, pkOk p = true -> letsF xs (pkE p) = letsB xs p.s p.d p.sp p.dp
 | [], _, _ => rfl
 | r :: l, p, h => by
   have e : phi r.a r.b r.c r.d (pkE p) = inR r p.s p.d p.sp p.dp := by
    rw [phi_pk _ _ _ _ h]
    obtain ⟨h1, h2, h3, h4⟩ := pk_bounds h
    unfold inR inB hasB
    rw [decide_eq_true h1.1, decide_eq_true h2.1, decide_eq_true h3.1, decide_eq_true h4.1]
    simp [Bool.and_assoc]
   rw [letsF, letsB, e, letsF_pk l h]
theorem anF_of (φ : Env -> Bool) (i : Nat) : ∀ (k : Nat) (x y : Env), (∀ v, v < i ∨ i + k <= v -> y v = x v) -> φ y = true -> anF φ i k x = true
 | 0, x, y, h, hy => by
   have : y = x := funext fun v => h v (by omega)
   rw [<- this]
   exact hy
 | k + 1, x, y, h, hy => by
   have ih := anF_of φ i k (setE x (i + k) (y (i + k))) y (fun v hv => by
    by_cases e : v = i + k
    ·rw [e, setE_same]
    ·rw [setE_ne _ _ e]
     exact h v (by omega)) hy
   show (anF φ i k (setE x (i + k) false) || anF φ i k (setE x (i + k) true)) = true
   rw [Bool.or_eq_true]
   cases hb : y (i + k)
   ·rw [hb] at ih
    exact Or.inl ih
   ·rw [hb] at ih
    exact Or.inr ih
theorem flF_pk (φ : Env -> Bool) (p : Pk) : flF φ (pkE p) = φ (pkE (flipP p)) := by
 show φ (swE (swE (swE (swE (swE (swE (swE (pkE p) 10 13) 9 12) 8 11) 3 7) 2 6) 1 5) 0 4) = _
 congr 1
 funext v
 match v with
 | 0 => rfl
 | 1 => rfl
 | 2 => rfl
 | 3 => rfl
 | 4 => rfl
 | 5 => rfl
 | 6 => rfl
 | 7 => rfl
 | 8 => rfl
 | 9 => rfl
 | 10 => rfl
 | 11 => rfl
 | 12 => rfl
 | 13 => rfl
 | n + 14 => simp [swE, pkE, show ¬ n + 14 < 4 by omega, show ¬ n + 14 < 8 by omega, show ¬ n + 14 < 11 by omega, show ¬ n + 14 < 14 by omega]
theorem pkE_s (s s' d sp dp : Int) (v : Nat) (h : v < 0 ∨ 0 + 4 <= v) : pkE ⟨s, d, sp, dp⟩ v = pkE ⟨s', d, sp, dp⟩ v := by
 simp [pkE, show ¬ v < 4 by omega]
theorem pkE_d (s d d' sp dp : Int) (v : Nat) (h : v < 4 ∨ 4 + 4 <= v) : pkE ⟨s, d, sp, dp⟩ v = pkE ⟨s, d', sp, dp⟩ v := by
 rcases h with h | h
 ·simp [pkE, h]
 ·simp [pkE, show ¬ v < 4 by omega, show ¬ v < 8 by omega]
theorem pkE_sp (s d sp sp' dp : Int) (v : Nat) (h : v < 8 ∨ 8 + 3 <= v) : pkE ⟨s, d, sp, dp⟩ v = pkE ⟨s, d, sp', dp⟩ v := by
 rcases h with h | h
 ·simp [pkE, h]
 ·simp [pkE, show ¬ v < 4 by omega, show ¬ v < 8 by omega, show ¬ v < 11 by omega]
theorem pkE_dp (s d sp dp dp' : Int) (v : Nat) (h : v < 11 ∨ 11 + 3 <= v) : pkE ⟨s, d, sp, dp⟩ v = pkE ⟨s, d, sp, dp'⟩ v := by
 rcases h with h | h
 ·simp [pkE, h]
 ·simp [pkE, show ¬ v < 4 by omega, show ¬ v < 8 by omega, show ¬ v < 11 by omega, show ¬ v < 14 by omega]
def L14 (φ : Env -> Bool) : Prop := ∀ x y : Env, (∀ i, i < 14 -> x i = y i) -> φ x = φ y
section
variable {φ ψ φ0 φ1 φ2 φ3 : Env -> Bool}
theorem L14.phi (a b c d : Nat) : L14 (phi a b c d) := fun x y h => by
 unfold Go.Proofs.YtlmmeppifkigeaaGreat.phi
 rw [sel_dep 4 a 0 x y (fun i h1 h2 => h i (by omega)), sel_dep 4 b 4 x y (fun i h1 h2 => h i (by omega)), sel_dep 3 c 8 x y (fun i h1 h2 => h i (by omega)), sel_dep 3 d 11 x y (fun i h1 h2 => h i (by omega))]
theorem L14.lets (xs : List Rl) : L14 (letsF xs) := letsF_dep xs
theorem L14.and (h : L14 φ) (g : L14 ψ) : L14 (fun x => φ x && ψ x) := fun x y e => by
 show (φ x && ψ x) = (φ y && ψ y)
 rw [h x y e, g x y e]
theorem L14.or (h : L14 φ) (g : L14 ψ) : L14 (fun x => φ x || ψ x) := fun x y e => by
 show (φ x || ψ x) = (φ y || ψ y)
 rw [h x y e, g x y e]
theorem L14.an (h : L14 φ) (i : Nat) : ∀ k, L14 (anF φ i k)
 | 0 => h
 | k + 1 => fun x y e => by
   have g : ∀ b, ∀ j, j < 14 -> setE x (i + k) b j = setE y (i + k) b j := fun b j hj => by
    unfold setE
    split
    ·rfl
    ·exact e j hj
   show (anF φ i k (setE x (i + k) false) || anF φ i k (setE x (i + k) true)) = (anF φ i k (setE y (i + k) false) || anF φ i k (setE y (i + k) true))
   rw [h.an i k _ _ (g false), h.an i k _ _ (g true)]
theorem L14.ex (h : L14 φ) (i j : Nat) : ∀ k, i + k <= 14 -> j + k <= 14 -> L14 (exF φ i j k)
 | 0, _, _ => h
 | k + 1, hi, hj => fun x y e => h.ex i j k (by omega) (by omega) _ _ (fun v hv => by
   unfold swE
   split
   ·exact e _ (by omega)
   split
   ·exact e _ (by omega)
   ·exact e v hv)
theorem L14.fl (h : L14 φ) : L14 (flF φ) := (h.ex 0 4 4 (by omega) (by omega)).ex 8 11 3 (by omega) (by omega)
theorem L14.send (h0 : L14 φ0) (h1 : L14 φ1) (h2 : L14 φ2) (h3 : L14 φ3) (d : Dv) (pt : Int) : L14 (sendF d pt φ0 φ1 φ2 φ3) := by
 have hf : L14 (fun _ => false) := fun _ _ _ => rfl
 unfold sendF
 split
 ·exact (((((hf.or h0).or h1).or h2).or h3).and (L14.phi _ _ _ _)).and (L14.lets _)
 split
 ·split
  ·exact h0.and (L14.lets _)
  ·exact h1.and (h0.and (L14.lets _)).fl
 split
 ·split
  ·exact ((h0.an 8 3).an 0 4).and (L14.phi _ _ _ _)
  ·exact (((h1.and (L14.phi _ _ _ _)).an 11 3).an 4 4).and ((h0.an 11 3).an 4 4).fl
 split
 ·split
  ·exact (h0.and (L14.phi _ _ _ _)).or ((((h0.and (L14.phi _ _ _ _)).an 4 4)).and (L14.phi _ _ _ _))
  ·exact h1.or (((h1.and ((L14.phi _ _ _ _).and ((h0.and (L14.phi _ _ _ _)).an 4 4).fl)).an 0 4).and (L14.phi _ _ _ _))
 ·exact hf
end
section
variable {ds : List Dv} {ls : List Lk} {K : Nat}
theorem L14.set : ∀ k a b, L14 (SetF ds ls k a b)
 | 0, a, b => fun x y e => Bool.eq_iff_iff.2 (by
   rw [setF_zero, setF_zero]
   constructor
   ·rintro ⟨i, d, h1, h2, h3, h4, h5⟩
    exact ⟨i, d, h1, h2, h3, h4, by rw [<- L14.phi _ _ _ _ x y e]; exact h5⟩
   ·rintro ⟨i, d, h1, h2, h3, h4, h5⟩
    exact ⟨i, d, h1, h2, h3, h4, by rw [L14.phi _ _ _ _ x y e]; exact h5⟩)
 | k + 1, a, b => fun x y e => Bool.eq_iff_iff.2 (by
   have S : ∀ d pt i, sendF d pt (SetF ds ls k i 0) (SetF ds ls k i 1) (SetF ds ls k i 2) (SetF ds ls k i 3) x = sendF d pt (SetF ds ls k i 0) (SetF ds ls k i 1) (SetF ds ls k i 2) (SetF ds ls k i 3) y := fun d pt i => L14.send (L14.set k i 0) (L14.set k i 1) (L14.set k i 2) (L14.set k i 3) d pt x y e
   rw [setF_succ, setF_succ, L14.set k a b x y e]
   refine or_congr Iff.rfl ⟨?_, ?_⟩
   ·rintro ⟨i, q, d, h1, h2, h3, h4, h5, h6⟩
    exact ⟨i, q, d, h1, h2, h3, h4, h5, by rw [<- S]; exact h6⟩
   ·rintro ⟨i, q, d, h1, h2, h3, h4, h5, h6⟩
    exact ⟨i, q, d, h1, h2, h3, h4, h5, by rw [S]; exact h6⟩)
theorem L14.at (p q : Int) : L14 (atF ds ls K p q) := by
 unfold atF
 split
 ·exact L14.set _ _ _
 ·exact fun _ _ _ => rfl
end
theorem env_pk {p : Pk} (h : pkOk p = true) (v : Nat) (hv : v < 14) : envOf 14 (codeR p.s p.d p.sp p.dp) v = pkE p v := by
 obtain ⟨h1, h2, h3, h4⟩ := pk_bounds h
 generalize hc : codeR p.s p.d p.sp p.dp = c
 have hc' : (c : Int) = p.s * 1024 + p.d * 64 + p.sp * 8 + p.dp := by
  rw [<- hc]
  unfold codeR
  omega
 have e1 : val 4 0 (envOf 14 c) = p.s.toNat := by rw [val_env 14 c 4 0 (by omega)]; show c / 1024 % 16 = _; omega
 have e2 : val 4 4 (envOf 14 c) = p.d.toNat := by rw [val_env 14 c 4 4 (by omega)]; show c / 64 % 16 = _; omega
 have e3 : val 3 8 (envOf 14 c) = p.sp.toNat := by rw [val_env 14 c 3 8 (by omega)]; show c / 8 % 8 = _; omega
 have e4 : val 3 11 (envOf 14 c) = p.dp.toNat := by rw [val_env 14 c 3 11 (by omega)]; show c / 1 % 8 = _; omega
 unfold pkE
 by_cases v4 : v < 4
 ·rw [if_pos v4, <- e1]
  have := val_test 4 0 (envOf 14 c) v v4
  rw [Nat.zero_add] at this
  exact this.symm
 rw [if_neg v4]
 by_cases v8 : v < 8
 ·rw [if_pos v8, <- e2]
  have := val_test 4 4 (envOf 14 c) (v - 4) (by omega)
  rw [show 4 + (v - 4) = v by omega, show 4 - 1 - (v - 4) = 7 - v by omega] at this
  exact this.symm
 rw [if_neg v8]
 by_cases v11 : v < 11
 ·rw [if_pos v11, <- e3]
  have := val_test 3 8 (envOf 14 c) (v - 8) (by omega)
  rw [show 8 + (v - 8) = v by omega, show 3 - 1 - (v - 8) = 10 - v by omega] at this
  exact this.symm
 rw [if_neg v11, if_pos hv, <- e4]
 have := val_test 3 11 (envOf 14 c) (v - 11) (by omega)
 rw [show 11 + (v - 11) = v by omega, show 3 - 1 - (v - 11) = 13 - v by omega] at this
 exact this.symm
theorem full16 {n : Int} (h : 0 <= n ∧ n < 16) : Nat.testBit 65535 n.toNat = true := by
 have : ∀ m, m < 16 -> Nat.testBit 65535 m = true := by decide
 exact this _ (by omega)
theorem full8 {n : Int} (h : 0 <= n ∧ n < 8) : Nat.testBit 255 n.toNat = true := by
 have : ∀ m, m < 8 -> Nat.testBit 255 m = true := by decide
 exact this _ (by omega)
theorem setL_bit : ∀ (l : List Int) (z i : Nat), (setL l z).testBit i = true ↔ z.testBit i = true ∨ ∃ x ∈ l, x.toNat = i
 | [], z, i => by simp [setL]
 | x :: l, z, i => by
   rw [setL, setL_bit l, Nat.testBit_or, Nat.testBit_two_pow]
   simp
   constructor
   ·rintro ((h | h) | h)
    ·exact Or.inl h
    ·exact Or.inr (Or.inl h)
    ·exact Or.inr (Or.inr h)
   ·rintro (h | h | h)
    ·exact Or.inl (Or.inl h)
    ·exact Or.inl (Or.inr h)
    ·exact Or.inr h
theorem setL_mem {l : List Int} {x : Int} (h : x ∈ l) : (setL l 0).testBit x.toNat = true := (setL_bit l 0 _).2 (Or.inr ⟨x, h, rfl⟩)
theorem setL_one (x : Int) : (setL [x] 0).testBit x.toNat = true := setL_mem (by simp)
theorem not_one {x y : Int} (hx : 0 <= x ∧ x < 16) (hy : 0 <= y ∧ y < 16) (h : ¬ y = x) : (notN (setL [x] 0)).testBit y.toNat = true := by
 rw [(notN_spec _).2.2 _ (by omega)]
 cases hb : (setL [x] 0).testBit y.toNat
 ·rfl
 ·rw [setL_bit] at hb
  simp at hb
  omega
theorem send_f {d : Dv} {i : Int} {I : PSet} {F : Nat -> Env -> Bool} (hI : ∀ (q : Nat) (p : Pk), q < 4 -> I (i, (q : Int)) p -> F q (pkE p) = true) (hd : devC d = 0) {o : Int} {p : Pk} (hp : pkOk p = true) (hs : sendR d i I o p) : sendF d o (F 0) (F 1) (F 2) (F 3) (pkE p) = true := by
 obtain ⟨_, ha, hbs, _, _⟩ := dev_right hd
 obtain ⟨h1, h2, h3, h4⟩ := pk_bounds hp
 unfold sendR at hs
 unfold sendF
 by_cases k2 : d.kind = 2
 ·rw [if_pos k2] at hs ⊢
  obtain ⟨q, q0, q4, hq, hl, ho, hn⟩ := hs
  have e : F q.toNat (pkE p) = true := hI q.toNat p (by omega) (by rw [show ((q.toNat : Nat) : Int) = q by omega]; exact hq)
  have e1 : orP (F 0) (F 1) (F 2) (F 3) 4 (pkE p) = true := by
   show ((((false || F 0 (pkE p)) || F 1 (pkE p)) || F 2 (pkE p)) || F 3 (pkE p)) = true
   have hq : q.toNat = 0 ∨ q.toNat = 1 ∨ q.toNat = 2 ∨ q.toNat = 3 := by omega
   rcases hq with h | h | h | h <;> rw [h] at e <;> simp [e]
  have e2 : (sentN (routesD d) o 16).testBit p.d.toNat = true := by
   rw [sentN_bit, decide_eq_true (show p.d.toNat < 16 by omega)]
   unfold sentB
   rw [show ((p.d.toNat : Nat) : Int) = p.d by omega]
   show (true && (outB (routesOf d) p.d && (outN (routesOf d) p.d == o))) = true
   rw [ho, hn]
   simp
  have e3 : letsF (rulesD d) (pkE p) = true := by rw [letsF_pk _ hp]; exact hl
  show (((orP (F 0) (F 1) (F 2) (F 3) 4 (pkE p)) && (phi 65535 (sentN (routesD d) o 16) 255 255 (pkE p))) && letsF (rulesD d) (pkE p)) = true
  rw [e1, e3, phi_pk _ _ _ _ hp, full16 h1, e2, full8 h3, full8 h4]
  rfl
 rw [if_neg k2] at hs ⊢
 by_cases k3 : d.kind = 3
 ·rw [if_pos k3] at hs ⊢
  by_cases o1 : o = 1
  ·rw [if_pos o1] at hs ⊢
   show (F 0 (pkE p) && letsF (rulesD d) (pkE p)) = true
   rw [hI 0 p (by omega) hs.1, letsF_pk _ hp]
   exact hs.2
  ·rw [if_neg o1] at hs ⊢
   obtain ⟨_, g1, g2, g3⟩ := hs
   show (F 1 (pkE p) && flF (fun x => F 0 x && letsF (rulesD d) x) (pkE p)) = true
   rw [flF_pk, hI 1 p (by omega) g1]
   show (true && (F 0 (pkE (flipP p)) && letsF (rulesD d) (pkE (flipP p)))) = true
   rw [hI 0 _ (by omega) g2, letsF_pk _ (p := flipP p) (pk_made h2 h1 h4 h3)]
   exact g3
 rw [if_neg k3] at hs ⊢
 by_cases k4 : d.kind = 4
 ·rw [if_pos k4] at hs ⊢
  by_cases o1 : o = 1
  ·rw [if_pos o1] at hs ⊢
   obtain ⟨g1, g2, s, sp, g3⟩ := hs
   have gp : d.pool.testBit p.sp.toNat = true := by
    unfold poolB at g2
    simp only [Bool.and_eq_true] at g2
    exact g2.2
   show (anF (anF (F 0) 8 3) 0 4 (pkE p) && phi (setL [d.addr] 0) 65535 d.pool 255 (pkE p)) = true
   rw [anF_of _ 0 4 (pkE p) (pkE ⟨s, p.d, p.sp, p.dp⟩) (pkE_s _ _ _ _ _) (anF_of _ 8 3 _ (pkE ⟨s, p.d, sp, p.dp⟩) (pkE_sp _ _ _ _ _) (hI 0 _ (by omega) g3)), phi_pk _ _ _ _ hp, g1, setL_one, full16 h2, gp, full8 h4]
   rfl
  ·rw [if_neg o1] at hs ⊢
   obtain ⟨_, ⟨k, g1, g2⟩, x, y, g3⟩ := hs
   unfold poolB poB at g1
   simp only [Bool.and_eq_true, decide_eq_true_eq] at g1
   obtain ⟨gk, gp⟩ := g1
   show (anF (anF (fun x => F 1 x && phi 65535 (setL [d.addr] 0) 255 d.pool x) 11 3) 4 4 (pkE p) && flF (anF (anF (F 0) 11 3) 4 4) (pkE p)) = true
   rw [flF_pk, anF_of _ 4 4 (pkE p) (pkE ⟨p.s, d.addr, p.sp, p.dp⟩) (pkE_d _ _ _ _ _) (anF_of _ 11 3 _ (pkE ⟨p.s, d.addr, p.sp, k⟩) (pkE_dp _ _ _ _ _) (by
    show (F 1 (pkE ⟨p.s, d.addr, p.sp, k⟩) && phi 65535 (setL [d.addr] 0) 255 d.pool (pkE ⟨p.s, d.addr, p.sp, k⟩)) = true
    rw [hI 1 _ (by omega) g2, phi_pk _ _ _ _ (p := ⟨p.s, d.addr, p.sp, k⟩) (pk_made h1 ha h3 gk), full16 h1, setL_one, full8 h3, gp]
    rfl)),
    anF_of _ 4 4 (pkE (flipP p)) (pkE ⟨p.d, x, p.dp, p.sp⟩) (pkE_d _ _ _ _ _) (anF_of _ 11 3 _ (pkE ⟨p.d, x, p.dp, y⟩) (pkE_dp _ _ _ _ _) (hI 0 _ (by omega) g3))]
   rfl
 rw [if_neg k4] at hs ⊢
 by_cases k5 : d.kind = 5
 ·rw [if_pos k5] at hs ⊢
  by_cases o1 : o = 1
  ·rw [if_pos o1] at hs ⊢
   show ((F 0 (pkE p) && phi 65535 (notN (setL [d.addr] 0)) 255 255 (pkE p)) || (anF (fun x => F 0 x && phi 65535 (setL [d.addr] 0) 255 255 x) 4 4 (pkE p) && phi 65535 (setL d.backs 0) 255 255 (pkE p))) = true
   rw [Bool.or_eq_true]
   rcases hs with ⟨g1, g2⟩ | ⟨g1, g2⟩
   ·refine Or.inl ?_
    rw [hI 0 _ (by omega) g1, phi_pk _ _ _ _ hp, full16 h1, not_one ha h2 g2, full8 h3, full8 h4]
    rfl
   ·refine Or.inr ?_
    rw [phi_pk _ _ _ _ hp, full16 h1, setL_mem g1, full8 h3, full8 h4, anF_of _ 4 4 (pkE p) (pkE ⟨p.s, d.addr, p.sp, p.dp⟩) (pkE_d _ _ _ _ _) (by
     show (F 0 (pkE ⟨p.s, d.addr, p.sp, p.dp⟩) && phi 65535 (setL [d.addr] 0) 255 255 (pkE ⟨p.s, d.addr, p.sp, p.dp⟩)) = true
     rw [hI 0 _ (by omega) g2, phi_pk _ _ _ _ (p := ⟨p.s, d.addr, p.sp, p.dp⟩) (pk_made h1 ha h3 h4), full16 h1, setL_one, full8 h3, full8 h4]
     rfl)]
    rfl
  ·rw [if_neg o1] at hs ⊢
   show (F 1 (pkE p) || (anF (fun x => F 1 x && (phi (setL d.backs 0) 65535 255 255 x && flF (anF (fun x => F 0 x && phi 65535 (setL [d.addr] 0) 255 255 x) 4 4) x)) 0 4 (pkE p) && phi (setL [d.addr] 0) 65535 255 255 (pkE p))) = true
   rw [Bool.or_eq_true]
   rcases hs.2 with g1 | ⟨g1, b, g2, g3, g4⟩
   ·exact Or.inl (hI 1 _ (by omega) g1)
   ·have hb := hbs b g2
    refine Or.inr ?_
    rw [phi_pk _ _ _ _ hp, g1, setL_one, full16 h2, full8 h3, full8 h4, anF_of _ 0 4 (pkE p) (pkE ⟨b, p.d, p.sp, p.dp⟩) (pkE_s _ _ _ _ _) (by
     show (F 1 (pkE ⟨b, p.d, p.sp, p.dp⟩) && (phi (setL d.backs 0) 65535 255 255 (pkE ⟨b, p.d, p.sp, p.dp⟩) && flF (anF (fun x => F 0 x && phi 65535 (setL [d.addr] 0) 255 255 x) 4 4) (pkE ⟨b, p.d, p.sp, p.dp⟩))) = true
     rw [hI 1 _ (by omega) g3, phi_pk _ _ _ _ (p := ⟨b, p.d, p.sp, p.dp⟩) (pk_made hb h2 h3 h4), setL_mem g2, full16 h2, full8 h3, full8 h4, flF_pk, anF_of _ 4 4 (pkE (flipP ⟨b, p.d, p.sp, p.dp⟩)) (pkE ⟨p.d, d.addr, p.dp, p.sp⟩) (pkE_d _ _ _ _ _) (by
      show (F 0 (pkE ⟨p.d, d.addr, p.dp, p.sp⟩) && phi 65535 (setL [d.addr] 0) 255 255 (pkE ⟨p.d, d.addr, p.dp, p.sp⟩)) = true
      rw [hI 0 _ (by omega) g4, phi_pk _ _ _ _ (p := ⟨p.d, d.addr, p.dp, p.sp⟩) (pk_made h2 ha h4 h3), full16 h2, setL_one, full8 h4, full8 h3]
      rfl)]
     rfl)]
    rfl
 rw [if_neg k5] at hs
 exact hs.elim
def SetP (ds : List Dv) (ls : List Lk) (K : Nat) : PSet := fun t p => atF ds ls K t.1 t.2 (pkE p) = true
theorem atF_nat {ds : List Dv} {ls : List Lk} {K a b : Nat} (ha : a < 10) (hb : b < 4) : atF ds ls K (a : Int) (b : Int) = SetF ds ls K a b := by
 unfold atF
 rw [if_pos (by omega)]
 rfl
theorem closed_last {ds : List Dv} {ls : List Lk} {K : Nat} (hz : netV ds ls = 0) (hf : ∀ a b, a < 10 -> b < 4 -> SetF ds ls (K + 1) a b = SetF ds ls K a b) : Closed ds ls (SetP ds ls K) := by
 have h10 := (netV_links hz).1
 constructor
 ·intro i d p t hd hk hp hs hpe
  obtain ⟨a, b, rfl, ha, hb⟩ := peer_pl hz hpe
  have hi := (List.getElem?_eq_some_iff.1 hd).1
  obtain ⟨h1, h2, h3, h4⟩ := pk_bounds hp
  show atF ds ls K (a : Int) (b : Int) (pkE p) = true
  rw [atF_nat ha hb]
  refine setF_up (Nat.zero_le K) a b _ ?_
  rw [setF_zero]
  refine ⟨i, d, hi, hd, hk, hpe, ?_⟩
  rw [phi_pk _ _ _ _ hp, hs, setL_one, full16 h2, full8 h3, full8 h4]
  rfl
 ·intro i d o p t hd hp hs hpe
  obtain ⟨a, b, rfl, ha, hb⟩ := peer_pl hz hpe
  have hi := (List.getElem?_eq_some_iff.1 hd).1
  obtain ⟨l, hl, he⟩ := peerF_of hpe
  have hpl : isPl ds (i : Int) o = true := by
   have hp := (netV_links hz).2.2.2 l hl
   rcases endOf_ends he with ⟨e, _⟩ | ⟨e, _⟩
   ·have := hp.1
    rw [e.1, e.2] at this
    exact this
   ·have := hp.2
    rw [e.1, e.2] at this
    exact this
  unfold isPl at hpl
  simp only [Bool.and_eq_true, decide_eq_true_eq] at hpl
  have hk : kindAt ds (i : Int) = d.kind := by
   unfold kindAt
   simp [hd]
  rw [hk] at hpl
  show atF ds ls K (a : Int) (b : Int) (pkE p) = true
  rw [atF_nat ha hb, <- hf a b ha hb, setF_succ]
  refine Or.inr ⟨i, o.toNat, d, Or.inl hi, fun h => h, hd, by omega, ?_, ?_⟩
  ·rw [show ((o.toNat : Nat) : Int) = o by omega]
   exact hpe
  ·rw [show ((o.toNat : Nat) : Int) = o by omega]
   exact send_f (i := (i : Int)) (I := SetP ds ls K) (F := SetF ds ls K i) (fun q p hq h => by
    have h' : atF ds ls K (i : Int) (q : Int) (pkE p) = true := h
    rw [atF_nat (by omega) hq] at h'
    exact h') (netV_devsR hz d (List.mem_of_getElem? hd)) hp hs
theorem set_round {ds : List Dv} {ls : List Lk} {K : Nat} {t : Int × Int} {p : Pk} (hp : pkOk p = true) (h : SetP ds ls K t p) : (pkR p.s p.d p.sp p.dp && atF ds ls K t.1 t.2 (envOf 14 (codeR p.s p.d p.sp p.dp))) = true := by
 have e : pkR p.s p.d p.sp p.dp = true := by
  obtain ⟨h1, h2, h3, h4⟩ := pk_bounds hp
  unfold pkR adR poR
  simp
  omega
 rw [e, L14.at t.1 t.2 _ _ (env_pk hp)]
 exact h
theorem clone_arrs {v : Value} {N : Nat} {cs : List Value} (w : World) (h : RowAt w.heap.size w v N 6 cs) (hs : N <= 1048576) :
  Calls Tryz.prog 32 #[v] w fun e w' => ∃ v', e = .returned v' ∧ w'.ownsRow w.heap.size 45 6 v' N cs ∧ Below w.heap.size w w' := by
 have q : ∀ (w : World) (a : Option Addr) (n c n' c' : Nat), (binOp .eql 40 (.slice a n c) (.slice none n' c')).run Tryz.prog w = .ok (.bool a.isNone) w := fun w a n c n' c' => Lib.run_eql_slice_nil w _ _ a n c n' c' uArs
 obtain ⟨i0, hi, hz0, hz1, hz2⟩ := info_parts infoAr
 have D0 := Below.alN (Below.refl w.heap.size w) (.cells #[] 45)
 have o0 : (w.alloc (.cells #[] 45)).ownsRow w.heap.size 45 6 (.slice (some ⟨w.heap.size, 0, none⟩) 0 0) 0 [] := World.ownsRow_made w #[] 0 (Nat.le_refl _) (Nat.zero_le _) (by simp)
 obtain ⟨A, cap, rfl, h0, h1, h2, hl, ho, h3⟩ := h
 cases A with
 | none =>
   have hN : N = 0 := by
    by_cases hn : N = 0
    ·exact hn
    ·obtain ⟨_, _, e, _⟩ := h3 hn
     cases e
   subst hN
   have hcs : cs = [] := List.length_eq_zero_iff.1 (by simpa using hl)
   subst hcs
   clear h3 ho hl hs o0
   go_enter Tryz.func32, Tryz.ntmps32
   go_wp2_with fail
   go_ret
   exact ⟨_, rfl, World.ownsRow_nil _ _ _ _, Below.refl _ _⟩
 | some ad =>
   obtain ⟨v', w', hr, h4, h5, _⟩ := run_append_own (P := Tryz.prog) (w.alloc (.cells #[] 45)) w.heap.size 40 40 45 i0 _ 6 48 uArs hi hz0 hz1 hz2 rfl (by decide) _ 0 [] o0 ad N cap cs hl (fun j u hj => by
    have hn : N ≠ 0 := fun e => by
     subst e
     have : cs = [] := List.length_eq_zero_iff.1 (by simpa using hl)
     subst this
     simp at hj
    obtain ⟨b, o, e, hb, hr⟩ := h3 hn
    cases e
    rw [Addr.add_lit]
    exact (D0.cell (p := ⟨b, o + j, none⟩) hb).trans (hr j u hj)) ho (by unfold maxLen; omega) (by omega) (by simp)
   have D1 := Below.appC D0 o0 h5 (Nat.le_refl _) (by simp)
   simp only [List.nil_append, Nat.zero_add] at h4
   have fin : Hid (w'.ownsRow w.heap.size 45 6 v' N cs ∧ Below w.heap.size w w') := ⟨h4, D1⟩
   clear h0 h1 h2 h3 h5 hs o0 D0 h4 D1 hl ho
   go_enter Tryz.func32, Tryz.ntmps32
   go_wp2_with (at_builtin; refine append_runC rfl _ _ 40 rfl rfl rfl hr ?_)
   go_ret
   exact ⟨_, rfl, fin.out⟩
def IsArv (cs : List Value) (x : Arv) : Prop := cs = arC x
theorem oneArv (cs : List Value) (x : Arv) (h : IsArv cs x) : ∀ u ∈ cs, u.oneCell' = true := by
 unfold IsArv at h
 subst h
 exact arC_one x
theorem flat_at : ∀ (ar : List Arv) (k : Nat) (x : Arv), ar[k]? = some x -> (((ar.flatMap arC).drop (k * 6)).take 6) = arC x
 | [], k, x, h => by simp at h
 | y :: ys, 0, x, h => by
   obtain rfl := Option.some.inj h
   rfl
 | y :: ys, k + 1, x, h => by
   have e : ((y :: ys).flatMap arC).drop ((k + 1) * 6) = (ys.flatMap arC).drop (k * 6) := by
    rw [List.flatMap_cons, show (k + 1) * 6 = (arC y).length + k * 6 by show (k + 1) * 6 = 6 + k * 6; omega, List.drop_append]
    simp
   rw [e]
   exact flat_at ys k x (by simpa using h)
theorem WlAt.seenS {W : World} {p : Wp} {S : Option Addr} {cS : Nat} {ds : List Dv} {ls : List Lk} {n : Nat} {M : Mnd} {ar : List Arv} (h : WlAt W p S cS ds ls n M ar) : SlAt W.heap.size W 6 IsArv (.slice S ar.length cS) ar := SlAt.own h.seen (fun k x hx => flat_at ar k x hx)
theorem seen_any {p : Wp} {S : Option Addr} {cS : Nat} {ds : List Dv} {ls : List Lk} {n : Nat} {M : Mnd} {ar : List Arv} (w : World) (h : Hid (WlAt w p S cS ds ls n M ar)) (ha : ar.length <= 5000) :
  Calls Tryz.prog 11 #[.pointer (some ⟨p.B, 0, none⟩)] w fun e w' => ∃ A c, e = .returned (.slice A ar.length c) ∧ SlAt w'.heap.size w' 6 IsArv (.slice A ar.length c) ar ∧ (∀ a, A = some a -> w.heap.size <= a.block ∧ a.block < w'.heap.size) ∧ Below w.heap.size w w' := by
 obtain ⟨cs, hR, hr⟩ := h.out.seenS.row oneArv
 have CL : Hid (Calls Tryz.prog 32 #[.slice S ar.length cS] w fun e w' => ∃ A c, e = .returned (.slice A ar.length c) ∧ SlAt w'.heap.size w' 6 IsArv (.slice A ar.length c) ar ∧ (∀ a, A = some a -> w.heap.size <= a.block ∧ a.block < w'.heap.size) ∧ Below w.heap.size w w') := (clone_arrs w hR (by omega)).mono fun e w' ⟨v', h1, h2, h3⟩ => by
  obtain ⟨A, c, rfl, hA⟩ := own_sl h2
  exact ⟨A, c, h1, SlAt.own h2 hr, fun a ea => ⟨(own_blockW h2 (hA a ea)).2.1, (own_blockW h2 (hA a ea)).1⟩, h3⟩
 have b7 := h.out.blk.at 7
 clear h hR hr
 go_enter Tryz.func11, Tryz.ntmps11
 go_wp2_with fail
 with_reducible refine CL.out.mono ?_
 rintro e w2 ⟨A, c, rfl, h2⟩
 go_wp2_with fail
 go_ret
 exact ⟨A, c, rfl, h2⟩
theorem SlAt.arv {base : Nat} {w : World} {A : Option Addr} {c : Nat} {xs : List Arv} (h : SlAt base w 6 IsArv (.slice A xs.length c) xs) {k : Nat} {x : Arv} (hx : xs[k]? = some x) : ∃ b o, A = some ⟨b, o, none⟩ ∧ w.cell? ⟨b, o + k * 6, none⟩ = some (.int .i64 x.1.1) ∧ w.cell? ⟨b, o + k * 6 + 1, none⟩ = some (.int .i64 x.1.2) ∧ w.cell? ⟨b, o + k * 6 + 2, none⟩ = some (.int .i64 x.2.s) ∧ w.cell? ⟨b, o + k * 6 + 3, none⟩ = some (.int .i64 x.2.d) ∧ w.cell? ⟨b, o + k * 6 + 4, none⟩ = some (.int .i64 x.2.sp) ∧ w.cell? ⟨b, o + k * 6 + 5, none⟩ = some (.int .i64 x.2.dp) := by
 obtain ⟨A', c', e, h0, h1, h2, h3⟩ := h
 cases e
 obtain ⟨b, o, ea, hl, hr⟩ := h3 (fun e => by rw [e] at hx; cases hx)
 obtain ⟨cs, _, hc, c3⟩ := hr k x hx
 unfold IsArv at hc
 subst hc
 exact ⟨b, o, ea, c3 0 _ rfl, c3 1 _ rfl, c3 2 _ rfl, c3 3 _ rfl, c3 4 _ rfl, c3 5 _ rfl⟩
theorem wl_new {W : World} {m : Mp} {ds : List Dv} {ls : List Lk} {A L : Option Addr} {c d G : Nat} (hM : MemAt W m ds ls 0 noM) (hD : Devs W.heap.size W (.slice A ds.length c) ds) (hL : Links W.heap.size W (.slice L ls.length d) ls) (hG : MapAt arvE unitV W G 0 (fun _ => none)) (g1 : G ≠ m.f) (g2 : G ≠ m.o) (g3 : G ≠ m.k) :
  WlAt (W.alloc (.cells #[.slice A ds.length c, .slice L ls.length d, .slice m.A ds.length m.cap, .slice m.L ls.length m.cap', .map (some m.f), .map (some m.o), .map (some m.k), .slice none 0 0, .map (some G)] 85)) ⟨W.heap.size, m.f, m.o, m.k, m.A, m.cap, m.L, m.cap', A, c, L, d, G⟩ none 0 ds ls 0 noM [] := by
 have hb : Below W.heap.size W (W.alloc (.cells #[.slice A ds.length c, .slice L ls.length d, .slice m.A ds.length m.cap, .slice m.L ls.length m.cap', .map (some m.f), .map (some m.o), .map (some m.k), .slice none 0 0, .map (some G)] 85)) := (Below.refl _ _).alloc (Nat.le_refl _) _
 have hM' := hM.below hb
 refine ⟨bk_new W _ _, hD.below hb, hL.below hb, hM.devs.below hb, hM.links.below hb, hM'.fl, hM'.ow, hM'.bk, hM'.fo, hM'.fk, hM'.ok, ⟨rfl, Or.inl ⟨rfl, rfl⟩⟩, ?_, g1, g2, g3, ⟨hM.fl.lt, hM.ow.lt, hM.bk.lt, hG.lt⟩, fun x hx => by cases hx⟩
 rw [show inF ([] : List Arv) = fun _ => none from inF_no]
 exact hG.same (hb.block _ hG.lt)
def WNew (w : World) (ds : List Dv) (ls : List Lk) (e : Ending) (w' : World) : Prop :=
 Below w.heap.size w w' ∧ ((netV ds ls ≠ 0 ∧ e = .returned (.tuple #[.pointer none, .int .i64 (netV ds ls)])) ∨
  (netV ds ls = 0 ∧ ∃ p : Wp, e = .returned (.tuple #[.pointer (some ⟨p.B, 0, none⟩), .int .i64 0]) ∧ WlAt w' p none 0 ds ls 0 noM [] ∧ w.heap.size <= p.f ∧ w.heap.size <= p.o ∧ w.heap.size <= p.k ∧ w.heap.size <= p.B ∧ w.heap.size <= p.G))
theorem wnew_any (A L : Option Addr) (cap cap' : Nat) (ds : List Dv) (ls : List Lk) (w : World) (hD : Hid (Devs w.heap.size w (.slice A ds.length cap) ds)) (hL : Hid (Links w.heap.size w (.slice L ls.length cap') ls)) :
  Calls Tryz.prog 8 #[.agg #[.slice A ds.length cap, .slice L ls.length cap']] w (WNew w ds ls) := by
 have N2 : Hid (∀ (W : World), Below w.heap.size w W -> Calls Tryz.prog 23 #[.agg #[.slice A ds.length cap, .slice L ls.length cap']] W (NewOut W ds ls)) := fun W h => new_any A L cap cap' ds ls W ((hD.out.below h).mono h.size) ((hL.out.below h).mono h.size)
 have D0 := Below.alN (Below.refl w.heap.size w) (.cells #[.slice A ds.length cap, .slice L ls.length cap'] 25)
 have N0 := bk_new w #[.slice A ds.length cap, .slice L ls.length cap'] 25
 obtain ⟨n0, n1⟩ := N0.two
 go_enter Tryz.func8, Tryz.ntmps8
 go_wp2_with fail
 refine (N2.out _ D0).mono ?_
 rintro e w1 ⟨hb1, hN⟩
 have D1 := chnN hb1 D0
 have N1 := N0.keep hb1
 have z0 := D0.size
 clear hb1 D0 N0 n0 n1 N2
 rcases hN with ⟨hne, rfl⟩ | ⟨hz, m, rfl, hM, l1, l2, l3, l4, q1, q2, q3⟩
 ·have hz1 : (netV ds ls == 0) = false := by simpa using hne
  generalize hnv : netV ds ls = nv at *
  have HNZ : Hid (¬ nv = 0) := hne
  clear hne
  go_wp2_with fail
  all_goals first | exact absurd (by assumption) HNZ.out | skip
  go_ret2
  exact ⟨D1, .inl ⟨by rw [hnv]; exact HNZ.out, by rw [hnv]; rfl⟩⟩
 have CP : Hid (∀ W, Below w.heap.size w W -> Calls Tryz.prog 24 #[.agg #[.slice A ds.length cap, .slice L ls.length cap']] W (CopyOut W ds ls)) := fun W h => copy_any A L cap cap' ds ls W ((hD.out.below h).mono h.size) ((hL.out.below h).mono h.size) (small_of hz)
 obtain ⟨z, pre, post, ty, B, f, o, k, A2, c2, L2, d2⟩ := m
 dsimp only at q1 q2 q3 l1 l2 l3 l4
 subst q1 q2 q3
 have HZ : Hid (netV ds ls = 0) := hz
 have fin : Hid (∀ (W : World) (A' : Option Addr) (c' : Nat) (L' : Option Addr) (d' G : Nat), MemAt W ⟨0, [], [], ty, B, f, o, k, A2, c2, L2, d2⟩ ds ls 0 noM -> Devs W.heap.size W (.slice A' ds.length c') ds -> Links W.heap.size W (.slice L' ls.length d') ls -> MapAt arvE unitV W G 0 (fun _ => none) -> w1.heap.size <= G -> Below w.heap.size w W -> WNew w ds ls (.returned (.tuple #[.pointer (some ⟨W.heap.size, 0, none⟩), .int .i64 0])) (W.alloc (.cells #[.slice A' ds.length c', .slice L' ls.length d', .slice A2 ds.length c2, .slice L2 ls.length d2, .map (some f), .map (some o), .map (some k), .slice none 0 0, .map (some G)] 85))) := by
  intro W A' c' L' d' G h1 h2 h3 h4 h5 h6
  have f1 := hM.fl.lt
  have f2 := hM.ow.lt
  have f3 := hM.bk.lt
  dsimp only at f1 f2 f3
  have z6 := h6.size
  have z1 := D1.size
  exact ⟨Below.alN h6 _, .inr ⟨hz, _, rfl, wl_new h1 h2 h3 h4 (by show G ≠ f; omega) (by show G ≠ o; omega) (by show G ≠ k; omega), by show w.heap.size <= f; omega, by show w.heap.size <= o; omega, by show w.heap.size <= k; omega, by show w.heap.size <= W.heap.size; omega, by show w.heap.size <= G; omega⟩⟩
 obtain ⟨Q, hQ⟩ : ∃ Q : World -> Prop, Q = fun W => MemAt W ⟨0, [], [], ty, B, f, o, k, A2, c2, L2, d2⟩ ds ls 0 noM ∧ Bk W w.heap.size #[.slice A ds.length cap, .slice L ls.length cap'] 25 ∧ Below w.heap.size w W := ⟨_, rfl⟩
 have Q1 : Q w1 := by rw [hQ]; exact ⟨hM, N1, D1⟩
 have FS : ∀ {w' : World}, Q w' -> w'.cell? ⟨w.heap.size, 0, none⟩ = some (.slice A ds.length cap) ∧ w'.cell? ⟨w.heap.size, 1, none⟩ = some (.slice L ls.length cap') ∧ w'.cell? ⟨B, 0, none⟩ = some (.slice A2 ds.length c2) ∧ w'.cell? ⟨B, 1, none⟩ = some (.slice L2 ls.length d2) ∧ w'.cell? ⟨B, 2, none⟩ = some (.map (some f)) ∧ w'.cell? ⟨B, 3, none⟩ = some (.map (some o)) ∧ w'.cell? ⟨B, 4, none⟩ = some (.map (some k)) := fun {w'} h => by
  rw [hQ] at h
  have h1 := h.1.cells
  simp only [Nat.zero_add] at h1
  exact ⟨h.2.1.at 0, h.2.1.at 1, h1⟩
 have KP : ∀ {W W' : World}, Q W -> Below W.heap.size W W' -> Q W' := fun {W W'} h hb => by
  rw [hQ] at h ⊢
  exact ⟨h.1.below hb, h.2.1.keep hb, chnN hb h.2.2⟩
 have AL : ∀ {W : World} (o : Obj), Q W -> Q (W.alloc o) := fun o h => KP h ((Below.refl _ _).alloc (Nat.le_refl _) o)
 have DR : ∀ {W : World}, Q W -> Q W.drew := fun h => KP h (Below.refl _ _).drew
 have CQ : Hid (∀ W, Q W -> Calls Tryz.prog 24 #[.agg #[.slice A ds.length cap, .slice L ls.length cap']] W fun e w' => ∃ A' c' L' d', e = .returned (.agg #[.slice A' ds.length c', .slice L' ls.length d']) ∧ Hid (Devs w'.heap.size w' (.slice A' ds.length c') ds ∧ Links w'.heap.size w' (.slice L' ls.length d') ls) ∧ Below W.heap.size W w') := fun W h => (CP.out W (by rw [hQ] at h; exact h.2.2)).mono fun e w' ⟨A', c', L', d', h1, h2, h3, h4⟩ => ⟨A', c', L', d', h1, ⟨h2, h3⟩, h4⟩
 have fin2 : Hid (∀ (W : World) (A' : Option Addr) (c' : Nat) (L' : Option Addr) (d' G : Nat), Q W -> Devs W.heap.size W (.slice A' ds.length c') ds -> Links W.heap.size W (.slice L' ls.length d') ls -> MapAt arvE unitV W G 0 (fun _ => none) -> w1.heap.size <= G -> WNew w ds ls (.returned (.tuple #[.pointer (some ⟨W.heap.size, 0, none⟩), .int .i64 0])) (W.alloc (.cells #[.slice A' ds.length c', .slice L' ls.length d', .slice A2 ds.length c2, .slice L2 ls.length d2, .map (some f), .map (some o), .map (some k), .slice none 0 0, .map (some G)] 85))) := fun W A' c' L' d' G h h2 h3 h4 h5 => by
  rw [hQ] at h
  exact fin.out W A' c' L' d' G h.1 h2 h3 h4 h5 h.2.2
 generalize WNew w ds ls = WN at *
 have G1 : Hid (MapAt arvE unitV (w1.alloc (.map #[] 0)).drew w1.heap.size 0 (fun _ => none)) := mapAt_made arvE unitV w1
 have Q1d := DR Q1
 have Q1a := DR (AL (.map #[] 0) Q1)
 obtain ⟨a0, a1, a2, a3, a4, a5, a6⟩ := FS Q1
 clear fin CP HZ hz hM D1 N1 hQ hD hL l1 l2 l3 l4 z0
 have hmm := @run_makeMap Tryz.prog
 go_upto_region 4 with fail
 go_region_held3 (fun w' => w'.cell? ⟨w.heap.size, 0, none⟩ = some (.slice A ds.length cap) ∧ w'.cell? ⟨w.heap.size, 1, none⟩ = some (.slice L ls.length cap') ∧ w'.cell? ⟨B, 0, none⟩ = some (.slice A2 ds.length c2) ∧ w'.cell? ⟨B, 1, none⟩ = some (.slice L2 ls.length d2) ∧ w'.cell? ⟨B, 2, none⟩ = some (.map (some f)) ∧ w'.cell? ⟨B, 3, none⟩ = some (.map (some o)) ∧ w'.cell? ⟨B, 4, none⟩ = some (.map (some k))) (exact FS (by first | exact Q2 | exact AL _ Q2 | exact AL _ (AL _ Q2) | exact Q1a | exact Q1d)) (first | (go_at_call 24; (with_reducible refine (CQ.out _ Q1d).mono ?_); rintro e w2 ⟨A', c', L', d', rfl, hC, hb2⟩; have Q2 := KP Q1d hb2; have zz := hb2.size) | (go_at_call 24; (with_reducible refine (CQ.out _ Q1a).mono ?_); rintro e w2 ⟨A', c', L', d', rfl, hC, hb2⟩; have Q2 := KP Q1a hb2; have G2 := G1.out.same (hb2.block _ G1.out.lt)))
 all_goals
  go_wp2_with fail
  first
   | exact fin2.out _ _ _ _ _ _ Q2 hC.out.1 hC.out.2 G2 (Nat.le_refl _)
   | (have hf := fin2.out _ _ _ _ _ _ (AL _ Q2) ((hC.out.1.below ((Below.refl _ _).alloc (Nat.le_refl _) _)).mono (by simp)) ((hC.out.2.below ((Below.refl _ _).alloc (Nat.le_refl _) _)).mono (by simp)) (mapAt_made arvE unitV w2) zz; rw [World.size_alloc] at hf; exact hf)
def hostD (nm : ByteArray) (a : Int) (h : nm.size <= maxLen) : Dv := ⟨nm, 1, a, 0, [], [], [], by omega, h⟩
def chainD (d : Dv) : List Dv := [hostD ⟨#[105, 110]⟩ 1 (by decide), { d with name := ⟨#[100]⟩, hs := by decide }, hostD ⟨#[111, 117, 116]⟩ 2 (by decide)]
def chainL : List Lk := [⟨0, 0, 1, 0⟩, ⟨1, 1, 2, 0⟩]
theorem checkV_nil : checkV [] = 0 := by
 unfold checkV
 rw [if_neg (by simp), checkFrom_end (by simp)]
theorem backsFrom_nil (ad : Int) : backsFrom [] ad 0 = 0 := by
 unfold backsFrom
 simp
theorem host_ok (nm : ByteArray) (a : Int) (h : nm.size <= maxLen) (h0 : 0 <= a) (h1 : a <= 15) : devC (hostD nm a h) = 0 := by
 unfold devC devV hostD
 simp [hasAddr, checkV_nil, backsFrom_nil, h0, h1]
theorem chain_netV (d : Dv) (hk : d.kind = 3 ∨ d.kind = 4 ∨ d.kind = 5) : netV (chainD d) chainL = devC d := by
 have e0 : devWrong (chainD d) 0 (hostD ⟨#[105, 110]⟩ 1 (by decide)) = 0 := by
  unfold devWrong
  rw [if_pos (by decide), if_neg (by simp), host_ok _ _ _ (by omega) (by omega)]
 have e1 : devWrong (chainD d) 1 { d with name := ⟨#[100]⟩, hs := by decide } = devC d := by
  unfold devWrong
  rw [if_pos (show nameOk ⟨#[100]⟩ = true by decide), if_neg]
  ·rfl
  ·simp [chainD, hostD]
 have e2 : devWrong (chainD d) 2 (hostD ⟨#[111, 117, 116]⟩ 2 (by decide)) = 0 := by
  unfold devWrong
  rw [if_pos (by decide), if_neg, host_ok _ _ _ (by omega) (by omega)]
  simp [chainD, hostD]
 have ld : (chainD d).length = 3 := rfl
 have ll : chainL.length = 2 := rfl
 have pd : portsV d.kind = 2 := by
  unfold portsV
  rcases hk with h | h | h <;> rw [h] <;> rfl
 unfold netV
 rw [if_neg (by rw [ld, ll]; omega)]
 rw [devsFrom_at (d := hostD ⟨#[105, 110]⟩ 1 (by decide)) rfl, if_pos e0, devsFrom_at (d := { d with name := ⟨#[100]⟩, hs := by decide }) rfl, e1]
 by_cases hz : devC d = 0
 ·rw [if_pos hz, devsFrom_at (d := hostD ⟨#[111, 117, 116]⟩ 2 (by decide)) rfl, if_pos e2, devsFrom_end (by rw [ld]; omega), if_pos rfl, hz]
  have k0 : kindAt (chainD d) 0 = 1 := rfl
  have k1 : kindAt (chainD d) 1 = d.kind := rfl
  have k2 : kindAt (chainD d) 2 = 1 := rfl
  have p1 : portsV 1 = 1 := rfl
  have l0 : linkWrong (chainD d) chainL 0 ⟨0, 0, 1, 0⟩ = 0 := by
   unfold linkWrong isPl
   simp [ld, k0, k1, pd, p1, selfB]
  have l1 : linkWrong (chainD d) chainL 1 ⟨1, 1, 2, 0⟩ = 0 := by
   unfold linkWrong isPl
   simp [ld, k1, k2, pd, p1, selfB, chainL, meetB]
  rw [linksFrom_at (l := ⟨0, 0, 1, 0⟩) rfl, if_pos l0, linksFrom_at (l := ⟨1, 1, 2, 0⟩) rfl, if_pos l1, linksFrom_end (by rw [ll]; omega)]
 ·rw [if_neg hz, if_neg hz]
theorem row21 {w : World} {b : Nat} {d : Dv} {vb vr vt : Value} (h : Bk w b #[.string ⟨#[105, 110]⟩, .int .i64 1, .int .i64 1, .int .u8 0, .slice none 0 0, .slice none 0 0, .slice none 0 0, .string ⟨#[100]⟩, .int .i64 d.kind, .int .i64 d.addr, .int .u8 (d.pool : Int), vb, vr, vt, .string ⟨#[111, 117, 116]⟩, .int .i64 1, .int .i64 2, .int .u8 0, .slice none 0 0, .slice none 0 0, .slice none 0 0] 62)
  (hb : SlAt w.heap.size w 1 IsI vb d.backs) (hr : SlAt w.heap.size w 5 IsRule vr d.rules) (ht : SlAt w.heap.size w 3 IsRoute vt d.routes) : Devs w.heap.size w (.slice (some ⟨b, 0, none⟩) 3 3) (chainD d) := by
 have nil : ∀ {α : Type} (n : Nat) (R : List Value -> α -> Prop), SlAt w.heap.size w n R (.slice none 0 0) [] := fun n R => ⟨none, 0, rfl, fun _ => rfl, Nat.le_refl _, Nat.zero_le _, fun h => absurd rfl h⟩
 refine ⟨some ⟨b, 0, none⟩, 3, rfl, (fun e => by cases e), Nat.le_refl _, by decide, fun _ => ⟨b, 0, rfl, h.lt, fun k x hx => ?_⟩⟩
 match k, hx with
 | 0, hx =>
   obtain rfl := Option.some.inj hx
   refine ⟨[.string ⟨#[105, 110]⟩, .int .i64 1, .int .i64 1, .int .u8 0, .slice none 0 0, .slice none 0 0, .slice none 0 0], rfl, ⟨_, _, _, rfl, nil _ _, nil _ _, nil _ _⟩, fun j u hj => ?_⟩
   have hj7 : j < 7 := (List.getElem?_eq_some_iff.1 hj).1
   rw [show 0 + 0 * 7 + j = j by omega, h.at]
   match j, hj7, hj with
   | 0, _, hj => exact hj
   | 1, _, hj => exact hj
   | 2, _, hj => exact hj
   | 3, _, hj => exact hj
   | 4, _, hj => exact hj
   | 5, _, hj => exact hj
   | 6, _, hj => exact hj
 | 1, hx =>
   obtain rfl := Option.some.inj hx
   refine ⟨[.string ⟨#[100]⟩, .int .i64 d.kind, .int .i64 d.addr, .int .u8 (d.pool : Int), vb, vr, vt], rfl, ⟨_, _, _, rfl, hb, hr, ht⟩, fun j u hj => ?_⟩
   have hj7 : j < 7 := (List.getElem?_eq_some_iff.1 hj).1
   rw [show 0 + 1 * 7 + j = 7 + j by omega, h.at]
   match j, hj7, hj with
   | 0, _, hj => exact hj
   | 1, _, hj => exact hj
   | 2, _, hj => exact hj
   | 3, _, hj => exact hj
   | 4, _, hj => exact hj
   | 5, _, hj => exact hj
   | 6, _, hj => exact hj
 | 2, hx =>
   obtain rfl := Option.some.inj hx
   refine ⟨[.string ⟨#[111, 117, 116]⟩, .int .i64 1, .int .i64 2, .int .u8 0, .slice none 0 0, .slice none 0 0, .slice none 0 0], rfl, ⟨_, _, _, rfl, nil _ _, nil _ _, nil _ _⟩, fun j u hj => ?_⟩
   have hj7 : j < 7 := (List.getElem?_eq_some_iff.1 hj).1
   rw [show 0 + 2 * 7 + j = 14 + j by omega, h.at]
   match j, hj7, hj with
   | 0, _, hj => exact hj
   | 1, _, hj => exact hj
   | 2, _, hj => exact hj
   | 3, _, hj => exact hj
   | 4, _, hj => exact hj
   | 5, _, hj => exact hj
   | 6, _, hj => exact hj
theorem row8 {w : World} {b : Nat} (h : Bk w b #[.int .i64 0, .int .i64 0, .int .i64 1, .int .i64 0, .int .i64 1, .int .i64 1, .int .i64 2, .int .i64 0] 64) : Links w.heap.size w (.slice (some ⟨b, 0, none⟩) 2 2) chainL := by
 refine ⟨some ⟨b, 0, none⟩, 2, rfl, (fun e => by cases e), Nat.le_refl _, by decide, fun _ => ⟨b, 0, rfl, h.lt, fun k x hx => ?_⟩⟩
 match k, hx with
 | 0, hx =>
   obtain rfl := Option.some.inj hx
   refine ⟨[.int .i64 0, .int .i64 0, .int .i64 1, .int .i64 0], rfl, rfl, fun j u hj => ?_⟩
   have hj7 : j < 4 := (List.getElem?_eq_some_iff.1 hj).1
   rw [show 0 + 0 * 4 + j = j by omega, h.at]
   match j, hj7, hj with
   | 0, _, hj => exact hj
   | 1, _, hj => exact hj
   | 2, _, hj => exact hj
   | 3, _, hj => exact hj
 | 1, hx =>
   obtain rfl := Option.some.inj hx
   refine ⟨[.int .i64 1, .int .i64 1, .int .i64 2, .int .i64 0], rfl, rfl, fun j u hj => ?_⟩
   have hj7 : j < 4 := (List.getElem?_eq_some_iff.1 hj).1
   rw [show 0 + 1 * 4 + j = 4 + j by omega, h.at]
   match j, hj7, hj with
   | 0, _, hj => exact hj
   | 1, _, hj => exact hj
   | 2, _, hj => exact hj
   | 3, _, hj => exact hj
theorem chain_any (d : Dv) (vb vr vt : Value) (w : World) (hb : SlAt w.heap.size w 1 IsI vb d.backs) (hr : SlAt w.heap.size w 5 IsRule vr d.rules) (ht : SlAt w.heap.size w 3 IsRoute vt d.routes) :
  Calls Tryz.prog 20 #[.agg #[.string d.name, .int .i64 d.kind, .int .i64 d.addr, .int .u8 (d.pool : Int), vb, vr, vt]] w fun e w' => ∃ b b', e = .returned (.agg #[.slice (some ⟨b, 0, none⟩) 3 3, .slice (some ⟨b', 0, none⟩) 2 2]) ∧ Devs w'.heap.size w' (.slice (some ⟨b, 0, none⟩) 3 3) (chainD d) ∧ Links w'.heap.size w' (.slice (some ⟨b', 0, none⟩) 2 2) chainL ∧ Below w.heap.size w w' := by
 have fin : Hid (∀ (w' : World) (b b' : Nat), Below w.heap.size w w' -> Bk w' b #[.string ⟨#[105, 110]⟩, .int .i64 1, .int .i64 1, .int .u8 0, .slice none 0 0, .slice none 0 0, .slice none 0 0, .string ⟨#[100]⟩, .int .i64 d.kind, .int .i64 d.addr, .int .u8 (d.pool : Int), vb, vr, vt, .string ⟨#[111, 117, 116]⟩, .int .i64 1, .int .i64 2, .int .u8 0, .slice none 0 0, .slice none 0 0, .slice none 0 0] 62 -> Bk w' b' #[.int .i64 0, .int .i64 0, .int .i64 1, .int .i64 0, .int .i64 1, .int .i64 1, .int .i64 2, .int .i64 0] 64 -> Devs w'.heap.size w' (.slice (some ⟨b, 0, none⟩) 3 3) (chainD d) ∧ Links w'.heap.size w' (.slice (some ⟨b', 0, none⟩) 2 2) chainL ∧ Below w.heap.size w w') := fun w' b b' h k1 k2 =>
  ⟨row21 k1 (SlAt.mono (SlAt.below hb h (fun _ _ _ h => h)) h.size (fun _ _ _ h => h)) (SlAt.mono (SlAt.below hr h (fun _ _ _ h => h)) h.size (fun _ _ _ h => h)) (SlAt.mono (SlAt.below ht h (fun _ _ _ h => h)) h.size (fun _ _ _ h => h)), row8 k2, h⟩
 obtain ⟨Ab, cb, rfl, _, _, _, _⟩ := hb
 obtain ⟨Ar, cr, rfl, _, _, _, _⟩ := hr
 obtain ⟨At, ct, rfl, _, _, _, _⟩ := ht
 generalize d.name = nm at *
 generalize d.kind = kd at *
 generalize d.addr = ad at *
 generalize d.pool = pl at *
 generalize d.backs.length = nb at *
 generalize d.rules.length = nr at *
 generalize d.routes.length = nt at *
 go_enter Tryz.func20, Tryz.ntmps20
 go_wp2_with fail
 refine bodyPost_ret (v := .agg #[.slice (some ⟨w.heap.size + 1 + 1, 0, none⟩) 3 3, .slice (some ⟨w.heap.size + 1 + 1 + 1, 0, none⟩) 2 2]) (by simp [results, Tryz.results20, go_sem]) rfl ⟨_, _, rfl, ?_⟩
 exact fin.out _ _ _ (by go_grown) ((bk_new' _ _ _ _ (by simp)).alloc _) (bk_new' _ _ _ _ (by simp))
theorem place_any (x y : Int) (w : World) : Calls Tryz.prog 18 #[.int .i64 x, .int .i64 y] w fun e w' => e = .returned (plA x y) ∧ Below w.heap.size w w' := by
 go_enter Tryz.func18, Tryz.ntmps18
 go_wp2_with fail
 refine bodyPost_ret (v := plA x y) (by simp [results, Tryz.results18, go_sem]) rfl ⟨rfl, ?_⟩
 exact Below.alN (Below.refl _ _) _
theorem mAll_any (w : World) : Calls Tryz.prog 43 #[] w fun e w' => e = .returned (.agg #[.int .u16 65535, .int .u16 65535, .int .u8 255, .int .u8 255]) ∧ Below w.heap.size w w' := by
 go_enter Tryz.func43, Tryz.ntmps43
 go_wp2_with fail
 refine bodyPost_ret (v := .agg #[.int .u16 65535, .int .u16 65535, .int .u8 255, .int .u8 255]) (by simp [results, Tryz.results43, go_sem]) rfl ⟨rfl, ?_⟩
 exact Below.alN (Below.refl _ _) _
theorem allR_any (ok : Bool) (w : World) : Calls Tryz.prog 21 #[.bool ok] w fun e w' => e = .returned (.agg #[.bool ok, .int .u16 65535, .int .u16 65535, .int .u8 255, .int .u8 255]) ∧ Below w.heap.size w w' := by
 have R1 := bk_new w #[.bool false, .int .u16 0, .int .u16 0, .int .u8 0, .int .u8 0] 71
 have D1 := Below.alN (Below.refl w.heap.size w) (.cells #[.bool false, .int .u16 0, .int .u16 0, .int .u8 0, .int .u8 0] 71)
 go_enter Tryz.func21, Tryz.ntmps21
 go_wp2_with fail
 refine (mAll_any _).mono ?_
 rintro e w2 ⟨rfl, hb2⟩
 have R2 := R1.keep hb2
 have D2 := chnN hb2 D1
 obtain ⟨r0, r1, r2, r3, r4⟩ := R2.five
 have f0 := R2.fz 0
 have f1 := R2.fz 1
 have f2 := R2.fz 2
 have f3 := R2.fz 3
 have f4 := R2.fz 4
 go_wp2_with fail
 refine bodyPost_ret (v := .agg #[.bool ok, .int .u16 65535, .int .u16 65535, .int .u8 255, .int .u8 255]) (by simp [results, Tryz.results21, go_sem, r0, r1, r2, r3, r4]) rfl ⟨rfl, ?_⟩
 go_grown
def fireD (rs : List NRule) : Dv := ⟨⟨#[]⟩, 3, 0, 0, [], rs, [], by omega, Nat.zero_le _⟩
def allN (ok : Bool) : NRule := ⟨ok, 65535, 65535, 255, 255, by omega, by omega, by omega, by omega⟩
def toRl (r : NRule) : Rl := ⟨r.ok, r.a, r.b, r.c, r.d, r.ha, r.hb, r.hc, r.hd⟩
theorem fire_devC (rs : List NRule) : devC (fireD rs) = if 8 < rs.length then 2 else 0 := by
 unfold devC devV fireD
 simp [hasAddr, checkV_nil, backsFrom_nil]
theorem fire_netV (rs : List NRule) : netV (chainD (fireD rs)) chainL = if 8 < rs.length then 2 else 0 := by
 rw [chain_netV _ (Or.inl rfl), fire_devC]
theorem chain_pl (d : Dv) (hk : d.kind = 3 ∨ d.kind = 4 ∨ d.kind = 5) : isPl (chainD d) 1 0 = true ∧ isPl (chainD d) 1 1 = true := by
 have pd : portsV d.kind = 2 := by
  unfold portsV
  rcases hk with h | h | h <;> rw [h] <;> rfl
 have k1 : kindAt (chainD d) 1 = d.kind := rfl
 have ld : (chainD d).length = 3 := rfl
 unfold isPl
 simp [ld, k1, pd]
theorem chain_peer1 : peerF chainL 1 1 = some (2, 0) := by decide
theorem fire_ask (rs : List NRule) (M : Mnd) (p : Pk) (c : Int) : handleP (chainD (fireD rs)) chainL M 1 0 p c = if pkOk p then (if letsB (rs.map toRl) p.s p.d p.sp p.dp then ⟨0, (2, 0), p, learnP M (.flow 1 p)⟩ else badH 7 M) else badH 1 M := by
 have e : sendP ((chainD (fireD rs)).getD (1 : Int).toNat default) M 1 0 p c = if letsB (rs.map toRl) p.s p.d p.sp p.dp then ⟨0, 1, p, .flow 1 p⟩ else stayR 7 := rfl
 unfold handleP
 rw [(chain_pl (fireD rs) (Or.inl rfl)).1, e]
 cases pkOk p
 ·rfl
 ·cases letsB (rs.map toRl) p.s p.d p.sp p.dp
  ·rfl
  ·simp [chain_peer1]
theorem letsB_all : letsB ([allN true].map toRl) 1 2 0 0 = true := by
 have := inR_all (ok := true) (p := 1) (q := 2) (s := 0) (t := 0) (by omega) (by omega) (by omega) (by omega)
 show (if inR (allR true) 1 2 0 0 then true else _) = true
 rw [if_pos this]
end Go.Proofs.YtlmmeppifkigeaaGreat
