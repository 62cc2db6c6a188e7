/-
  One op: told, then asked.
-/
import Derived.Test.YtgcimcpcnoojnaaKnw
namespace Go.Proofs.Ytgcimcpcnoojnaa
open Go.RowKit Go.Maps

/-- What the arena answers where a table t is right. -/
def AOut (base a M vars most N : Nat) (w : World) (ns : List Nd) (t : Nat → Bool) (r er : Int) (w' : World) : Prop :=
  ∃ ns', Ar base a M vars most w' ns' ∧ Kp (ca base a M vars most) w w' ∧ Ext ns ns' ∧ ((er = 0 ∧ ∃ f : Nat, r = (f : Int) ∧ f < ns'.length ∧ ∀ b, b < N → ev ns' f (envOf vars b) = t b) ∨ (er = 6 ∧ r = 0 ∧ ns'.length = most))
/-- What it answers at wrong arguments. -/
def BOut (base a M vars most : Nat) (w : World) (ns : List Nd) (r er : Int) (w' : World) : Prop :=
  r = 0 ∧ er = 1 ∧ Ar base a M vars most w' ns ∧ Kp (ca base a M vars most) w w'

section
variable {base a M vars most N : Nat} {w w2 w3 : World} {ns : List Nd} {t : Nat → Bool}
theorem AOut.of {g : Nat} {φ : Env → Bool} {e : Ending} (h : Ar base a M vars most w ns) (hb : Below w.heap.size w w2) (hp : OpPost base a M vars most w2 ns g φ e w3) (hφ : ∀ b, b < N → φ (envOf vars b) = t b) :
    ∃ r er : Int, e = .returned (.tuple #[.int .i64 r, .int .i64 er]) ∧ AOut base a M vars most N w ns t r er w3 ∧ Kp (ca base a M vars most) w2 w3 := by
  obtain ⟨ns', A', K', X', _, hr⟩ := hp
  rcases hr with ⟨f, e1, e2, e3⟩ | ⟨e1, e2⟩
  · exact ⟨f, 0, e1, ⟨ns', A', (h.kbelow hb).trans K', X', Or.inl ⟨rfl, f, rfl, e2, fun b hb => by rw [e3, hφ b hb]⟩⟩, K'⟩
  · exact ⟨0, 6, e1, ⟨ns', A', (h.kbelow hb).trans K', X', Or.inr ⟨rfl, rfl, e2⟩⟩, K'⟩
theorem BOut.of {e : Ending} (h : Ar base a M vars most w ns) (hb : Below w.heap.size w w2) (hp : e = .returned (.tuple #[.int .i64 0, .int .i64 1]) ∧ w3 = w2) :
    ∃ r er : Int, e = .returned (.tuple #[.int .i64 r, .int .i64 er]) ∧ BOut base a M vars most w ns r er w3 ∧ Kp (ca base a M vars most) w2 w3 := by
  obtain ⟨e1, rfl⟩ := hp
  exact ⟨0, 1, e1, ⟨rfl, rfl, h.below hb, h.kbelow hb⟩, Kp.refl _ _⟩
theorem own_out (h : Ar base a M vars most w ns) (hb : Below w.heap.size w w2) {j : Nat} {u : Value} (hc : w2.cell? ⟨w.heap.size, j, none⟩ = some u) : Out (ca base a M vars most) w2 w.heap.size :=
  h.newOut hb (Nat.le_refl _) (World.block_lt_of_cell? w2 _ hc)

theorem ask_0 (h : Ar base a M vars most w ns) {i : Nat} (hi : i < vars) (B C : Int) (vI : Value) (ht : ∀ b, b < N → envOf vars b i = t b) :
    Calls Try.prog 17 #[.pointer (some ⟨a, 0, none⟩), vI, .agg #[.int .i64 0, .int .i64 (i : Int), .int .i64 B, .int .i64 C]] w fun e w'' => ∃ r er : Int, e = .returned (.tuple #[.int .i64 r, .int .i64 er]) ∧ Hid (AOut base a M vars most N w ns t r er w'') :=
  asked_0 (Q := AOut base a M vars most N w ns t) a (i : Int) B C vI w fun w2 hb hc => (var_ok (h.below hb) hi).mono fun e w3 hp => by
    obtain ⟨r, er, e1, q, k⟩ := AOut.of h hb hp ht
    exact ⟨r, er, e1, q, ((own_out h hb hc).cell k 1).trans hc⟩
theorem askBad_0 (h : Ar base a M vars most w ns) {A : Int} (hA : (decide ((0 : Int) ≤ A) && decide (A < (vars : Int))) = false) (B C : Int) (vI : Value) :
    Calls Try.prog 17 #[.pointer (some ⟨a, 0, none⟩), vI, .agg #[.int .i64 0, .int .i64 A, .int .i64 B, .int .i64 C]] w fun e w'' => ∃ r er : Int, e = .returned (.tuple #[.int .i64 r, .int .i64 er]) ∧ Hid (BOut base a M vars most w ns r er w'') :=
  asked_0 (Q := BOut base a M vars most w ns) a A B C vI w fun w2 hb hc => (var_bad (h.below hb) hA).mono fun e w3 hp => by
    obtain ⟨r, er, e1, q, k⟩ := BOut.of h hb hp
    exact ⟨r, er, e1, q, ((own_out h hb hc).cell k 1).trans hc⟩
variable {I : Nat}
theorem ask_1 (h : Ar base a M vars most w ns) (oI : Out (ca base a M vars most) w I) {f : Nat} (hf : f < ns.length) (hI0 : w.cell? ⟨I, 0, none⟩ = some (.int .i64 (f : Int))) (A B C : Int) (ht : ∀ b, b < N → (!ev ns f (envOf vars b)) = t b) :
    Calls Try.prog 17 #[.pointer (some ⟨a, 0, none⟩), .slice (some ⟨I, 0, none⟩) 1 1, .agg #[.int .i64 1, .int .i64 A, .int .i64 B, .int .i64 C]] w fun e w'' => ∃ r er : Int, e = .returned (.tuple #[.int .i64 r, .int .i64 er]) ∧ Hid (AOut base a M vars most N w ns t r er w'') :=
  asked_1 (Q := AOut base a M vars most N w ns t) a A B C (f : Int) I w oI.lt hI0 fun w2 hb hc => (not_ok (h.below hb) hf).mono fun e w3 hp => by
    obtain ⟨r, er, e1, q, k⟩ := AOut.of h hb hp ht
    exact ⟨r, er, e1, q, ((oI.kp (h.kbelow hb)).cell k 0).trans hc⟩
theorem ask_2 (h : Ar base a M vars most w ns) (oI : Out (ca base a M vars most) w I) {f g : Nat} (hf : f < ns.length) (hg : g < ns.length) (hI0 : w.cell? ⟨I, 0, none⟩ = some (.int .i64 (f : Int))) (hI1 : w.cell? ⟨I, 1, none⟩ = some (.int .i64 (g : Int))) (A B C : Int) (ht : ∀ b, b < N → (ev ns f (envOf vars b) && ev ns g (envOf vars b)) = t b) :
    Calls Try.prog 17 #[.pointer (some ⟨a, 0, none⟩), .slice (some ⟨I, 0, none⟩) 2 2, .agg #[.int .i64 2, .int .i64 A, .int .i64 B, .int .i64 C]] w fun e w'' => ∃ r er : Int, e = .returned (.tuple #[.int .i64 r, .int .i64 er]) ∧ Hid (AOut base a M vars most N w ns t r er w'') :=
  asked_2 (Q := AOut base a M vars most N w ns t) a A B C (f : Int) (g : Int) I w oI.lt hI0 hI1 fun w2 hb hc => (and_ok (h.below hb) hf hg).mono fun e w3 hp => by
    obtain ⟨r, er, e1, q, k⟩ := AOut.of h hb hp ht
    exact ⟨r, er, e1, q, ((oI.kp (h.kbelow hb)).cell k 0).trans hc.1, ((oI.kp (h.kbelow hb)).cell k 1).trans hc.2⟩
theorem ask_3 (h : Ar base a M vars most w ns) (oI : Out (ca base a M vars most) w I) {f g : Nat} (hf : f < ns.length) (hg : g < ns.length) (hI0 : w.cell? ⟨I, 0, none⟩ = some (.int .i64 (f : Int))) (hI1 : w.cell? ⟨I, 1, none⟩ = some (.int .i64 (g : Int))) (A B C : Int) (ht : ∀ b, b < N → (ev ns f (envOf vars b) || ev ns g (envOf vars b)) = t b) :
    Calls Try.prog 17 #[.pointer (some ⟨a, 0, none⟩), .slice (some ⟨I, 0, none⟩) 2 2, .agg #[.int .i64 3, .int .i64 A, .int .i64 B, .int .i64 C]] w fun e w'' => ∃ r er : Int, e = .returned (.tuple #[.int .i64 r, .int .i64 er]) ∧ Hid (AOut base a M vars most N w ns t r er w'') :=
  asked_3 (Q := AOut base a M vars most N w ns t) a A B C (f : Int) (g : Int) I w oI.lt hI0 hI1 fun w2 hb hc => (or_ok (h.below hb) hf hg).mono fun e w3 hp => by
    obtain ⟨r, er, e1, q, k⟩ := AOut.of h hb hp ht
    exact ⟨r, er, e1, q, ((oI.kp (h.kbelow hb)).cell k 0).trans hc.1, ((oI.kp (h.kbelow hb)).cell k 1).trans hc.2⟩
theorem ask_4 (h : Ar base a M vars most w ns) (oI : Out (ca base a M vars most) w I) {f g k : Nat} (hf : f < ns.length) (hg : g < ns.length) (hk : k < ns.length) (hI0 : w.cell? ⟨I, 0, none⟩ = some (.int .i64 (f : Int))) (hI1 : w.cell? ⟨I, 1, none⟩ = some (.int .i64 (g : Int))) (hI2 : w.cell? ⟨I, 2, none⟩ = some (.int .i64 (k : Int))) (A B C : Int) (ht : ∀ b, b < N → (if ev ns f (envOf vars b) then ev ns g (envOf vars b) else ev ns k (envOf vars b)) = t b) :
    Calls Try.prog 17 #[.pointer (some ⟨a, 0, none⟩), .slice (some ⟨I, 0, none⟩) 3 3, .agg #[.int .i64 4, .int .i64 A, .int .i64 B, .int .i64 C]] w fun e w'' => ∃ r er : Int, e = .returned (.tuple #[.int .i64 r, .int .i64 er]) ∧ Hid (AOut base a M vars most N w ns t r er w'') :=
  asked_4 (Q := AOut base a M vars most N w ns t) a A B C (f : Int) (g : Int) (k : Int) I w oI.lt hI0 hI1 hI2 fun w2 hb hc => (ite_ok (h.below hb) (c := (f, g, k)) ⟨hf, hg, hk⟩).mono fun e w3 hp => by
    obtain ⟨r, er, e1, q, k⟩ := AOut.of h hb hp ht
    exact ⟨r, er, e1, q, ((oI.kp (h.kbelow hb)).cell k 0).trans hc.1, ((oI.kp (h.kbelow hb)).cell k 1).trans hc.2.1, ((oI.kp (h.kbelow hb)).cell k 2).trans hc.2.2⟩
theorem ask_5 (h : Ar base a M vars most w ns) (oI : Out (ca base a M vars most) w I) {f i : Nat} (hf : f < ns.length) (hi : i < vars) (hI0 : w.cell? ⟨I, 0, none⟩ = some (.int .i64 (f : Int))) (A C : Int) (ht : ∀ b, b < N → (ev ns f (setE (envOf vars b) i false) || ev ns f (setE (envOf vars b) i true)) = t b) :
    Calls Try.prog 17 #[.pointer (some ⟨a, 0, none⟩), .slice (some ⟨I, 0, none⟩) 1 1, .agg #[.int .i64 5, .int .i64 A, .int .i64 (i : Int), .int .i64 C]] w fun e w'' => ∃ r er : Int, e = .returned (.tuple #[.int .i64 r, .int .i64 er]) ∧ Hid (AOut base a M vars most N w ns t r er w'') :=
  asked_5 (Q := AOut base a M vars most N w ns t) a A (i : Int) C (f : Int) I w oI.lt hI0 fun w2 hb hc => (exists_ok (h.below hb) hf hi).mono fun e w3 hp => by
    obtain ⟨r, er, e1, q, k⟩ := AOut.of h hb hp ht
    exact ⟨r, er, e1, q, ((oI.kp (h.kbelow hb)).cell k 0).trans hc.1, ((own_out h hb hc.2).cell k 2).trans hc.2⟩
theorem askBad_5 (h : Ar base a M vars most w ns) (oI : Out (ca base a M vars most) w I) {f : Nat} (hf : f < ns.length) {B : Int} (hB : (decide ((0 : Int) ≤ B) && decide (B < (vars : Int))) = false) (hI0 : w.cell? ⟨I, 0, none⟩ = some (.int .i64 (f : Int))) (A C : Int) :
    Calls Try.prog 17 #[.pointer (some ⟨a, 0, none⟩), .slice (some ⟨I, 0, none⟩) 1 1, .agg #[.int .i64 5, .int .i64 A, .int .i64 B, .int .i64 C]] w fun e w'' => ∃ r er : Int, e = .returned (.tuple #[.int .i64 r, .int .i64 er]) ∧ Hid (BOut base a M vars most w ns r er w'') :=
  asked_5 (Q := BOut base a M vars most w ns) a A B C (f : Int) I w oI.lt hI0 fun w2 hb hc => (exists_bad (h.below hb) hf hB).mono fun e w3 hp => by
    obtain ⟨r, er, e1, q, k⟩ := BOut.of h hb hp
    exact ⟨r, er, e1, q, ((oI.kp (h.kbelow hb)).cell k 0).trans hc.1, ((own_out h hb hc.2).cell k 2).trans hc.2⟩
theorem ask_6 (h : Ar base a M vars most w ns) (oI : Out (ca base a M vars most) w I) {f i j : Nat} (hf : f < ns.length) (hi : i < vars) (hj : j < vars) (hI0 : w.cell? ⟨I, 0, none⟩ = some (.int .i64 (f : Int))) (A : Int) (ht : ∀ b, b < N → ev ns f (swE (envOf vars b) i j) = t b) :
    Calls Try.prog 17 #[.pointer (some ⟨a, 0, none⟩), .slice (some ⟨I, 0, none⟩) 1 1, .agg #[.int .i64 6, .int .i64 A, .int .i64 (i : Int), .int .i64 (j : Int)]] w fun e w'' => ∃ r er : Int, e = .returned (.tuple #[.int .i64 r, .int .i64 er]) ∧ Hid (AOut base a M vars most N w ns t r er w'') :=
  asked_6 (Q := AOut base a M vars most N w ns t) a A (i : Int) (j : Int) (f : Int) I w oI.lt hI0 fun w2 hb hc => (swap_ok (h.below hb) hf hi hj).mono fun e w3 hp => by
    obtain ⟨r, er, e1, q, k⟩ := AOut.of h hb hp ht
    exact ⟨r, er, e1, q, ((oI.kp (h.kbelow hb)).cell k 0).trans hc.1, ((own_out h hb hc.2.1).cell k 2).trans hc.2.1, ((own_out h hb hc.2.1).cell k 3).trans hc.2.2⟩
theorem askBad_6 (h : Ar base a M vars most w ns) (oI : Out (ca base a M vars most) w I) {f : Nat} (hf : f < ns.length) {B C : Int} (hBC : (decide ((0 : Int) ≤ B) && decide (B < (vars : Int))) = false ∨ (decide ((0 : Int) ≤ C) && decide (C < (vars : Int))) = false) (hI0 : w.cell? ⟨I, 0, none⟩ = some (.int .i64 (f : Int))) (A : Int) :
    Calls Try.prog 17 #[.pointer (some ⟨a, 0, none⟩), .slice (some ⟨I, 0, none⟩) 1 1, .agg #[.int .i64 6, .int .i64 A, .int .i64 B, .int .i64 C]] w fun e w'' => ∃ r er : Int, e = .returned (.tuple #[.int .i64 r, .int .i64 er]) ∧ Hid (BOut base a M vars most w ns r er w'') :=
  asked_6 (Q := BOut base a M vars most w ns) a A B C (f : Int) I w oI.lt hI0 fun w2 hb hc => (swap_bad (h.below hb) hf hBC).mono fun e w3 hp => by
    obtain ⟨r, er, e1, q, k⟩ := BOut.of h hb hp
    exact ⟨r, er, e1, q, ((oI.kp (h.kbelow hb)).cell k 0).trans hc.1, ((own_out h hb hc.2.1).cell k 2).trans hc.2.1, ((own_out h hb hc.2.1).cell k 3).trans hc.2.2⟩
end

/-- What told tells of an op: a table that the arena's answer has, or that it will be refused. -/
def TOut (base a M vars most N : Nat) (W : World) (ns : List Nd) (x : Value) (e : Ending) (w' : World) : Prop :=
  ∃ (vt vi : Value) (ok : Bool), e = .returned (.tuple #[vt, vi, .bool ok]) ∧ Below W.heap.size W w' ∧
    Hid ((ok = true ∧ ∃ tb t, vt = .slice (some ⟨tb, 0, none⟩) N N ∧ W.heap.size ≤ tb ∧ Tab w' tb N t ∧ Calls Try.prog 17 #[.pointer (some ⟨a, 0, none⟩), vi, x] w' fun e w'' => ∃ r er : Int, e = .returned (.tuple #[.int .i64 r, .int .i64 er]) ∧ Hid (AOut base a M vars most N w' ns t r er w''))
      ∨ (ok = false ∧ Calls Try.prog 17 #[.pointer (some ⟨a, 0, none⟩), vi, x] w' fun e w'' => ∃ r er : Int, e = .returned (.tuple #[.int .i64 r, .int .i64 er]) ∧ Hid (BOut base a M vars most w' ns r er w'')))
section
variable {base a M vars most N : Nat} {w : World} {ns : List Nd} {K cap : Nat} {ks : List En}
theorem swBits_lt {b k1 k2 n : Nat} (hb : b < 2 ^ n) (h1 : k1 < n) (h2 : k2 < n) : swBits b k1 k2 < 2 ^ n := by
  apply Nat.lt_pow_two_of_testBit
  intro m hm
  rw [sw_test, if_neg (by omega), if_neg (by omega)]
  exact Nat.testBit_lt_two_pow (Nat.lt_of_lt_of_le hb (Nat.pow_le_pow_right (by omega) hm))
theorem ev_env (wf : Wf vars ns) {f : Nat} (hf : f < ns.length) {e e' : Env} (h : ∀ x, x < vars → e x = e' x) : ev ns f e = ev ns f e' := dep_ev wf hf e e' (fun x _ h2 => h x h2)
theorem TOut.of {t : Nat → Bool} {ids : List Int} {x : Value} {e : Ending} {w' : World} (h : St base a M vars most N w ns K cap ks) (hp : TPost w N t ids e w')
    (hc : ∀ I, Out (ca base a M vars most) w' I → (∀ j x, ids[j]? = some x → w'.cell? ⟨I, j, none⟩ = some (.int .i64 x)) → Ar base a M vars most w' ns → Calls Try.prog 17 #[.pointer (some ⟨a, 0, none⟩), .slice (some ⟨I, 0, none⟩) ids.length ids.length, x] w' fun e w'' => ∃ r er : Int, e = .returned (.tuple #[.int .i64 r, .int .i64 er]) ∧ Hid (AOut base a M vars most N w' ns t r er w'')) :
    TOut base a M vars most N w ns x e w' := by
  obtain ⟨tb, I, rfl, h1, h2, h3, h4, h5, h6⟩ := hp
  exact ⟨_, _, true, rfl, h6, Or.inl ⟨rfl, tb, t, rfl, h1, h4, hc I (h.ar.newOut h6 h2 h3) h5 (h.ar.below h6)⟩⟩

theorem step_0 (h : St base a M vars most N w ns K cap ks) (A B C : Int) : Calls Try.prog 16 #[.int .i64 (vars : Int), .slice (some ⟨K, 0, none⟩) ks.length cap, .agg #[.int .i64 0, .int .i64 A, .int .i64 B, .int .i64 C]] w (TOut base a M vars most N w ns (.agg #[.int .i64 0, .int .i64 A, .int .i64 B, .int .i64 C])) := by
  have h2 := h.two
  have h4 := h.few
  obtain ⟨ja, x, hx, kA⟩ := h.kn A
  obtain ⟨jb, y, hy, kB⟩ := h.kn B
  obtain ⟨jc, z, hz, kC⟩ := h.kn C
  by_cases hA : 0 ≤ A ∧ A < (vars : Int)
  · obtain ⟨i, rfl⟩ : ∃ i : Nat, A = i := ⟨A.toNat, by omega⟩
    refine (told_0 (by omega) (by omega) h.ltK kA kB kC h.v8 h.hN (by omega)).mono ?_
    rintro e w' ⟨tb, rfl, h1, hT, h6⟩
    exact ⟨_, _, true, rfl, h6, Or.inl ⟨rfl, tb, _, rfl, h1, hT, ask_0 (h.ar.below h6) (by omega) B C _ (fun b _ => rfl)⟩⟩
  · refine (toldBad_0 (by omega) (by omega) h.ltK kA kB kC (by simp; omega)).mono ?_
    rintro e w' ⟨rfl, h6⟩
    exact ⟨_, _, false, rfl, h6, Or.inr ⟨rfl, askBad_0 (h.ar.below h6) (by simp; omega) B C _⟩⟩
theorem step_1 (h : St base a M vars most N w ns K cap ks) (A B C : Int) : Calls Try.prog 16 #[.int .i64 (vars : Int), .slice (some ⟨K, 0, none⟩) ks.length cap, .agg #[.int .i64 1, .int .i64 A, .int .i64 B, .int .i64 C]] w (TOut base a M vars most N w ns (.agg #[.int .i64 1, .int .i64 A, .int .i64 B, .int .i64 C])) := by
  have h2 := h.two
  have h4 := h.few
  obtain ⟨ja, x, hx, kA⟩ := h.kn A
  obtain ⟨jb, y, hy, kB⟩ := h.kn B
  obtain ⟨jc, z, hz, kC⟩ := h.kn C
  obtain ⟨x1, _, _, x4⟩ := h.ent x hx
  exact (told_1 (by omega) (by omega) h.ltK kA kB kC h.v8 h.hN).mono fun e w' hp => TOut.of h hp fun I oI hI hA => ask_1 hA oI x1 (hI 0 _ rfl) A B C (fun b hb => by rw [x4 b hb])
theorem step_2 (h : St base a M vars most N w ns K cap ks) (A B C : Int) : Calls Try.prog 16 #[.int .i64 (vars : Int), .slice (some ⟨K, 0, none⟩) ks.length cap, .agg #[.int .i64 2, .int .i64 A, .int .i64 B, .int .i64 C]] w (TOut base a M vars most N w ns (.agg #[.int .i64 2, .int .i64 A, .int .i64 B, .int .i64 C])) := by
  have h2 := h.two
  have h4 := h.few
  obtain ⟨ja, x, hx, kA⟩ := h.kn A
  obtain ⟨jb, y, hy, kB⟩ := h.kn B
  obtain ⟨jc, z, hz, kC⟩ := h.kn C
  obtain ⟨x1, _, _, x4⟩ := h.ent x hx
  obtain ⟨y1, _, _, y4⟩ := h.ent y hy
  exact (told_2 (by omega) (by omega) h.ltK kA kB kC h.v8 h.hN).mono fun e w' hp => TOut.of h hp fun I oI hI hA => ask_2 hA oI x1 y1 (hI 0 _ rfl) (hI 1 _ rfl) A B C (fun b hb => by rw [x4 b hb, y4 b hb])
theorem step_3 (h : St base a M vars most N w ns K cap ks) (A B C : Int) : Calls Try.prog 16 #[.int .i64 (vars : Int), .slice (some ⟨K, 0, none⟩) ks.length cap, .agg #[.int .i64 3, .int .i64 A, .int .i64 B, .int .i64 C]] w (TOut base a M vars most N w ns (.agg #[.int .i64 3, .int .i64 A, .int .i64 B, .int .i64 C])) := by
  have h2 := h.two
  have h4 := h.few
  obtain ⟨ja, x, hx, kA⟩ := h.kn A
  obtain ⟨jb, y, hy, kB⟩ := h.kn B
  obtain ⟨jc, z, hz, kC⟩ := h.kn C
  obtain ⟨x1, _, _, x4⟩ := h.ent x hx
  obtain ⟨y1, _, _, y4⟩ := h.ent y hy
  exact (told_3 (by omega) (by omega) h.ltK kA kB kC h.v8 h.hN).mono fun e w' hp => TOut.of h hp fun I oI hI hA => ask_3 hA oI x1 y1 (hI 0 _ rfl) (hI 1 _ rfl) A B C (fun b hb => by rw [x4 b hb, y4 b hb])
theorem step_4 (h : St base a M vars most N w ns K cap ks) (A B C : Int) : Calls Try.prog 16 #[.int .i64 (vars : Int), .slice (some ⟨K, 0, none⟩) ks.length cap, .agg #[.int .i64 4, .int .i64 A, .int .i64 B, .int .i64 C]] w (TOut base a M vars most N w ns (.agg #[.int .i64 4, .int .i64 A, .int .i64 B, .int .i64 C])) := by
  have h2 := h.two
  have h4 := h.few
  obtain ⟨ja, x, hx, kA⟩ := h.kn A
  obtain ⟨jb, y, hy, kB⟩ := h.kn B
  obtain ⟨jc, z, hz, kC⟩ := h.kn C
  obtain ⟨x1, _, _, x4⟩ := h.ent x hx
  obtain ⟨y1, _, _, y4⟩ := h.ent y hy
  obtain ⟨z1, _, _, z4⟩ := h.ent z hz
  exact (told_4 (by omega) (by omega) h.ltK kA kB kC h.v8 h.hN).mono fun e w' hp => TOut.of h hp fun I oI hI hA => ask_4 hA oI x1 y1 z1 (hI 0 _ rfl) (hI 1 _ rfl) (hI 2 _ rfl) A B C (fun b hb => by rw [x4 b hb, y4 b hb, z4 b hb])
theorem step_5 (h : St base a M vars most N w ns K cap ks) (A B C : Int) : Calls Try.prog 16 #[.int .i64 (vars : Int), .slice (some ⟨K, 0, none⟩) ks.length cap, .agg #[.int .i64 5, .int .i64 A, .int .i64 B, .int .i64 C]] w (TOut base a M vars most N w ns (.agg #[.int .i64 5, .int .i64 A, .int .i64 B, .int .i64 C])) := by
  have h2 := h.two
  have h4 := h.few
  have hN := h.hN
  have wf := h.ar.wf
  obtain ⟨ja, x, hx, kA⟩ := h.kn A
  obtain ⟨jb, y, hy, kB⟩ := h.kn B
  obtain ⟨jc, z, hz, kC⟩ := h.kn C
  obtain ⟨x1, _, _, x4⟩ := h.ent x hx
  by_cases hB : 0 ≤ B ∧ B < (vars : Int)
  · obtain ⟨i, rfl⟩ : ∃ i : Nat, B = i := ⟨B.toNat, by omega⟩
    have hi : i < vars := by omega
    refine (told_5 (by omega) (by omega) h.ltK kA kB kC h.v8 h.hN hi).mono fun e w' hp => TOut.of h hp fun I oI hI hA => ask_5 hA oI x1 hi (hI 0 _ rfl) A C (fun b hb => ?_)
    have c1 : clr b (vars - 1 - i) < N := Nat.lt_of_le_of_lt (clr_le _ _) hb
    have c2 : b ||| 2 ^ (vars - 1 - i) < N := by rw [← hN] at hb ⊢; exact set_lt hb (by omega)
    rw [← x4 _ c1, ← x4 _ c2, ev_env wf x1 (fun q hq => (envOf_clr b hi hq).symm), ev_env wf x1 (fun q hq => (envOf_set b hi hq).symm)]
  · refine (toldBad_5 (by omega) (by omega) h.ltK kA kB kC (by simp; omega)).mono ?_
    rintro e w' ⟨I, rfl, h7, h3, h5, h6⟩
    refine ⟨_, _, false, rfl, h6, Or.inr ⟨rfl, ?_⟩⟩
    exact askBad_5 (h.ar.below h6) (h.ar.newOut h6 h7 h3) x1 (by simp; omega) h5 A C
theorem step_6 (h : St base a M vars most N w ns K cap ks) (A B C : Int) : Calls Try.prog 16 #[.int .i64 (vars : Int), .slice (some ⟨K, 0, none⟩) ks.length cap, .agg #[.int .i64 6, .int .i64 A, .int .i64 B, .int .i64 C]] w (TOut base a M vars most N w ns (.agg #[.int .i64 6, .int .i64 A, .int .i64 B, .int .i64 C])) := by
  have h2 := h.two
  have h4 := h.few
  have hN := h.hN
  have wf := h.ar.wf
  obtain ⟨ja, x, hx, kA⟩ := h.kn A
  obtain ⟨jb, y, hy, kB⟩ := h.kn B
  obtain ⟨jc, z, hz, kC⟩ := h.kn C
  obtain ⟨x1, _, _, x4⟩ := h.ent x hx
  by_cases hB : (0 ≤ B ∧ B < (vars : Int)) ∧ (0 ≤ C ∧ C < (vars : Int))
  · obtain ⟨i, rfl⟩ : ∃ i : Nat, B = i := ⟨B.toNat, by omega⟩
    obtain ⟨j, rfl⟩ : ∃ j : Nat, C = j := ⟨C.toNat, by omega⟩
    have hi : i < vars := by omega
    have hj : j < vars := by omega
    refine (told_6 (by omega) (by omega) h.ltK kA kB kC h.v8 h.hN hi hj).mono fun e w' hp => TOut.of h hp fun I oI hI hA => ask_6 hA oI x1 hi hj (hI 0 _ rfl) A (fun b hb => ?_)
    have c1 : swBits b (vars - 1 - i) (vars - 1 - j) < N := by rw [← hN] at hb ⊢; exact swBits_lt hb (by omega) (by omega)
    rw [← x4 _ c1, ev_env wf x1 (fun q hq => (envOf_sw hi hj hq).symm)]
  · refine (toldBad_6 (by omega) (by omega) h.ltK kA kB kC (by simp; omega)).mono ?_
    rintro e w' ⟨I, rfl, h7, h3, h5, h6⟩
    refine ⟨_, _, false, rfl, h6, Or.inr ⟨rfl, ?_⟩⟩
    exact askBad_6 (h.ar.below h6) (h.ar.newOut h6 h7 h3) x1 (by simp; omega) h5 A
end
end Go.Proofs.Ytgcimcpcnoojnaa


