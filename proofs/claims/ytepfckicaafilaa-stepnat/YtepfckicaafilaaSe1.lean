/-
  StepFire: what the calls of the law tell, as plain facts.
-/
import Derived.Test.YtepfckicaafilaaSe0
namespace Go.Proofs.Ytepfckicaafilaa
open Go.RowKit Go.Maps

def fireD (rs : List NRule) : Dv := ⟨⟨#[]⟩, 3, 0, 0, [], rs, [], by omega, Nat.zero_le _⟩
def allN (ok : Bool) : NRule := ⟨ok, 65535, 65535, 255, 255, by omega, by omega, by omega, by omega⟩
def toRl (r : NRule) : Rl := ⟨r.ok, r.a, r.b, r.c, r.d, r.ha, r.hb, r.hc, r.hd⟩
theorem fire_devC (rs : List NRule) : devC (fireD rs) = if 8 < rs.length then 2 else 0 := by
  unfold devC devV fireD
  simp [hasAddr, checkV_nil, backsFrom_nil]
theorem fire_netV (rs : List NRule) : netV (chainD (fireD rs)) chainL = if 8 < rs.length then 2 else 0 := by
  rw [chain_netV _ (Or.inl rfl), fire_devC]
theorem chain_pl (d : Dv) (hk : d.kind = 3 ∨ d.kind = 4 ∨ d.kind = 5) : isPl (chainD d) 1 0 = true ∧ isPl (chainD d) 1 1 = true := by
  have pd : portsV d.kind = 2 := by
    unfold portsV
    rcases hk with h | h | h <;> rw [h] <;> rfl
  have k1 : kindAt (chainD d) 1 = d.kind := rfl
  have ld : (chainD d).length = 3 := rfl
  unfold isPl
  simp [ld, k1, pd]
theorem chain_peer0 : peerF chainL 1 0 = some (0, 0) := by decide
theorem chain_peer1 : peerF chainL 1 1 = some (2, 0) := by decide
theorem fire_ask (rs : List NRule) (M : Mnd) (p : Pk) (c : Int) : handleP (chainD (fireD rs)) chainL M 1 0 p c = if pkOk p then (if letsB (rs.map toRl) p.s p.d p.sp p.dp then ⟨0, (2, 0), p, learnP M (.flow 1 p)⟩ else badH 7 M) else badH 1 M := by
  have e : sendP ((chainD (fireD rs)).getD (1 : Int).toNat default) M 1 0 p c = if letsB (rs.map toRl) p.s p.d p.sp p.dp then ⟨0, 1, p, .flow 1 p⟩ else stayR 7 := rfl
  unfold handleP
  rw [(chain_pl (fireD rs) (Or.inl rfl)).1, e]
  cases pkOk p
  · rfl
  · cases letsB (rs.map toRl) p.s p.d p.sp p.dp
    · rfl
    · simp [chain_peer1]
theorem fire_answer (rs : List NRule) (M : Mnd) (p : Pk) (c : Int) : handleP (chainD (fireD rs)) chainL M 1 1 p c = if pkOk p then (if (M.fl (1, flipP p)).isSome then ⟨0, (0, 0), p, M⟩ else badH 7 M) else badH 1 M := by
  have e : sendP ((chainD (fireD rs)).getD (1 : Int).toNat default) M 1 1 p c = if (M.fl (1, flipP p)).isSome then passR 0 p else stayR 7 := rfl
  unfold handleP
  rw [(chain_pl (fireD rs) (Or.inl rfl)).2, e]
  cases pkOk p
  · rfl
  · cases (M.fl (1, flipP p)).isSome
    · rfl
    · simp [chain_peer0, passR, learnP]
theorem fire_forget (rs : List NRule) (M : Mnd) (p : Pk) (c : Int) : forgetP (chainD (fireD rs)) M 1 p c = if (M.fl (1, p)).isSome then ⟨0, { M with fl := delF M.fl (1, p) }⟩ else ⟨7, M⟩ := by
  unfold forgetP
  have ld : (chainD (fireD rs)).length = 3 := rfl
  have k1 : kindAt (chainD (fireD rs)) 1 = 3 := rfl
  rw [if_pos (by rw [ld]; omega), k1, if_pos rfl]
theorem flipP_ok {p : Pk} (h : pkOk p = true) : pkOk (flipP p) = true := by
  unfold pkOk flipP at *
  simp only [Bool.and_eq_true] at *
  exact ⟨⟨⟨h.1.1.2, h.1.1.1⟩, h.2⟩, h.1.2⟩
theorem flip_flip (p : Pk) : flipP (flipP p) = p := rfl
theorem letsB_all : letsB ([allN true].map toRl) 1 2 0 0 = true := by
  have := inR_all (ok := true) (p := 1) (q := 2) (s := 0) (t := 0) (by omega) (by omega) (by omega) (by omega)
  show (if inR (allR true) 1 2 0 0 then true else _) = true
  rw [if_pos this]
theorem addrs_fire (rs : List NRule) : AddrsOk (chainD (fireD rs)) := fun d hd => by
  simp only [chainD, List.mem_cons, List.not_mem_nil, or_false] at hd
  rcases hd with rfl | rfl | rfl
  · exact i64ok_of (by decide) (by decide)
  · show i64ok 0
    exact i64ok_of (by decide) (by decide)
  · exact i64ok_of (by decide) (by decide)
/-- Handle, as a law's state has it. -/
theorem handle_l {w W : World} {T : Nat} {X : World → Prop} {m : Mp} {ds : List Dv} {ls : List Lk} {n : Nat} {M : Mnd} (hX : Hid (∀ W W', KT T W W' → X W → X W')) (i q : Int) (p : Pk) (c : Int) (h : LSt w T X m ds ls n M W) (hn : n < maxLen) (ha : AddrsOk ds) (hi : i64ok i) (hc : i64ok c) {r : HR} (hr : handleP ds ls M i q p c = r) :
    Calls Try.prog 10 #[.pointer (some ⟨m.B, 0, none⟩), plA i q, pkV p, .int .i64 c] W fun e w' => e = .returned (.tuple #[arV r.tp r.p, .int .i64 r.err]) ∧ LSt w T X m ds ls (n + 1) r.M w' ∧ CK W w' :=
  (handle_any m ds ls n M i q p c W h.mem hn ha hi hc).mono fun e w' ⟨h1, h2, h3⟩ => by
    rw [hr] at h1 h2
    exact ⟨h1, h.hk hX h2 h3, h.mem.ck h3⟩
theorem forget_l {w W : World} {T : Nat} {X : World → Prop} {m : Mp} {ds : List Dv} {ls : List Lk} {n : Nat} {M : Mnd} (hX : Hid (∀ W W', KT T W W' → X W → X W')) (i : Int) (p : Pk) (c : Int) (h : LSt w T X m ds ls n M W) (hi : i64ok i) (hp : p.ok) (hc : i64ok c) {r : FR} (hr : forgetP ds M i p c = r) :
    Calls Try.prog 15 #[.pointer (some ⟨m.B, 0, none⟩), .int .i64 i, pkV p, .int .i64 c] W fun e w' => e = .returned (.int .i64 r.err) ∧ LSt w T X m ds ls n r.M w' ∧ CK W w' :=
  (forget_any m ds ls n M i p c W h.mem hi hp hc).mono fun e w' ⟨h1, h2, h3⟩ => by
    rw [hr] at h1 h2
    exact ⟨h1, h.hk hX h2 h3, h.mem.ck h3⟩
theorem ok1 : i64ok 1 := i64ok_of (by decide) (by decide)
theorem ok0 : i64ok 0 := i64ok_of (by decide) (by decide)
theorem packet_eq (a b : Pk) (w : World) : (binOp .eql 24 (pkV a) (pkV b)).run Try.prog w = .ok (.bool ((a.s == b.s) && (a.d == b.d) && (a.sp == b.sp) && (a.dp == b.dp))) w := by
  obtain ⟨s, d, sp, dp⟩ := a
  obtain ⟨s', d', sp', dp'⟩ := b
  cases h1 : (s == s') <;> cases h2 : (d == d') <;> cases h3 : (sp == sp') <;> cases h4 : (dp == dp')
  all_goals simp [go_sem, Try.underlying24, Try.underlying3, h1, h2, h3, h4]
theorem packet_ne_self (a : Pk) (w : World) : (binOp .neq 24 (pkV a) (pkV a)).run Try.prog w = .ok (.bool false) w := by
  obtain ⟨s, d, sp, dp⟩ := a
  simp [go_sem, Try.underlying24, Try.underlying3]
theorem pk_eqB (a b : Pk) : ((a.s == b.s) && (a.d == b.d) && (a.sp == b.sp) && (a.dp == b.dp)) = true ↔ a = b := by
  obtain ⟨s, d, sp, dp⟩ := a
  obtain ⟨s', d', sp', dp'⟩ := b
  simp [and_assoc]
/-- Two packets that a law holds. -/
def X2 (N : Nat) (p q : Pk) (W : World) : Prop := Bk W N #[.int .i64 p.s, .int .i64 p.d, .int .i64 p.sp, .int .i64 p.dp] 24 ∧ Bk W (N + 1) #[.int .i64 q.s, .int .i64 q.d, .int .i64 q.sp, .int .i64 q.dp] 24
theorem x2_kt {T N : Nat} {p q : Pk} (h : N + 1 < T) : ∀ W W', KT T W W' → X2 N p q W → X2 N p q W' := fun _ _ hk hx => ⟨hx.1.kt hk (by omega), hx.2.kt hk (by omega)⟩
end Go.Proofs.Ytepfckicaafilaa
