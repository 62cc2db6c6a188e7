/-
  Laws of package world: a chain of three devices.
-/
import Derived.Test.YtepfckicaafilabGC
import Derived.Test.YtepfckicaafilabWa2
namespace Go.Proofs.Ytepfckicaafilab
open Go.RowKit Go.Maps

/-! ### chain, place, all -/
def hostD (nm : ByteArray) (a : Int) (h : nm.size ≤ maxLen) : Dv := ⟨nm, 1, a, 0, [], [], [], by omega, h⟩
def chainD (d : Dv) : List Dv := [hostD ⟨#[105, 110]⟩ 1 (by decide), { d with name := ⟨#[100]⟩, hs := by decide }, hostD ⟨#[111, 117, 116]⟩ 2 (by decide)]
def chainL : List Lk := [⟨0, 0, 1, 0⟩, ⟨1, 1, 2, 0⟩]
theorem checkV_nil : checkV [] = 0 := by
  unfold checkV
  rw [if_neg (by simp), checkFrom_end (by simp)]
theorem backsFrom_nil (ad : Int) : backsFrom [] ad 0 = 0 := by
  unfold backsFrom
  simp
theorem host_ok (nm : ByteArray) (a : Int) (h : nm.size ≤ maxLen) (h0 : 0 ≤ a) (h1 : a ≤ 15) : devC (hostD nm a h) = 0 := by
  unfold devC devV hostD
  simp [hasAddr, checkV_nil, backsFrom_nil, h0, h1]
/-- What Check says of a chain, if its device has two ports. -/
theorem chain_netV (d : Dv) (hk : d.kind = 3 ∨ d.kind = 4 ∨ d.kind = 5) : netV (chainD d) chainL = devC d := by
  have e0 : devWrong (chainD d) 0 (hostD ⟨#[105, 110]⟩ 1 (by decide)) = 0 := by
    unfold devWrong
    rw [if_pos (by decide), if_neg (by simp), host_ok _ _ _ (by omega) (by omega)]
  have e1 : devWrong (chainD d) 1 { d with name := ⟨#[100]⟩, hs := by decide } = devC d := by
    unfold devWrong
    rw [if_pos (show nameOk ⟨#[100]⟩ = true by decide), if_neg]
    · rfl
    · simp [chainD, hostD]
  have e2 : devWrong (chainD d) 2 (hostD ⟨#[111, 117, 116]⟩ 2 (by decide)) = 0 := by
    unfold devWrong
    rw [if_pos (by decide), if_neg, host_ok _ _ _ (by omega) (by omega)]
    simp [chainD, hostD]
  have ld : (chainD d).length = 3 := rfl
  have ll : chainL.length = 2 := rfl
  have pd : portsV d.kind = 2 := by
    unfold portsV
    rcases hk with h | h | h <;> rw [h] <;> rfl
  unfold netV
  rw [if_neg (by rw [ld, ll]; omega)]
  rw [devsFrom_at (d := hostD ⟨#[105, 110]⟩ 1 (by decide)) rfl, if_pos e0, devsFrom_at (d := { d with name := ⟨#[100]⟩, hs := by decide }) rfl, e1]
  by_cases hz : devC d = 0
  · rw [if_pos hz, devsFrom_at (d := hostD ⟨#[111, 117, 116]⟩ 2 (by decide)) rfl, if_pos e2, devsFrom_end (by rw [ld]; omega), if_pos rfl, hz]
    have k0 : kindAt (chainD d) 0 = 1 := rfl
    have k1 : kindAt (chainD d) 1 = d.kind := rfl
    have k2 : kindAt (chainD d) 2 = 1 := rfl
    have p1 : portsV 1 = 1 := rfl
    have l0 : linkWrong (chainD d) chainL 0 ⟨0, 0, 1, 0⟩ = 0 := by
      unfold linkWrong isPl
      simp [ld, k0, k1, pd, p1, selfB]
    have l1 : linkWrong (chainD d) chainL 1 ⟨1, 1, 2, 0⟩ = 0 := by
      unfold linkWrong isPl
      simp [ld, k1, k2, pd, p1, selfB, chainL, meetB]
    rw [linksFrom_at (l := ⟨0, 0, 1, 0⟩) rfl, if_pos l0, linksFrom_at (l := ⟨1, 1, 2, 0⟩) rfl, if_pos l1, linksFrom_end (by rw [ll]; omega)]
  · rw [if_neg hz, if_neg hz]
theorem row21 {w : World} {b : Nat} {d : Dv} {vb vr vt : Value} (h : Bk w b #[.string ⟨#[105, 110]⟩, .int .i64 1, .int .i64 1, .int .u8 0, .slice none 0 0, .slice none 0 0, .slice none 0 0, .string ⟨#[100]⟩, .int .i64 d.kind, .int .i64 d.addr, .int .u8 (d.pool : Int), vb, vr, vt, .string ⟨#[111, 117, 116]⟩, .int .i64 1, .int .i64 2, .int .u8 0, .slice none 0 0, .slice none 0 0, .slice none 0 0] 58)
    (hb : SlAt w.heap.size w 1 IsI vb d.backs) (hr : SlAt w.heap.size w 5 IsRule vr d.rules) (ht : SlAt w.heap.size w 3 IsRoute vt d.routes) : Devs w.heap.size w (.slice (some ⟨b, 0, none⟩) 3 3) (chainD d) := by
  have nil : ∀ {α : Type} (n : Nat) (R : List Value → α → Prop), SlAt w.heap.size w n R (.slice none 0 0) [] := fun n R => ⟨none, 0, rfl, fun _ => rfl, Nat.le_refl _, Nat.zero_le _, fun h => absurd rfl h⟩
  refine ⟨some ⟨b, 0, none⟩, 3, rfl, (fun e => by cases e), Nat.le_refl _, by decide, fun _ => ⟨b, 0, rfl, h.lt, fun k x hx => ?_⟩⟩
  match k, hx with
  | 0, hx =>
    obtain rfl := Option.some.inj hx
    refine ⟨[.string ⟨#[105, 110]⟩, .int .i64 1, .int .i64 1, .int .u8 0, .slice none 0 0, .slice none 0 0, .slice none 0 0], rfl, ⟨_, _, _, rfl, nil _ _, nil _ _, nil _ _⟩, fun j u hj => ?_⟩
    have hj7 : j < 7 := (List.getElem?_eq_some_iff.1 hj).1
    rw [show 0 + 0 * 7 + j = j by omega, h.at]
    match j, hj7, hj with
    | 0, _, hj => exact hj
    | 1, _, hj => exact hj
    | 2, _, hj => exact hj
    | 3, _, hj => exact hj
    | 4, _, hj => exact hj
    | 5, _, hj => exact hj
    | 6, _, hj => exact hj
  | 1, hx =>
    obtain rfl := Option.some.inj hx
    refine ⟨[.string ⟨#[100]⟩, .int .i64 d.kind, .int .i64 d.addr, .int .u8 (d.pool : Int), vb, vr, vt], rfl, ⟨_, _, _, rfl, hb, hr, ht⟩, fun j u hj => ?_⟩
    have hj7 : j < 7 := (List.getElem?_eq_some_iff.1 hj).1
    rw [show 0 + 1 * 7 + j = 7 + j by omega, h.at]
    match j, hj7, hj with
    | 0, _, hj => exact hj
    | 1, _, hj => exact hj
    | 2, _, hj => exact hj
    | 3, _, hj => exact hj
    | 4, _, hj => exact hj
    | 5, _, hj => exact hj
    | 6, _, hj => exact hj
  | 2, hx =>
    obtain rfl := Option.some.inj hx
    refine ⟨[.string ⟨#[111, 117, 116]⟩, .int .i64 1, .int .i64 2, .int .u8 0, .slice none 0 0, .slice none 0 0, .slice none 0 0], rfl, ⟨_, _, _, rfl, nil _ _, nil _ _, nil _ _⟩, fun j u hj => ?_⟩
    have hj7 : j < 7 := (List.getElem?_eq_some_iff.1 hj).1
    rw [show 0 + 2 * 7 + j = 14 + j by omega, h.at]
    match j, hj7, hj with
    | 0, _, hj => exact hj
    | 1, _, hj => exact hj
    | 2, _, hj => exact hj
    | 3, _, hj => exact hj
    | 4, _, hj => exact hj
    | 5, _, hj => exact hj
    | 6, _, hj => exact hj
theorem row8 {w : World} {b : Nat} (h : Bk w b #[.int .i64 0, .int .i64 0, .int .i64 1, .int .i64 0, .int .i64 1, .int .i64 1, .int .i64 2, .int .i64 0] 80) : Links w.heap.size w (.slice (some ⟨b, 0, none⟩) 2 2) chainL := by
  refine ⟨some ⟨b, 0, none⟩, 2, rfl, (fun e => by cases e), Nat.le_refl _, by decide, fun _ => ⟨b, 0, rfl, h.lt, fun k x hx => ?_⟩⟩
  match k, hx with
  | 0, hx =>
    obtain rfl := Option.some.inj hx
    refine ⟨[.int .i64 0, .int .i64 0, .int .i64 1, .int .i64 0], rfl, rfl, fun j u hj => ?_⟩
    have hj7 : j < 4 := (List.getElem?_eq_some_iff.1 hj).1
    rw [show 0 + 0 * 4 + j = j by omega, h.at]
    match j, hj7, hj with
    | 0, _, hj => exact hj
    | 1, _, hj => exact hj
    | 2, _, hj => exact hj
    | 3, _, hj => exact hj
  | 1, hx =>
    obtain rfl := Option.some.inj hx
    refine ⟨[.int .i64 1, .int .i64 1, .int .i64 2, .int .i64 0], rfl, rfl, fun j u hj => ?_⟩
    have hj7 : j < 4 := (List.getElem?_eq_some_iff.1 hj).1
    rw [show 0 + 1 * 4 + j = 4 + j by omega, h.at]
    match j, hj7, hj with
    | 0, _, hj => exact hj
    | 1, _, hj => exact hj
    | 2, _, hj => exact hj
    | 3, _, hj => exact hj
set_option maxHeartbeats 2000000 in
set_option maxRecDepth 100000 in
theorem chain_any (d : Dv) (vb vr vt : Value) (w : World) (hb : SlAt w.heap.size w 1 IsI vb d.backs) (hr : SlAt w.heap.size w 5 IsRule vr d.rules) (ht : SlAt w.heap.size w 3 IsRoute vt d.routes) :
    Calls Try.prog 11 #[.agg #[.string d.name, .int .i64 d.kind, .int .i64 d.addr, .int .u8 (d.pool : Int), vb, vr, vt]] w fun e w' => ∃ b b', e = .returned (.agg #[.slice (some ⟨b, 0, none⟩) 3 3, .slice (some ⟨b', 0, none⟩) 2 2]) ∧ Devs w'.heap.size w' (.slice (some ⟨b, 0, none⟩) 3 3) (chainD d) ∧ Links w'.heap.size w' (.slice (some ⟨b', 0, none⟩) 2 2) chainL ∧ Below w.heap.size w w' := by
  have fin : Hid (∀ (w' : World) (b b' : Nat), Below w.heap.size w w' → Bk w' b #[.string ⟨#[105, 110]⟩, .int .i64 1, .int .i64 1, .int .u8 0, .slice none 0 0, .slice none 0 0, .slice none 0 0, .string ⟨#[100]⟩, .int .i64 d.kind, .int .i64 d.addr, .int .u8 (d.pool : Int), vb, vr, vt, .string ⟨#[111, 117, 116]⟩, .int .i64 1, .int .i64 2, .int .u8 0, .slice none 0 0, .slice none 0 0, .slice none 0 0] 58 → Bk w' b' #[.int .i64 0, .int .i64 0, .int .i64 1, .int .i64 0, .int .i64 1, .int .i64 1, .int .i64 2, .int .i64 0] 80 → Devs w'.heap.size w' (.slice (some ⟨b, 0, none⟩) 3 3) (chainD d) ∧ Links w'.heap.size w' (.slice (some ⟨b', 0, none⟩) 2 2) chainL ∧ Below w.heap.size w w') := fun w' b b' h k1 k2 =>
    ⟨row21 k1 (SlAt.mono (SlAt.below hb h (fun _ _ _ h => h)) h.size (fun _ _ _ h => h)) (SlAt.mono (SlAt.below hr h (fun _ _ _ h => h)) h.size (fun _ _ _ h => h)) (SlAt.mono (SlAt.below ht h (fun _ _ _ h => h)) h.size (fun _ _ _ h => h)), row8 k2, h⟩
  obtain ⟨Ab, cb, rfl, _, _, _, _⟩ := hb
  obtain ⟨Ar, cr, rfl, _, _, _, _⟩ := hr
  obtain ⟨At, ct, rfl, _, _, _, _⟩ := ht
  generalize d.name = nm at *
  generalize d.kind = kd at *
  generalize d.addr = ad at *
  generalize d.pool = pl at *
  generalize d.backs.length = nb at *
  generalize d.rules.length = nr at *
  generalize d.routes.length = nt at *
  go_enter Try.func11, Try.ntmps11
  go_wp2_with fail
  refine bodyPost_ret (v := .agg #[.slice (some ⟨w.heap.size + 1 + 1, 0, none⟩) 3 3, .slice (some ⟨w.heap.size + 1 + 1 + 1, 0, none⟩) 2 2]) (by simp [results, Try.results11, go_sem]) rfl ⟨_, _, rfl, ?_⟩
  exact fin.out _ _ _ (by go_grown) ((bk_new' _ _ _ _ (by simp)).alloc _) (bk_new' _ _ _ _ (by simp))
set_option maxHeartbeats 1000000 in
theorem place_any (x y : Int) (w : World) : Calls Try.prog 13 #[.int .i64 x, .int .i64 y] w fun e w' => e = .returned (plA x y) ∧ Below w.heap.size w w' := by
  go_enter Try.func13, Try.ntmps13
  go_wp2_with fail
  refine bodyPost_ret (v := plA x y) (by simp [results, Try.results13, go_sem]) rfl ⟨rfl, ?_⟩
  exact Below.alN (Below.refl _ _) _
set_option maxHeartbeats 1000000 in
theorem mAll_any (w : World) : Calls Try.prog 22 #[] w fun e w' => e = .returned (.agg #[.int .u16 65535, .int .u16 65535, .int .u8 255, .int .u8 255]) ∧ Below w.heap.size w w' := by
  go_enter Try.func22, Try.ntmps22
  go_wp2_with fail
  refine bodyPost_ret (v := .agg #[.int .u16 65535, .int .u16 65535, .int .u8 255, .int .u8 255]) (by simp [results, Try.results22, go_sem]) rfl ⟨rfl, ?_⟩
  exact Below.alN (Below.refl _ _) _
set_option maxHeartbeats 1000000 in
theorem allR_any (ok : Bool) (w : World) : Calls Try.prog 12 #[.bool ok] w fun e w' => e = .returned (.agg #[.bool ok, .int .u16 65535, .int .u16 65535, .int .u8 255, .int .u8 255]) ∧ Below w.heap.size w w' := by
  have R1 := bk_new w #[.bool false, .int .u16 0, .int .u16 0, .int .u8 0, .int .u8 0] 52
  have D1 := Below.alN (Below.refl w.heap.size w) (.cells #[.bool false, .int .u16 0, .int .u16 0, .int .u8 0, .int .u8 0] 52)
  go_enter Try.func12, Try.ntmps12
  go_wp2_with fail
  refine (mAll_any _).mono ?_
  rintro e w2 ⟨rfl, hb2⟩
  have R2 := R1.keep hb2
  have D2 := chnN hb2 D1
  obtain ⟨r0, r1, r2, r3, r4⟩ := R2.five
  have f0 := R2.fz 0
  have f1 := R2.fz 1
  have f2 := R2.fz 2
  have f3 := R2.fz 3
  have f4 := R2.fz 4
  go_wp2_with fail
  refine bodyPost_ret (v := .agg #[.bool ok, .int .u16 65535, .int .u16 65535, .int .u8 255, .int .u8 255]) (by simp [results, Try.results12, go_sem, r0, r1, r2, r3, r4]) rfl ⟨rfl, ?_⟩
  go_grown

def fireD (rs : List NRule) : Dv := ⟨⟨#[]⟩, 3, 0, 0, [], rs, [], by omega, Nat.zero_le _⟩
def allN (ok : Bool) : NRule := ⟨ok, 65535, 65535, 255, 255, by omega, by omega, by omega, by omega⟩
def toRl (r : NRule) : Rl := ⟨r.ok, r.a, r.b, r.c, r.d, r.ha, r.hb, r.hc, r.hd⟩
theorem fire_devC (rs : List NRule) : devC (fireD rs) = if 8 < rs.length then 2 else 0 := by
  unfold devC devV fireD
  simp [hasAddr, checkV_nil, backsFrom_nil]
theorem fire_netV (rs : List NRule) : netV (chainD (fireD rs)) chainL = if 8 < rs.length then 2 else 0 := by
  rw [chain_netV _ (Or.inl rfl), fire_devC]
theorem chain_pl (d : Dv) (hk : d.kind = 3 ∨ d.kind = 4 ∨ d.kind = 5) : isPl (chainD d) 1 0 = true ∧ isPl (chainD d) 1 1 = true := by
  have pd : portsV d.kind = 2 := by
    unfold portsV
    rcases hk with h | h | h <;> rw [h] <;> rfl
  have k1 : kindAt (chainD d) 1 = d.kind := rfl
  have ld : (chainD d).length = 3 := rfl
  unfold isPl
  simp [ld, k1, pd]
theorem chain_peer0 : peerF chainL 1 0 = some (0, 0) := by decide
theorem chain_peer1 : peerF chainL 1 1 = some (2, 0) := by decide
theorem fire_ask (rs : List NRule) (M : Mnd) (p : Pk) (c : Int) : handleP (chainD (fireD rs)) chainL M 1 0 p c = if pkOk p then (if letsB (rs.map toRl) p.s p.d p.sp p.dp then ⟨0, (2, 0), p, learnP M (.flow 1 p)⟩ else badH 7 M) else badH 1 M := by
  have e : sendP ((chainD (fireD rs)).getD (1 : Int).toNat default) M 1 0 p c = if letsB (rs.map toRl) p.s p.d p.sp p.dp then ⟨0, 1, p, .flow 1 p⟩ else stayR 7 := rfl
  unfold handleP
  rw [(chain_pl (fireD rs) (Or.inl rfl)).1, e]
  cases pkOk p
  · rfl
  · cases letsB (rs.map toRl) p.s p.d p.sp p.dp
    · rfl
    · simp [chain_peer1]
theorem fire_answer (rs : List NRule) (M : Mnd) (p : Pk) (c : Int) : handleP (chainD (fireD rs)) chainL M 1 1 p c = if pkOk p then (if (M.fl (1, flipP p)).isSome then ⟨0, (0, 0), p, M⟩ else badH 7 M) else badH 1 M := by
  have e : sendP ((chainD (fireD rs)).getD (1 : Int).toNat default) M 1 1 p c = if (M.fl (1, flipP p)).isSome then passR 0 p else stayR 7 := rfl
  unfold handleP
  rw [(chain_pl (fireD rs) (Or.inl rfl)).2, e]
  cases pkOk p
  · rfl
  · cases (M.fl (1, flipP p)).isSome
    · rfl
    · simp [chain_peer0, passR, learnP]
theorem fire_forget (rs : List NRule) (M : Mnd) (p : Pk) (c : Int) : forgetP (chainD (fireD rs)) M 1 p c = if (M.fl (1, p)).isSome then ⟨0, { M with fl := delF M.fl (1, p) }⟩ else ⟨7, M⟩ := by
  unfold forgetP
  have ld : (chainD (fireD rs)).length = 3 := rfl
  have k1 : kindAt (chainD (fireD rs)) 1 = 3 := rfl
  rw [if_pos (by rw [ld]; omega), k1, if_pos rfl]
theorem flipP_ok {p : Pk} (h : pkOk p = true) : pkOk (flipP p) = true := by
  unfold pkOk flipP at *
  simp only [Bool.and_eq_true] at *
  exact ⟨⟨⟨h.1.1.2, h.1.1.1⟩, h.2⟩, h.1.2⟩
theorem flip_flip (p : Pk) : flipP (flipP p) = p := rfl
theorem letsB_all : letsB ([allN true].map toRl) 1 2 0 0 = true := by
  have := inR_all (ok := true) (p := 1) (q := 2) (s := 0) (t := 0) (by omega) (by omega) (by omega) (by omega)
  show (if inR (allR true) 1 2 0 0 then true else _) = true
  rw [if_pos this]
theorem addrs_fire (rs : List NRule) : AddrsOk (chainD (fireD rs)) := fun d hd => by
  simp only [chainD, List.mem_cons, List.not_mem_nil, or_false] at hd
  rcases hd with rfl | rfl | rfl
  · exact i64ok_of (by decide) (by decide)
  · show i64ok 0
    exact i64ok_of (by decide) (by decide)
  · exact i64ok_of (by decide) (by decide)
end Go.Proofs.Ytepfckicaafilab
