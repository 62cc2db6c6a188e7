/-
  Reach: the small chain: what its sets lean on; widen has room there.
-/
import Derived.Test.YtlmmeppifkigeaaGreatXAO
import Derived.Test.YtlmmeppifkigeaaGreatLy
namespace Go.Proofs.YtlmmeppifkigeaaGreat
open Go.RowKit Go.Maps

set_option maxHeartbeats 4000000 in
set_option maxRecDepth 100000 in
theorem abuild_zero {base a M : Nat} {w : World} {ns : List Nd} (h : Ar base a M 14 40000 w ns) (A : Option Addr) (n cap : Nat) (xs : List Rl) (hR : Rules w.heap.size w (.slice A n cap) xs) (hlen : xs.length ≤ 2) (b : Bool) (hc : ∀ x, letsF xs x = b) :
    Calls Tryz.prog 168 #[.pointer (some ⟨a, 0, none⟩), .slice A n cap] w (OPost base a M w ns 0 (letsF xs)) := by
  have hn : n = xs.length := by
    obtain ⟨_, _, e, _⟩ := hR
    cases e
    rfl
  have CK : Hid (∀ w, Calls Tryz.prog 78 #[.slice A n cap] w fun e w' => e = .returned (.int .i64 0) ∧ w' = w) := fun w => by
    have := check_ok A n cap w
    rw [if_neg (by omega)] at this
    exact this
  have NW : Hid (Calls Tryz.prog 26 #[.int .i64 14, .int .i64 40000] w fun e w' => ∃ a2 M2, e = .returned (.tuple #[.pointer (some ⟨a2, 0, none⟩), .int .i64 0]) ∧ Ar w.heap.size a2 M2 14 40000 w' [(14, 0, 0), (14, 1, 1)] ∧ Below w.heap.size w w') := new_ok (v := 14) (m := 40000) w (by omega) (by omega) (by omega) (by omega)
  clear hn
  go_enter Tryz.func168, Tryz.ntmps168
  go_wp2_with (go_at_call 78; refine (CK.out _).mono ?_; rintro e w' ⟨rfl, rfl⟩)
  refine NW.out.mono ?_
  rintro e w2 ⟨a2, M2, rfl, A2, hb2⟩
  have JO : Hid (Calls Tryz.prog 180 #[.pointer (some ⟨a2, 0, none⟩), .slice A n cap] w2 fun e w' => ∃ ns', Ar _ a2 M2 14 40000 w' ns' ∧ Below _ w2 w' ∧
      ((∃ f : Nat, e = .returned (.tuple #[.int .i64 (f : Int), .int .i64 0]) ∧ f < ns'.length ∧ ∀ x, ev ns' f x = letsF xs x) ∨ (e = .returned (.tuple #[.int .i64 0, .int .i64 6]) ∧ _))) := join_ok A2 A n cap xs (hR.below hb2) (by omega)
  clear CK NW
  go_wp2_with fail
  refine JO.out.mono ?_
  rintro e w3 ⟨ns3, A3, hb3, hres⟩
  have D3 := hb2.trans hb3
  have H3 := h.below D3
  have K3 := h.kbelow D3
  clear JO hb2 hb3 A2
  obtain ⟨f, rfl, lf, ef⟩ : ∃ f : Nat, e = .returned (.tuple #[.int .i64 (f : Int), .int .i64 0]) ∧ f < ns3.length ∧ ∀ x, ev ns3 f x = letsF xs x := by
    rcases hres with h | ⟨_, h⟩
    · exact h
    · simp only [List.length_cons, List.length_nil] at h
      omega
  have l3 := A3.wf.len
  have hf : f = if b then 1 else 0 := by
    refine canon A3.wf lf (by split <;> omega) (fun x => ?_)
    rw [ef x, hc x]
    cases b
    · rfl
    · simp [ev1]
  have TK : Hid (Calls Tryz.prog 93 #[.pointer (some ⟨a, 0, none⟩), .pointer (some ⟨a2, 0, none⟩), .int .i64 (f : Int)] w3 fun e w' => e = .returned (.tuple #[.int .i64 (f : Int), .int .i64 0]) ∧ Ar base a M 14 40000 w' ns ∧ Kp (ca base a M 14 40000) w3 w') := take_const H3 A3 (Nat.le_refl _) (by rw [hf]; split <;> omega)
  have h2 := h.wf.len
  have hlt : f < ns.length := by rw [hf]; split <;> omega
  have hev : ∀ x, ev ns f x = letsF xs x := fun x => by
    rw [hc x, hf]
    cases b
    · rfl
    · simp [ev1]
  have EV : Hid (∀ x, ev ns f x = letsF xs x) := hev
  clear hf hev ef A3 H3 hc hres
  go_wp2_with fail
  refine TK.out.mono ?_
  rintro e w4 ⟨rfl, A4, K4⟩
  have fin : Hid (OPost base a M w' ns 0 (letsF xs) (.returned (.tuple #[.int .i64 (f : Int), .int .i64 0])) w4) := ⟨ns, f, 0, rfl, A4, K3.trans K4, Ext.refl _, Nat.le_refl _, Or.inl ⟨rfl, f, rfl, hlt, EV.out⟩⟩
  clear A4 K4 K3 TK EV D3
  go_wp2_with fail
  go_ret2
  exact fin.out

section
variable {base q a M : Nat} {w0 w : World} {ns : List Nd} {er : Int}
theorem rulB_zero {A : Option Addr} {n cap : Nat} {xs : List Rl} (hR : Rules base w0 (.slice A n cap) xs) (hlen : xs.length ≤ 2) {b : Bool} (hc : ∀ x, letsF xs x = b) : RulB base q a M w0 (.slice A n cap) 0 (letsF xs) :=
  fun _ _ _ h => rules_w h (OP := abuild_zero h.ar A n cap xs ((hR.below h.bel).mono h.size) hlen b hc)
end
/-- The first variables. -/
def S8 : Nat → Bool := fun v => decide (v < 8)
theorem sel_fullR (k first : Nat) (x : Env) : sel k (2 ^ 2 ^ k - 1) first x = true := by
  rw [sel_val, Nat.testBit_two_pow_sub_one]
  have h : ∀ k first, val k first x < 2 ^ k := fun k => by
    induction k with
    | zero => intro first; simp [val]
    | succ k ih =>
      intro first
      have := ih (first + 1)
      have hp : 2 ^ (k + 1) = 2 ^ k + 2 ^ k := by rw [Nat.pow_succ]; omega
      unfold val
      split <;> omega
  simp [h k first]
theorem phi_src (z : Nat) (x : Env) : phi z 65535 255 255 x = sel 4 z 0 x := by
  unfold phi
  rw [show sel 4 65535 4 x = true from sel_fullR 4 4 x, show sel 3 255 8 x = true from sel_fullR 3 8 x, show sel 3 255 11 x = true from sel_fullR 3 11 x]
  simp
theorem sel_depR : ∀ (k bits first : Nat) (x y : Env), (∀ i, first ≤ i → i < first + k → x i = y i) → sel k bits first x = sel k bits first y
  | 0, _, _, _, _, _ => rfl
  | k + 1, bits, first, x, y, h => by
    unfold sel
    rw [h first (Nat.le_refl _) (by omega), sel_depR k _ (first + 1) x y (fun i h1 h2 => h i (by omega) (by omega)), sel_depR k _ (first + 1) x y (fun i h1 h2 => h i (by omega) (by omega))]
theorem dep_src (z : Nat) : DepS S8 (phi z 65535 255 255) := fun e e' h => by
  rw [phi_src, phi_src]
  exact sel_depR _ _ _ _ _ fun i _ hi => h i (by simp [S8]; omega)
theorem dep_sw {φ : Env → Bool} (h : DepS S8 φ) (i j : Nat) (hij : (i < 8 ∧ j < 8) ∨ (8 ≤ i ∧ 8 ≤ j)) : DepS S8 (fun x => φ (swE x i j)) := fun e e' he => h _ _ fun v hv => by
  have hv8 : v < 8 := by simpa [S8] using hv
  have g : ∀ u, u < 8 → e u = e' u := fun u hu => he u (by simp [S8, hu])
  unfold swE
  split
  · exact g j (by omega)
  split
  · exact g i (by omega)
  · exact g v hv8
theorem dep_ex {φ : Env → Bool} (h : DepS S8 φ) (i j n : Nat) (hij : ∀ k, k < n → (i + k < 8 ∧ j + k < 8) ∨ (8 ≤ i + k ∧ 8 ≤ j + k)) : ∀ k, k ≤ n → DepS S8 (exF φ i j k)
  | 0, _ => h
  | k + 1, hk => dep_sw (dep_ex h i j n hij k (by omega)) (i + k) (j + k) (hij k (by omega))
theorem dep_fl {φ : Env → Bool} (h : DepS S8 φ) : DepS S8 (flF φ) := dep_ex (dep_ex h 0 4 4 (fun k _ => Or.inl (by omega)) 4 (Nat.le_refl _)) 8 11 3 (fun k _ => Or.inr (by omega)) 3 (Nat.le_refl _)
theorem dep_and {φ ψ : Env → Bool} (h : DepS S8 φ) (h' : DepS S8 ψ) : DepS S8 (fun x => φ x && ψ x) := fun e e' he => by show (φ e && ψ e) = (φ e' && ψ e'); rw [h e e' he, h' e e' he]
theorem dep_or {φ ψ : Env → Bool} (h : DepS S8 φ) (h' : DepS S8 ψ) : DepS S8 (fun x => φ x || ψ x) := fun e e' he => by show (φ e || ψ e) = (φ e' || ψ e'); rw [h e e' he, h' e e' he]
theorem dep_const (b : Bool) : DepS S8 (fun _ => b) := fun _ _ _ => rfl
theorem cn8 : 2 ^ cnS S8 14 0 - 1 = 255 := by decide
theorem flB_8 {base q a M : Nat} {w0 : World} {φ : Env → Bool} (h : DepS S8 φ) : FlB base q a M w0 φ (4 * 255 + 3 * 1023) := by
  refine flB_of (fun _ => S8) (fun _ => S8) 255 1023 ⟨fun k hk => ⟨dep_ex h 0 4 4 (fun k _ => Or.inl (by omega)) k (by omega), ?_⟩, fun k hk => ⟨dep_ex (dep_ex h 0 4 4 (fun k _ => Or.inl (by omega)) 4 (Nat.le_refl _)) 8 11 3 (fun k _ => Or.inr (by omega)) k (by omega), ?_⟩⟩
  · match k, hk with
    | 0, _ => decide
    | 1, _ => decide
    | 2, _ => decide
    | 3, _ => decide
  · match k, hk with
    | 0, _ => decide
    | 1, _ => decide
    | 2, _ => decide
/-- What a host or a firewall that lets all through sends leans on what came in. -/
theorem dep_send {d : Dv} (hk : d.kind = 1 ∨ (d.kind = 3 ∧ ∀ x, letsF (rulesD d) x = true)) (pt : Int) {φ0 φ1 φ2 φ3 : Env → Bool} (h0 : DepS S8 φ0) (h1 : DepS S8 φ1) : DepS S8 (sendF d pt φ0 φ1 φ2 φ3) := by
  rcases hk with hk | ⟨hk, hl⟩
  · unfold sendF
    rw [if_neg (by omega), if_neg (by omega), if_neg (by omega), if_neg (by omega)]
    exact dep_const false
  · have el : letsF (rulesD d) = fun _ => true := funext hl
    unfold sendF
    rw [if_neg (by omega), if_pos hk, el]
    split
    · exact dep_and h0 (dep_const true)
    · exact dep_and h1 (dep_fl (dep_and h0 (dep_const true)))
/-- Widen has room, of a host or a firewall that lets all through, where all leans on eight variables. -/
theorem widB_small {d : Dv} (hk : d.kind = 1 ∨ (d.kind = 3 ∧ ∀ x, letsF (rulesD d) x = true)) (hlen : d.rules.length ≤ 2) (pt : Int) {χ φ0 φ1 φ2 φ3 : Env → Bool} (hχ : DepS S8 χ) (h0 : DepS S8 φ0) (h1 : DepS S8 φ1) (h2 : DepS S8 φ2) (h3 : DepS S8 φ3) : WidB 255 False d pt χ φ0 φ1 φ2 φ3 := by
  intro bR R MR most nsR w hR Ab A At nb cb n cap nt ct hb hr ht set f0 f1 f2 f3 hs l0 l1 l2 l3 e0 e1 e2 e3 e4
  subst e0 e1 e2 e3 e4
  have hd := dep_send hk pt (φ2 := ev nsR f2) (φ3 := ev nsR f3) h0 h1
  refine (widen_w hR S8 S8 hs l0 l1 l2 l3 hχ h0 h1 h2 h3 (dep_or hχ hd) (gS := 5000) (gO := 255) (ψ := sendF d pt (ev nsR f0) (ev nsR f1) (ev nsR f2) (ev nsR f3)) (fun base q a M w0 W ns er i0 i1 i2 i3 hbl hle b m0 m1 m2 m3 => ?_) (fun base q a M w0 => ?_)).mono fun e w' ⟨ns', v, er, k1, k2, k3, k4, k5, k6⟩ => ⟨ns', v, er, k1, k2, k3, k4, ?_, ?_⟩
  · have hr' := SlAt.mono (SlAt.below hr hbl (fun _ _ _ h => h)) hle (fun _ _ _ h => h)
    rcases hk with hk | ⟨hk, hl⟩
    · have es : sendF d pt (ev nsR f0) (ev nsR f1) (ev nsR f2) (ev nsR f3) = fun _ => false := by
        unfold sendF
        rw [if_neg (by omega), if_neg (by omega), if_neg (by omega), if_neg (by omega)]
      rw [es, hk]
      exact (send_host b).mono fun _ _ B => B.more (by omega)
    · have el : letsF (rulesD d) = fun _ => true := funext hl
      have RB : RulB base q a M w0 (.slice A n cap) 0 (letsF (rulesD d)) := rulB_zero (rules_ofD hr') (by unfold rulesD; rw [List.length_map]; exact hlen) hl
      by_cases hp : pt = 1
      · have es : sendF d pt (ev nsR f0) (ev nsR f1) (ev nsR f2) (ev nsR f3) = fun x => ev nsR f0 x && letsF (rulesD d) x := by
          unfold sendF
          rw [if_neg (by omega), if_pos hk, if_pos hp]
        rw [es, hk]
        have AB : AndB base q a M w0 (ev nsR f0) (letsF (rulesD d)) 255 := by rw [el]; exact cn8 ▸ andB_of S8 h0 (dep_const true)
        exact (send_ask b hp (g := 0 + 0 + 255) fun W b' => ask_b b' RB AB m0).mono fun _ _ B => B.more (by omega)
      · have es : sendF d pt (ev nsR f0) (ev nsR f1) (ev nsR f2) (ev nsR f3) = fun x => ev nsR f1 x && flF (fun x => ev nsR f0 x && letsF (rulesD d) x) x := by
          unfold sendF
          rw [if_neg (by omega), if_pos hk, if_neg hp]
        rw [es, hk]
        have AB : AndB base q a M w0 (ev nsR f0) (letsF (rulesD d)) 255 := by rw [el]; exact cn8 ▸ andB_of S8 h0 (dep_const true)
        have DL : DepS S8 (fun x => ev nsR f0 x && letsF (rulesD d) x) := by rw [el]; exact dep_and h0 (dep_const true)
        have BB : AndB base q a M w0 (ev nsR f1) (flF (fun x => ev nsR f0 x && letsF (rulesD d) x)) 255 := cn8 ▸ andB_of S8 h1 (dep_fl DL)
        exact (send_answer b hp (g := 0 + (0 + 0 + 255) + (4 * 255 + 3 * 1023) + 255) fun W b' => answer_b b' RB AB (flB_8 DL) BB m0 m1).mono fun _ _ B => B.more (by omega)
  · exact cn8 ▸ orB_of S8 hχ hd
  · rw [cn8] at k5
    exact k5
  · rw [cn8] at k6
    rcases k6.out with h | ⟨a, b, c | c⟩
    · exact Or.inl h
    · omega
    · exact Or.inr ⟨a, b, Or.inr c⟩
end Go.Proofs.YtlmmeppifkigeaaGreat



namespace Go.Proofs.YtlmmeppifkigeaaGreat
open Go.RowKit Go.Maps

abbrev dsC : List Dv := chainR (fireR [allNR true])
abbrev lsC : List Lk := chainLR
abbrev fdC : Dv := { fireR [allNR true] with name := ⟨#[100]⟩, hs := by decide }
theorem chain_net : netV dsC lsC = 0 := by rw [fire_netVR]; rfl
theorem chain_at {i : Nat} {d : Dv} (h : dsC[i]? = some d) : (i = 0 ∧ d = hostR ⟨#[105, 110]⟩ 1 (by decide)) ∨ (i = 1 ∧ d = fdC) ∨ (i = 2 ∧ d = hostR ⟨#[111, 117, 116]⟩ 2 (by decide)) := by
  match i, h with
  | 0, h => exact Or.inl ⟨rfl, (Option.some.inj h).symm⟩
  | 1, h => exact Or.inr (Or.inl ⟨rfl, (Option.some.inj h).symm⟩)
  | 2, h => exact Or.inr (Or.inr ⟨rfl, (Option.some.inj h).symm⟩)
theorem chain_devs : ∀ d ∈ dsC, devC d = 0 := fun d hd => by
  obtain ⟨i, hi⟩ := List.mem_iff_getElem?.1 hd
  rcases chain_at hi with ⟨_, rfl⟩ | ⟨_, rfl⟩ | ⟨_, rfl⟩
  · exact host_okR _ _ _ (by omega) (by omega)
  · have := fire_devCR [allNR true]
    exact this
  · exact host_okR _ _ _ (by omega) (by omega)
theorem chain_peers {i q : Int} {t : Int × Int} (h : peerF lsC i q = some t) : (i = 0 ∧ q = 0 ∧ t = (1, 0)) ∨ (i = 1 ∧ q = 0 ∧ t = (0, 0)) ∨ (i = 1 ∧ q = 1 ∧ t = (2, 0)) ∨ (i = 2 ∧ q = 0 ∧ t = (1, 1)) := by
  obtain ⟨l, hl, he⟩ := peerF_of h
  have hl' : l = ⟨0, 0, 1, 0⟩ ∨ l = ⟨1, 1, 2, 0⟩ := by simpa [chainLR] using hl
  rcases hl' with rfl | rfl
  · rcases endOf_ends he with ⟨⟨h1, h2⟩, h3⟩ | ⟨⟨h1, h2⟩, h3⟩
    · exact Or.inl ⟨h1.symm, h2.symm, h3⟩
    · exact Or.inr (Or.inl ⟨h1.symm, h2.symm, h3⟩)
  · rcases endOf_ends he with ⟨⟨h1, h2⟩, h3⟩ | ⟨⟨h1, h2⟩, h3⟩
    · exact Or.inr (Or.inr (Or.inl ⟨h1.symm, h2.symm, h3⟩))
    · exact Or.inr (Or.inr (Or.inr ⟨h1.symm, h2.symm, h3⟩))
theorem fdC_lets (x : Env) : letsF (rulesD fdC) x = true := by
  show letsF [⟨true, 65535, 65535, 255, 255, _, _, _, _⟩] x = true
  unfold letsF
  rw [if_pos]
  rw [phi_src]
  exact sel_fullR 4 0 x
theorem chain_kind {i : Nat} {d : Dv} (h : dsC[i]? = some d) : (d.kind = 1 ∨ (d.kind = 3 ∧ ∀ x, letsF (rulesD d) x = true)) ∧ d.rules.length ≤ 2 := by
  rcases chain_at h with ⟨_, rfl⟩ | ⟨_, rfl⟩ | ⟨_, rfl⟩
  · exact ⟨Or.inl rfl, by decide⟩
  · exact ⟨Or.inr ⟨rfl, fdC_lets⟩, by decide⟩
  · exact ⟨Or.inl rfl, by decide⟩
theorem dep_set : ∀ (k a b : Nat), DepS S8 (SetF dsC lsC k a b)
  | 0, a, b => fun e e' he => by
    rw [Bool.eq_iff_iff, setF_zero, setF_zero]
    unfold HostBy
    constructor
    · rintro ⟨i, d, h1, h2, h3, h4, h5⟩
      exact ⟨i, d, h1, h2, h3, h4, by rw [← dep_src _ e e' he]; exact h5⟩
    · rintro ⟨i, d, h1, h2, h3, h4, h5⟩
      exact ⟨i, d, h1, h2, h3, h4, by rw [dep_src _ e e' he]; exact h5⟩
  | k + 1, a, b => fun e e' he => by
    rw [Bool.eq_iff_iff, setF_succ, setF_succ, dep_set k a b e e' he]
    unfold SentBy
    constructor
    · rintro (h | ⟨i, q, d, h1, h2, h3, h4, h5, h6⟩)
      · exact Or.inl h
      · exact Or.inr ⟨i, q, d, h1, h2, h3, h4, h5, by rw [← dep_send (chain_kind h3).1 q (dep_set k i 0) (dep_set k i 1) e e' he]; exact h6⟩
    · rintro (h | ⟨i, q, d, h1, h2, h3, h4, h5, h6⟩)
      · exact Or.inl h
      · exact Or.inr ⟨i, q, d, h1, h2, h3, h4, h5, by rw [dep_send (chain_kind h3).1 q (dep_set k i 0) (dep_set k i 1) e e' he]; exact h6⟩
/-- Widen has room in each round of the chain. -/
theorem chain_wid (k i q a b : Nat) (d : Dv) (hd : dsC[i]? = some d) : WidB 255 False d (q : Int) (SetF dsC lsC k a b) (SetF dsC lsC k i 0) (SetF dsC lsC k i 1) (SetF dsC lsC k i 2) (SetF dsC lsC k i 3) :=
  widB_small (chain_kind hd).1 (chain_kind hd).2 q (dep_set k a b) (dep_set k i 0) (dep_set k i 1) (dep_set k i 2) (dep_set k i 3)
theorem send_hostF {d : Dv} (hk : d.kind = 1) (q : Int) (φ0 φ1 φ2 φ3 : Env → Bool) (x : Env) : sendF d q φ0 φ1 φ2 φ3 x = false := by
  unfold sendF
  rw [if_neg (by omega), if_neg (by omega), if_neg (by omega), if_neg (by omega)]
theorem send_fdC (q : Int) (φ0 φ1 φ2 φ3 : Env → Bool) (x : Env) : sendF fdC q φ0 φ1 φ2 φ3 x = if q = 1 then φ0 x else (φ1 x && flF φ0 x) := by
  have el : letsF (rulesD fdC) = fun _ => true := funext fdC_lets
  have e0 : (fun x => φ0 x && true) = φ0 := funext fun x => by simp
  unfold sendF
  rw [if_neg (show ¬ (fdC.kind = 2) by decide), if_pos (show fdC.kind = 3 by decide), el]
  split
  · simp
  · simp only [e0]
/-- What is sent to a place of the chain. -/
theorem chain_sent (F : Nat → Nat → Env → Bool) (a b : Nat) (x : Env) : SentBy dsC lsC (fun _ => False) F dsC.length 0 ((a : Int), (b : Int)) x ↔ (a = 0 ∧ b = 0 ∧ (F 1 1 x && flF (F 1 0) x) = true) ∨ (a = 2 ∧ b = 0 ∧ F 1 0 x = true) := by
  constructor
  · rintro ⟨i, q, d, h1, _, h3, h4, h5, h6⟩
    rcases chain_peers h5 with ⟨hi, hq, ht⟩ | ⟨hi, hq, ht⟩ | ⟨hi, hq, ht⟩ | ⟨hi, hq, ht⟩
    · obtain rfl : i = 0 := by omega
      rcases chain_at h3 with ⟨_, rfl⟩ | ⟨h, _⟩ | ⟨h, _⟩
      · rw [send_hostF rfl] at h6; cases h6
      · omega
      · omega
    · obtain rfl : i = 1 := by omega
      rcases chain_at h3 with ⟨h, _⟩ | ⟨_, rfl⟩ | ⟨h, _⟩
      · omega
      · rw [send_fdC, if_neg (by omega)] at h6
        simp only [Prod.mk.injEq] at ht
        exact Or.inl ⟨by omega, by omega, h6⟩
      · omega
    · obtain rfl : i = 1 := by omega
      rcases chain_at h3 with ⟨h, _⟩ | ⟨_, rfl⟩ | ⟨h, _⟩
      · omega
      · rw [send_fdC, if_pos hq] at h6
        simp only [Prod.mk.injEq] at ht
        exact Or.inr ⟨by omega, by omega, h6⟩
      · omega
    · obtain rfl : i = 2 := by omega
      rcases chain_at h3 with ⟨h, _⟩ | ⟨h, _⟩ | ⟨_, rfl⟩
      · omega
      · omega
      · rw [send_hostF rfl] at h6; cases h6
  · rintro (⟨rfl, rfl, h⟩ | ⟨rfl, rfl, h⟩)
    · exact ⟨1, 0, fdC, Or.inl (by decide), fun h => h, rfl, by decide, by decide, by rw [send_fdC, if_neg (by omega)]; exact h⟩
    · exact ⟨1, 1, fdC, Or.inl (by decide), fun h => h, rfl, by decide, by decide, by rw [send_fdC, if_pos (by omega)]; exact h⟩
theorem chain_zero (a b : Nat) (x : Env) : SetF dsC lsC 0 a b x = true ↔ (a = 1 ∧ b = 0 ∧ phi 2 65535 255 255 x = true) ∨ (a = 1 ∧ b = 1 ∧ phi 4 65535 255 255 x = true) := by
  rw [setF_zero]
  constructor
  · rintro ⟨i, d, h1, h2, h3, h4, h5⟩
    rcases chain_at h2 with ⟨rfl, rfl⟩ | ⟨rfl, rfl⟩ | ⟨rfl, rfl⟩
    · rcases chain_peers h4 with ⟨hi, hq, ht⟩ | ⟨hi, hq, ht⟩ | ⟨hi, hq, ht⟩ | ⟨hi, hq, ht⟩
      · simp only [Prod.mk.injEq] at ht
        exact Or.inl ⟨by omega, by omega, h5⟩
      · simp at hi
      · simp at hi
      · simp at hi
    · exact absurd h3 (by decide)
    · rcases chain_peers h4 with ⟨hi, hq, ht⟩ | ⟨hi, hq, ht⟩ | ⟨hi, hq, ht⟩ | ⟨hi, hq, ht⟩
      · simp at hi
      · simp at hi
      · simp at hi
      · simp only [Prod.mk.injEq] at ht
        exact Or.inr ⟨by omega, by omega, h5⟩
  · rintro (⟨rfl, rfl, h⟩ | ⟨rfl, rfl, h⟩)
    · exact ⟨0, _, by decide, rfl, rfl, by decide, h⟩
    · exact ⟨2, _, by decide, rfl, rfl, by decide, h⟩
theorem chain_dev1 : ∀ (k b : Nat), SetF dsC lsC k 1 b = SetF dsC lsC 0 1 b
  | 0, _ => rfl
  | k + 1, b => funext fun x => by
    rw [Bool.eq_iff_iff, setF_succ, chain_dev1 k b, chain_sent]
    constructor
    · rintro (h | ⟨h, _⟩ | ⟨h, _⟩)
      · exact h
      · omega
      · omega
    · exact Or.inl
/-- The second round brings nothing more. -/
theorem chain_two (k a b : Nat) (x : Env) : SetF dsC lsC (k + 2) a b x = SetF dsC lsC (k + 1) a b x := by
  rw [Bool.eq_iff_iff, setF_succ (k + 1), chain_sent, chain_dev1 (k + 1), chain_dev1 (k + 1), ← chain_dev1 k, ← chain_dev1 k, ← chain_sent, setF_succ k]
  constructor
  · rintro (h | h)
    · exact h
    · exact Or.inr h
  · exact Or.inl
theorem chain_grow {k : Nat} (h : ∀ j, j < k → cntF dsC lsC j < cntF dsC lsC (j + 1)) : k ≤ 1 := by
  by_cases hk : 1 < k
  · have h1 := h 1 hk
    have e : cntF dsC lsC (1 + 1) = cntF dsC lsC 1 := by
      unfold cntF
      congr 1
      funext n
      exact chain_two 0 _ _ _
    omega
  · omega
theorem chain_room : ¬ RoomP dsC lsC 40000 255 False := by
  rintro ⟨k, hk, h | h⟩
  · exact h
  · have := chain_grow hk
    rw [show dsC.length = 3 from rfl] at h
    have : 255 * (4 * 3) * (k + 1) ≤ 255 * (4 * 3) * 2 := Nat.mul_le_mul_left _ (by omega)
    omega
theorem chain_one (a b : Nat) (x : Env) : SetF dsC lsC 1 a b x = true ↔ SetF dsC lsC 0 a b x = true ∨ (a = 0 ∧ b = 0 ∧ (phi 4 65535 255 255 x && flF (phi 2 65535 255 255) x) = true) ∨ (a = 2 ∧ b = 0 ∧ phi 2 65535 255 255 x = true) := by
  have e1 : SetF dsC lsC 0 1 0 = phi 2 65535 255 255 := funext fun x => by rw [Bool.eq_iff_iff, chain_zero]; simp
  have e2 : SetF dsC lsC 0 1 1 = phi 4 65535 255 255 := funext fun x => by rw [Bool.eq_iff_iff, chain_zero]; simp
  rw [setF_succ, chain_sent, e1, e2]
theorem chain_20 : SetF dsC lsC 1 2 0 = phi 2 65535 255 255 := funext fun x => by rw [Bool.eq_iff_iff, chain_one, chain_zero]; simp
theorem chain_00 : SetF dsC lsC 1 0 0 = fun x => phi 4 65535 255 255 x && flF (phi 2 65535 255 255) x := funext fun x => by rw [Bool.eq_iff_iff, chain_one, chain_zero]; simp
theorem chain_000 : SetF dsC lsC 0 0 0 = fun _ => false := funext fun x => by
  cases h : SetF dsC lsC 0 0 0 x
  · rfl
  · rcases (chain_zero 0 0 x).1 h with ⟨h, _⟩ | ⟨h, _⟩ <;> omega
theorem chain_020 : SetF dsC lsC 0 2 0 = fun _ => false := funext fun x => by
  cases h : SetF dsC lsC 0 2 0 x
  · rfl
  · rcases (chain_zero 2 0 x).1 h with ⟨h, _⟩ | ⟨h, _⟩ <;> omega
/-- There is one round behind the first. -/
theorem chain_K {K : Nat} (h1 : ∀ j, j < K → cntF dsC lsC j < cntF dsC lsC (j + 1)) (h2 : ∀ a b, a < 10 → b < 4 → SetF dsC lsC (K + 1) a b = SetF dsC lsC K a b) : K = 1 := by
  have := chain_grow h1
  by_cases h0 : K = 0
  · subst h0
    have h := h2 2 0 (by omega) (by omega)
    rw [chain_20, chain_020] at h
    have h' := congrFun h (envOf 14 1024)
    exact absurd h' (by decide)
  · omega
theorem T_open {g : Env → Bool} {i : Nat} (h : ∀ (e e' : Env), (∀ v, v < i → e v = e' v) → g e = g e') : ∀ (k j : Nat) (e : Env), i ≤ j → T k j g e = if g e then 2 ^ k else 0
  | 0, _, e, _ => by unfold T; rfl
  | k + 1, j, e, hj => by
    have hs : ∀ b, g (setE e j b) = g e := fun b => h _ _ fun v hv => setE_ne e b (by omega)
    unfold T
    rw [T_open h k (j + 1) _ (by omega), T_open h k (j + 1) _ (by omega), hs, hs, Nat.pow_succ]
    split <;> omega
theorem cnt_20 : cntE (phi 2 65535 255 255) = 1024 := by
  have h : ∀ (e e' : Env), (∀ v, v < 4 → e v = e' v) → phi 2 65535 255 255 e = phi 2 65535 255 255 e' := fun e e' he => by
    rw [phi_src, phi_src]
    exact sel_depR _ _ _ _ _ fun i _ hi => he i (by omega)
  have g := T_open h 10 4
  unfold cntE T T T T
  simp only [g _ (Nat.le_refl _)]
  decide
theorem rnd_yes : (fun x => phi 4 65535 255 255 x && flF (phi 2 65535 255 255) x) (envOf 14 (codeR 2 1 0 0)) = true := by decide
theorem rnd_no : (fun x => phi 4 65535 255 255 x && flF (phi 2 65535 255 255) x) (envOf 14 (codeR 2 3 0 0)) = false := by decide
end Go.Proofs.YtlmmeppifkigeaaGreat



namespace Go.Proofs.YtlmmeppifkigeaaGreat
open Go.RowKit Go.Maps

theorem rnd_one {P : Nat → Bool} {v : Int} (h : RoundV 1 P v) (h0 : P 0 = false) (h1 : P 1 = true) : v = 1 := by
  obtain ⟨k, ⟨f1, f2, f3⟩, rfl⟩ := h
  have k1 : k = 1 := by
    by_cases a : k = 0
    · have := f3 0 (by omega) (by omega); rw [h0] at this; cases this
    by_cases b : k = 2
    · have := f2 1 (by omega); rw [h1] at this; cases this
    omega
  rw [k1]
  rfl
theorem rnd_none {P : Nat → Bool} {v : Int} (h : RoundV 1 P v) (h0 : P 0 = false) (h1 : P 1 = false) : v = -1 := by
  obtain ⟨k, ⟨f1, f2, f3⟩, rfl⟩ := h
  have k1 : k = 2 := by
    by_cases a : k = 0
    · have := f3 0 (by omega) (by omega); rw [h0] at this; cases this
    by_cases b : k = 1
    · have := f3 1 (by omega) (by omega); rw [h1] at this; cases this
    omega
  rw [k1]
  rfl
abbrev ruleC : Array Value := #[.bool true, .int .u16 65535, .int .u16 65535, .int .u8 255, .int .u8 255]
theorem rule_sl (w : World) : SlAt (w.alloc (.cells ruleC 71)).heap.size (w.alloc (.cells ruleC 71)) 5 IsRule (.slice (some ⟨w.heap.size, 0, none⟩) 1 1) [allNR true] := by
  have h := bz_newR w ruleC 71
  refine ⟨some ⟨w.heap.size, 0, none⟩, 1, rfl, (fun e => by cases e), Nat.le_refl _, by decide, fun _ => ⟨w.heap.size, 0, rfl, h.lt, fun k x hx => ?_⟩⟩
  match k, hx with
  | 0, hx =>
    obtain rfl := Option.some.inj hx
    refine ⟨ruleC.toList, rfl, rfl, fun j u hj => ?_⟩
    rw [show 0 + 0 * 5 + j = j by omega, h.atR]
    simpa using hj
theorem nil_sl {α : Type} (w : World) (n : Nat) (R : List Value → α → Prop) : SlAt w.heap.size w n R (.slice none 0 0) [] := ⟨none, 0, rfl, fun _ => rfl, Nat.le_refl _, Nat.zero_le _, fun h => absurd rfl h⟩
set_option maxHeartbeats 4000000 in
set_option maxRecDepth 100000 in
theorem ready_any (w : World) : Calls Tryz.prog 6 #[] w fun e w' => e = .returned (.bool true) ∧ Below w.heap.size w w' := by
  have AL : Hd (∀ w, Calls Tryz.prog 21 #[.bool true] w fun e w' => e = .returned (.agg #[.bool true, .int .u16 65535, .int .u16 65535, .int .u8 255, .int .u8 255]) ∧ Below w.heap.size w w') := ⟨fun w => all_anyR true w⟩
  have CH : Hd (∀ w : World, Calls Tryz.prog 20 #[.agg #[.string ⟨#[]⟩, .int .i64 3, .int .i64 0, .int .u8 0, .slice none 0 0, .slice (some ⟨w.heap.size, 0, none⟩) 1 1, .slice none 0 0]] (w.alloc (.cells ruleC 71)) fun e w' => ∃ b b', e = .returned (.agg #[.slice (some ⟨b, 0, none⟩) 3 3, .slice (some ⟨b', 0, none⟩) 2 2]) ∧ Hd (Devs w'.heap.size w' (.slice (some ⟨b, 0, none⟩) 3 3) dsC ∧ Links w'.heap.size w' (.slice (some ⟨b', 0, none⟩) 2 2) lsC) ∧ Below w.heap.size w w') := ⟨fun w => by
    refine (chain_anyR (fireR [allNR true]) _ _ _ _ (nil_sl _ 1 IsI) (rule_sl w) (nil_sl _ 3 IsRoute)).mono fun e w' ⟨b, b', h1, h2, h3, h4⟩ => ⟨b, b', h1, ⟨h2, h3⟩, chain h4 (Below.alloc' (Below.refl _ _) _)⟩⟩
  have NW : Hd (∀ (W : World) (b b' : Nat), Devs W.heap.size W (.slice (some ⟨b, 0, none⟩) 3 3) dsC ∧ Links W.heap.size W (.slice (some ⟨b', 0, none⟩) 2 2) lsC → Calls Tryz.prog 9 #[.agg #[.slice (some ⟨b, 0, none⟩) 3 3, .slice (some ⟨b', 0, none⟩) 2 2], .int .i64 40000] W fun e w' => ∃ (R : Nat) (I : World → Prop), e = .returned (.tuple #[.pointer (some ⟨R, 0, none⟩), .int .i64 0]) ∧ Below W.heap.size W w' ∧ I w' ∧ Hd ((∀ V V' : World, Below V.heap.size V V' → I V → I V') ∧ (∀ V, I V → Calls Tryz.prog 22 #[.pointer (some ⟨R, 0, none⟩)] V fun e w' => e = .returned (.int .i64 1) ∧ w' = V) ∧ (∀ V, I V → Calls Tryz.prog 19 #[.pointer (some ⟨R, 0, none⟩), .agg #[.int .i64 2, .int .i64 0]] V fun e w' => e = .returned (.int .i64 1024) ∧ Below V.heap.size V w') ∧ (∀ V, I V → Calls Tryz.prog 12 #[.pointer (some ⟨R, 0, none⟩), .agg #[.int .i64 0, .int .i64 0], .agg #[.int .i64 2, .int .i64 1, .int .i64 0, .int .i64 0]] V fun e w' => e = .returned (.int .i64 1) ∧ Below V.heap.size V w') ∧ (∀ V, I V → Calls Tryz.prog 12 #[.pointer (some ⟨R, 0, none⟩), .agg #[.int .i64 0, .int .i64 0], .agg #[.int .i64 2, .int .i64 3, .int .i64 0, .int .i64 0]] V fun e w' => e = .returned (.int .i64 (-1)) ∧ Below V.heap.size V w'))) := ⟨fun W b b' ⟨hD, hL⟩ => by
    refine (rnew_any (some ⟨b, 0, none⟩) (some ⟨b', 0, none⟩) 3 2 dsC lsC 40000 (by omega) (by omega) chain_net chain_devs hD hL 255 False (fun k _ i q a b d hd _ _ _ => chain_wid k i q a b d hd)).mono fun e w' h => ?_
    obtain ⟨hb, ⟨bR, R, MR, K, sl, xs, ns, s, h1, h2, hF⟩ | ⟨_, hE⟩⟩ := h.made
    · obtain rfl := chain_K hF.up hF.fix
      refine ⟨R, fun V => RcF dsC lsC bR R MR 40000 1 sl xs ns s V, h1, hb, hF, ⟨fun V V' k h => h.below k, fun V h => rounds_f h, fun V h => ?_, fun V h => ?_, fun V h => ?_⟩⟩
      · have hc := count_f h 2 0
        rw [show atF dsC lsC 1 2 0 = phi 2 65535 255 255 from (atF_in (a := 2) (b := 0) 1 (by omega) (by omega)).trans chain_20, cnt_20] at hc
        exact hc
      · refine (round_f h 0 0 2 1 0 0 (by decide)).mono fun e w' ⟨v, v1, v2, v3⟩ => ⟨?_, v3⟩
        have a0 : atF dsC lsC 0 0 0 = fun _ => false := (atF_in (a := 0) (b := 0) 0 (by omega) (by omega)).trans chain_000
        have a1 : atF dsC lsC 1 0 0 = fun x => phi 4 65535 255 255 x && flF (phi 2 65535 255 255) x := (atF_in (a := 0) (b := 0) 1 (by omega) (by omega)).trans chain_00
        rw [v1, rnd_one v2.out (by show atF dsC lsC 0 0 0 _ = false; rw [a0]) (by show atF dsC lsC 1 0 0 _ = true; rw [a1]; exact rnd_yes)]
      · refine (round_f h 0 0 2 3 0 0 (by decide)).mono fun e w' ⟨v, v1, v2, v3⟩ => ⟨?_, v3⟩
        have a0 : atF dsC lsC 0 0 0 = fun _ => false := (atF_in (a := 0) (b := 0) 0 (by omega) (by omega)).trans chain_000
        have a1 : atF dsC lsC 1 0 0 = fun x => phi 4 65535 255 255 x && flF (phi 2 65535 255 255) x := (atF_in (a := 0) (b := 0) 1 (by omega) (by omega)).trans chain_00
        rw [v1, rnd_none v2.out (by show atF dsC lsC 0 0 0 _ = false; rw [a0]) (by show atF dsC lsC 1 0 0 _ = false; rw [a1]; exact rnd_no)]
    · exact absurd hE chain_room⟩
  have PL : Hd (∀ (x y : Int) w, Calls Tryz.prog 18 #[.int .i64 x, .int .i64 y] w fun e w' => e = .returned (.agg #[.int .i64 x, .int .i64 y]) ∧ Below w.heap.size w w') := ⟨fun x y w => place_anyR x y w⟩
  go_enter Tryz.func6, Tryz.ntmps6
  go_wp2_with fail
  refine (AL.out _).mono ?_
  rintro e w1 ⟨rfl, hb1⟩
  go_wp2_with fail
  refine (CH.out w1).mono ?_
  rintro e w2 ⟨b, b', rfl, HN, hb2⟩
  have D2 := chain hb2 hb1
  clear hb1 hb2 AL CH
  go_wp2_with fail
  refine (NW.out w2 b b' HN.out).mono ?_
  rintro e w3 ⟨R, I, rfl, hb3, I3, H3⟩
  have D3 := chain hb3 D2
  have KI := Hd.mk H3.out.1
  have RO := Hd.mk H3.out.2.1
  have CO := Hd.mk H3.out.2.2.1
  have R1 := Hd.mk H3.out.2.2.2.1
  have R2 := Hd.mk H3.out.2.2.2.2
  clear NW hb3 D2 HN H3
  go_wp2_with fail
  refine (RO.out _ I3).mono ?_
  rintro e w4 ⟨rfl, rfl⟩
  go_wp2_with fail
  refine (PL.out 2 0 _).mono ?_
  rintro e w5 ⟨rfl, hb5⟩
  have D5 := chain hb5 D3
  have I5 := KI.out _ _ hb5 I3
  clear hb5 D3 I3 RO
  go_wp2_with fail
  refine (CO.out _ I5).mono ?_
  rintro e w6 ⟨rfl, hb6⟩
  have D6 := chain hb6 D5
  have I6 := KI.out _ _ hb6 I5
  clear hb6 D5 I5 CO
  go_wp2_with fail
  refine (PL.out 0 0 _).mono ?_
  rintro e w7 ⟨rfl, hb7⟩
  have D7 := chain hb7 D6
  have I7 := KI.out _ _ hb7 I6
  clear hb7 D6 I6
  go_wp2_with fail
  refine (R1.out _ I7).mono ?_
  rintro e w8 ⟨rfl, hb8⟩
  have D8 := chain hb8 D7
  have I8 := KI.out _ _ hb8 I7
  clear hb8 D7 I7 R1
  go_wp2_with fail
  refine (PL.out 0 0 _).mono ?_
  rintro e w9 ⟨rfl, hb9⟩
  have D9 := chain hb9 D8
  have I9 := KI.out _ _ hb9 I8
  clear hb9 D8 I8
  go_wp2_with fail
  refine (R2.out _ I9).mono ?_
  rintro e wa ⟨rfl, hba⟩
  have Da := chain hba D9
  clear hba D9 I9 R2 KI PL
  go_wp2_with fail
  go_ret
  exact ⟨rfl, Da⟩
end Go.Proofs.YtlmmeppifkigeaaGreat



namespace Go.Proofs.YtlmmeppifkigeaaGreat
open Go.RowKit Go.Maps

set_option maxHeartbeats 1000000 in
theorem rest_anyR (w : World) (n : Int) (m : Nat) (hm : 0 < m) (hm2 : m < 4611686018427387904) :
    Calls Tryz.prog 16 #[.int .i64 n, .int .i64 (m : Int)] w fun e w' => e = .returned (.int .i64 (n % (m : Int))) ∧ w' = w := by
  have hm0 : ((m : Int) == 0) = false := by simp; omega
  have hmne : (m : Int) ≠ 0 := by omega
  have b1 := Int.emod_nonneg n hmne
  have b2 := Int.emod_lt_of_pos n (b := (m : Int)) (by omega)
  have key : n.tmod (m : Int) = n % (m : Int) ∨ n.tmod (m : Int) = n % (m : Int) - (m : Int) := by
    rw [Int.tmod_eq_emod]
    split
    · exact Or.inl (by omega)
    · exact Or.inr (by simp)
  have hw : IntKind.i64.wrap (n.tmod (m : Int)) = n.tmod (m : Int) := IntWalk.i64_in _ (by omega)
  have key' : Hid (n.tmod (m : Int) = n % (m : Int) ∨ n.tmod (m : Int) = n % (m : Int) - (m : Int)) := key
  clear key
  go_enter Tryz.func16, Tryz.ntmps16
  go_wp2_with fail
  · have hlt : n.tmod (m : Int) < 0 := by assumption
    have e : n.tmod (m : Int) + (m : Int) = n % (m : Int) := by rcases key'.out with k | k <;> omega
    have e2 : wrap64 (n.tmod (m : Int) + (m : Int)) = n % (m : Int) := by rw [e, ← IntWalk.i64_left]; exact IntWalk.i64_in _ (by omega)
    go_ret
    refine ⟨?_, rfl⟩
    show Ending.returned (Value.int .i64 (wrap64 (n.tmod (m : Int) + (m : Int)))) = _
    rw [e2]
  · have hge : 0 ≤ n.tmod (m : Int) := by assumption
    have e : n.tmod (m : Int) = n % (m : Int) := by rcases key'.out with k | k <;> omega
    go_ret
    refine ⟨?_, rfl⟩
    show Ending.returned (Value.int .i64 (n.tmod (m : Int))) = _
    rw [e]


/-! ### what Check asks of devices -/
theorem devsFrom_allR {ds : List Dv} : ∀ (m k : Nat), ds.length - k ≤ m → devsFrom ds k = 0 → ∀ j d, k ≤ j → ds[j]? = some d → devWrong ds j d = 0
  | 0, k, h, _, j, d, hj, hd => by
    have := (List.getElem?_eq_some_iff.1 hd).1
    omega
  | m + 1, k, h, h0, j, d, hj, hd => by
    have hjl := (List.getElem?_eq_some_iff.1 hd).1
    have hk : k < ds.length := by omega
    rw [devsFrom_at (List.getElem?_eq_getElem hk)] at h0
    split at h0
    · rename_i hw
      by_cases e : j = k
      · subst e
        rw [List.getElem?_eq_getElem hk, Option.some.injEq] at hd
        rw [← hd]
        exact hw
      · exact devsFrom_allR m (k + 1) (by omega) h0 j d (by omega) hd
    · rename_i hw
      exact absurd h0 hw
theorem netV_devsR {ds : List Dv} {ls : List Lk} (h : netV ds ls = 0) : ∀ d ∈ ds, devC d = 0 := by
  intro d hd
  obtain ⟨k, hk, e⟩ := List.mem_iff_getElem.1 hd
  unfold netV at h
  split at h
  · simp at h
  · split at h
    · rename_i hz
      have := devsFrom_allR ds.length 0 (by omega) hz k d (Nat.zero_le _) (by rw [List.getElem?_eq_getElem hk, e])
      unfold devWrong at this
      split at this
      · split at this
        · simp at this
        · exact this
      · simp at this
    · rename_i hz
      exact absurd h hz
theorem flat_atR {α : Type} (f : α → List Value) (size : Nat) : ∀ (xs : List α), (∀ x ∈ xs, (f x).length = size) → ∀ (k : Nat) (x : α), xs[k]? = some x → ∀ (j : Nat) (u : Value), (f x)[j]? = some u → (xs.flatMap f)[k * size + j]? = some u
  | [], _, k, x, h, j, u, _ => by simp at h
  | y :: xs, hl, k, x, h, j, u, hu => by
    have hy := hl y (by simp)
    rw [List.flatMap_cons]
    match k, h with
    | 0, h =>
      obtain rfl : y = x := by simpa using h
      have := (List.getElem?_eq_some_iff.1 hu).1
      rw [Nat.zero_mul, Nat.zero_add, List.getElem?_append_left this]
      exact hu
    | k + 1, h =>
      have h' : xs[k]? = some x := by simpa using h
      have e : (k + 1) * size + j = (f y).length + (k * size + j) := by rw [hy, Nat.add_mul]; omega
      rw [e, List.getElem?_append_right (by omega), Nat.add_sub_cancel_left]
      exact flat_atR f size xs (fun z hz => hl z (by simp [hz])) k x h' j u hu
/-- A row of the call's own is a slice of what its cells say. -/
theorem own_slAtR {α β : Type} {w : World} {B e size : Nat} {v : Value} (f : β → List Value) (q : β → α) (xs : List β) (R : List Value → α → Prop) (h : w.ownsRow B e size v xs.length (xs.flatMap f)) (hl : ∀ x ∈ xs, (f x).length = size) (hR : ∀ x ∈ xs, R (f x) (q x)) : SlAt w.heap.size w size R v (xs.map q) := by
  have hh := h
  obtain ⟨_, hc⟩ := h
  rcases hc with ⟨rfl, h0⟩ | ⟨g, cap, cur, rfl, hb, hg, hn, hcap, hs, ht⟩
  · exact ⟨none, 0, by simp [h0], fun _ => rfl, by simp [h0], by unfold maxLen; omega, fun hn => absurd (by simpa using List.length_eq_zero_iff.1 h0) hn⟩
  · refine ⟨_, cap, by rw [List.length_map], (fun e => by cases e), by rw [List.length_map]; exact hn, hcap, fun _ => ⟨g, 0, rfl, (Array.getElem?_eq_some_iff.1 hg).1, fun k x hk => ?_⟩⟩
    rw [List.getElem?_map] at hk
    obtain ⟨y, hy, rfl⟩ := Option.map_eq_some_iff.1 hk
    have hm := List.mem_of_getElem? hy
    refine ⟨f y, hl y hm, hR y hm, fun j u hj => ?_⟩
    have := hh.cells (g := g) rfl (k * size + j) u (flat_atR f size xs hl k y hy j u hj)
    rw [Addr.add_lit] at this
    rw [Nat.zero_add] at this ⊢
    exact this

def linkCR (l : Lk) : List Value := [.int .i64 l.a, .int .i64 l.p, .int .i64 l.b, .int .i64 l.q]
def linksCR (ls : List Lk) : List Value := ls.flatMap linkCR
theorem infoLinkR : (Tryz.prog.info? 64).map (fun i => (i.zero, i.size, i.bytes)) = some (some (.agg #[.int .i64 0, .int .i64 0, .int .i64 0, .int .i64 0]), 4, 32) := by kernel_rfl
theorem app_link {base : Nat} {w : World} {v : Value} {ms : List Lk} (l : Lk) (ty : TypeId) (h : w.ownsRow base 64 4 v ms.length (linksCR ms)) (hn : (ms.length + 1) * 32 ≤ 140737488355328) (hb : base ≤ w.heap.size) :
    ∃ v' w', (Builtin.append_ #[23, 23] ty #[v, .slice (some ⟨w.heap.size, 0, none⟩) 1 1]).run Tryz.prog (w.alloc (.cells #[.int .i64 l.a, .int .i64 l.p, .int .i64 l.b, .int .i64 l.q] 64)) = .ok v' w' ∧ w'.ownsRow base 64 4 v' (ms ++ [l]).length (linksCR (ms ++ [l])) ∧ Below base w w' ∧ KeptB w w' v.ownBlock := by
  obtain ⟨i0, hi, hz0, hz1', hz2⟩ := info_parts infoLinkR
  have hA : Below w.heap.size w (w.alloc (.cells (linkCR l).toArray 64)) := (Below.refl _ _).alloc (Nat.le_refl _) _
  have ho : (w.alloc (.cells (linkCR l).toArray 64)).ownsRow base 64 4 v ms.length (linksCR ms) := own_kept h (KeptB.of_below hA) (fun g _ => by simp)
  obtain ⟨v', w', hr, h4, h5, _, h7⟩ := run_append_own_at (P := Tryz.prog) (w.alloc (.cells (linkCR l).toArray 64)) base 23 ty 64 i0 _ 4 32 Tryz.underlying23 hi hz0 hz1' hz2 rfl (by omega) v ms.length (linksCR ms) ho ⟨w.heap.size, 0, none⟩ 1 1 (linkCR l) rfl (fun j x hj => by
    have hg : (w.alloc (.cells (linkCR l).toArray 64)).heap[w.heap.size]? = some (.cells (linkCR l).toArray 64) := Go.Deep.blk_alloc_new w _
    rw [Addr.add_lit, Nat.zero_add]
    simp only [World.cell?, hg]
    simp [hj]) (by simp [linkCR, Value.oneCell']) (by unfold maxLen; omega) hn (by simp; omega)
  have hsz : (w.alloc (.cells (linkCR l).toArray 64)).heap.size = w.heap.size + 1 := Go.Deep.nblk_alloc w _
  refine ⟨v', w', hr, ?_, ?_, ⟨by have := h5.size; omega, fun k hk hne => ?_⟩⟩
  · rw [List.length_append, show linksCR (ms ++ [l]) = linksCR ms ++ linkCR l by simp [linksCR]]
    exact h4
  · exact ((Below.refl base w).alloc hb (.cells (linkCR l).toArray 64)).grown h5 (by simp; omega) (fun k e => (ho.lt k e).1)
  · rw [h5.block k (by omega) hne, Go.Deep.blk_alloc_lt w _ k hk]
/-- The law at work: its net, its packet, the net with fewer links. -/
structure FL (w : World) (vd vl : Value) (pc : Array Value) (MB : Nat) (vm : Value) (ms : List Lk) (W : World) : Prop where
  be : Below w.heap.size w W
  bN : Bz W w.heap.size #[vd, vl] 25
  bP : Bz W (w.heap.size + 1) pc 36
  bM : Bz W MB #[vd, vm] 25
  row : W.ownsRow w.heap.size 64 4 vm ms.length (linksCR ms)
  lM : w.heap.size + 1 < MB
section
variable {w W W' : World} {vd vl vm : Value} {pc : Array Value} {MB : Nat} {ms : List Lk}
theorem FL.below (h : FL w vd vl pc MB vm ms W) (hb : Below W.heap.size W W') : FL w vd vl pc MB vm ms W' :=
  ⟨chain hb h.be, h.bN.keepR hb, h.bP.keepR hb, h.bM.keepR hb, own_kept h.row (KeptB.of_below hb) (fun g _ => by simp), h.lM⟩
theorem FL.size (h : FL w vd vl pc MB vm ms W) : w.heap.size ≤ W.heap.size := h.be.size
theorem FL.links (h : FL w vd vl pc MB vm ms W) : Links W.heap.size W vm ms := by
  have := own_slAtR linkCR id ms IsLk h.row (fun _ _ => rfl) (fun _ _ => rfl)
  rw [List.map_id] at this
  exact this
/-- One link more. -/
theorem FL.app (h : FL w vd vl pc MB vm ms W) {l : Lk} {v' : Value} {W1 : World} (hr : W1.ownsRow w.heap.size 64 4 v' (ms ++ [l]).length (linksCR (ms ++ [l]))) (hb : Below w.heap.size W W1) (hk : KeptB W W1 vm.ownBlock) : FL w vd vl pc MB v' (ms ++ [l]) (W1.setCell ⟨MB, 1, none⟩ v') ∧ W1.cell? ⟨MB, 1, none⟩ = some vm ∧ W1.frozen? ⟨MB, 1, none⟩ = false := by
  have nt : ∀ {i : Nat} {c : Array Value} {t : TypeId}, Bz W i c t → t ≠ 64 → some i ≠ vm.ownBlock := fun {i c t} hi ht e => by
    obtain ⟨_, _, cur, hc⟩ := own_block h.row e.symm
    unfold Bz at hi
    rw [hi] at hc
    simp only [Option.some.injEq, Obj.cells.injEq] at hc
    exact ht hc.2.1
  have kb : ∀ {i : Nat} {c : Array Value} {t : TypeId}, Bz W i c t → t ≠ 64 → Bz W1 i c t := fun {i c t} hi ht => (hk.block i hi.lt (nt hi ht)).trans hi
  have m1 : Bz W1 MB #[vd, vm] 25 := kb h.bM (by decide)
  have lm := h.lM
  have hF : ∀ i, i ≠ MB → (W1.setCell ⟨MB, 1, none⟩ v').heap[i]? = W1.heap[i]? := fun i hi => Below.heap_setCell W1 ⟨MB, 1, none⟩ v' i hi
  refine ⟨⟨?_, (hF _ (by omega)).trans (kb h.bN (by decide)), (hF _ (by omega)).trans (kb h.bP (by decide)), ?_, ?_, h.lM⟩, m1.cell 1 _ rfl, m1.free 1⟩
  · have b1 := h.be.trans hb
    exact ⟨b1.os, b1.tape, b1.output, by simp [World.setCell]; exact b1.size, fun i hi => (hF i (by omega)).trans (b1.block i hi)⟩
  · have := m1.set (j := 1) v'
    exact this
  · exact own_kept hr (kept_set W1 MB 1 v') (fun g hg e => by
      obtain ⟨_, _, cur, hc⟩ := own_block hr hg
      obtain rfl := Option.some.inj e
      unfold Bz at m1
      rw [m1] at hc
      simp only [Option.some.injEq, Obj.cells.injEq] at hc
      exact absurd hc.2.1 (by decide))
end
/-- New, of any net, with all the room there may be. -/
theorem rnew_all (A B : Option Addr) (cap cap' : Nat) (ds : List Dv) (ls : List Lk) (w : World) (hD : Devs w.heap.size w (.slice A ds.length cap) ds) (hL : Links w.heap.size w (.slice B ls.length cap') ls) :
    Calls Tryz.prog 9 #[.agg #[.slice A ds.length cap, .slice B ls.length cap'], .int .i64 40000] w fun e w' => Below w.heap.size w w' ∧ ((∃ (bR R MR K : Nat) (sl : Value) (xs : List Value) (ns : List Nd) (s : Nat → Nat → Nat → Nat), e = .returned (.tuple #[.pointer (some ⟨R, 0, none⟩), .int .i64 0]) ∧ Hd (netV ds ls = 0 ∧ RcF ds ls bR R MR 40000 K sl xs ns s w')) ∨ ∃ er : Int, e = .returned (.tuple #[.pointer none, .int .i64 er]) ∧ er ≠ 0 ∧ (er = 6 ∨ er = netV ds ls)) := by
  by_cases hz : netV ds ls = 0
  · refine (rnew_any A B cap cap' ds ls 40000 (by omega) (by omega) hz (netV_devsR hz) hD hL 40000 True (fun k _ i q a b d hd _ _ _ => widB_any (netV_devsR hz d (List.mem_of_getElem? hd)) _ _ _ _ _ _)).mono fun e w' h => ?_
    obtain ⟨hb, ⟨bR, R, MR, K, sl, xs, ns, s, h1, h2, hF⟩ | ⟨h1, _⟩⟩ := h.made
    · exact ⟨hb, Or.inl ⟨bR, R, MR, K, sl, xs, ns, s, h1, ⟨hz, hF⟩⟩⟩
    · exact ⟨hb, Or.inr ⟨6, h1, by omega, Or.inl rfl⟩⟩
  · exact (rnew_net _ _ ds ls 40000 w hD hL hz).mono fun e w' ⟨h1, h2⟩ => ⟨h2, Or.inr ⟨_, h1, hz, Or.inr rfl⟩⟩
end Go.Proofs.YtlmmeppifkigeaaGreat



namespace Go.Proofs.YtlmmeppifkigeaaGreat
open Go.RowKit Go.Maps

theorem round_b {ds : List Dv} {ls : List Lk} {bR R MR most K : Nat} {sl : Value} {xs : List Value} {ns : List Nd} {s : Nat → Nat → Nat → Nat} {W : World} (h : RcF ds ls bR R MR most K sl xs ns s W) (p q a b c d : Int) : Calls Tryz.prog 12 #[.pointer (some ⟨R, 0, none⟩), .agg #[.int .i64 p, .int .i64 q], .agg #[.int .i64 a, .int .i64 b, .int .i64 c, .int .i64 d]] W fun e w' => ∃ v : Int, e = .returned (.int .i64 v) ∧ decide (v < 0) = (!(pkR a b c d && atF ds ls K p q (envOf 14 (codeR a b c d)))) ∧ decide (0 ≤ v) = (pkR a b c d && atF ds ls K p q (envOf 14 (codeR a b c d))) ∧ Below W.heap.size W w' := by
  cases hp : pkR a b c d
  · exact (round_bad R p q a b c d W hp).mono fun e w' ⟨h1, h2⟩ => ⟨-1, h1, by simp, by simp, h2⟩
  · refine (round_f h p q a b c d hp).mono fun e w' ⟨v, h1, h2, h3⟩ => ⟨v, h1, ?_, ?_, h3⟩
    · have hn := h2.out.neg
      cases hx : atF ds ls K p q (envOf 14 (codeR a b c d))
      · rw [hx] at hn
        simp
        exact hn.2 rfl
      · rw [hx] at hn
        simp
        have : ¬ v < 0 := fun hv => by cases hn.1 hv
        omega
    · have hn := h2.out.neg
      cases hx : atF ds ls K p q (envOf 14 (codeR a b c d))
      · rw [hx] at hn
        simp
        exact hn.2 rfl
      · rw [hx] at hn
        simp
        have : ¬ v < 0 := fun hv => by cases hn.1 hv
        omega
theorem wpList_append_run {P : Program} {w : World} {ops : Array Oper} {rest : List Oper} {o : Oper} {a : Act} {Q : Exit → Act → World → Prop} (hgd : o.guard = none) (s x : Operand) (t : TypeId)
    (ho : o.op = .call { callee := .builtin .append, args := #[s, x], argTypes := #[t, t] }) (v u v' : Value) (w' : World) (hs : a.eval s = v) (hx : a.eval x = u)
    (hr : (Builtin.append_ #[t, t] o.type #[v, u]).run P w = .ok v' w') (h : wpList P ops Q rest (a.put o.dst v') w') : wpList P ops Q (o :: rest) a w :=
  wpList_plain hgd fun K hK => by
    unfold Oper.wp execOp
    simp only [ho, resolve, invoke, builtin, Sem.run_bind, Sem.run_pure, Result.andThen_ok, List.map_toArray, List.map_cons, List.map_nil, hs, hx, hr]
    exact hK _ _ h
set_option maxHeartbeats 8000000 in
set_option maxRecDepth 100000 in
theorem fewer_any (A B : Option Addr) (cap cap' : Nat) (ds : List Dv) (ls : List Lk) (k a b c d : Int) (w : World) (hD : Hd (Devs w.heap.size w (.slice A ds.length cap) ds)) (hL : Hd (Links w.heap.size w (.slice B ls.length cap') ls)) (hdl : ds.length ≤ 140737488355328) (hll : ls.length * 32 ≤ 140737488351232) :
    Calls Tryz.prog 5 #[.agg #[.slice A ds.length cap, .slice B ls.length cap'], .int .i64 k, pk a b c d] w fun e w' => e = .returned (.bool true) ∧ Below w.heap.size w w' := by
  have D2 : Below w.heap.size w ((w.alloc (.cells #[.slice A ds.length cap, .slice B ls.length cap'] 25)).alloc (.cells #[.int .i64 a, .int .i64 b, .int .i64 c, .int .i64 d] 36)) := Below.alloc' (Below.alloc' (Below.refl _ w) _) _
  have RE : Hd (∀ W, Calls Tryz.prog 6 #[] W fun e w' => e = .returned (.bool true) ∧ Below W.heap.size W w') := ⟨fun W => ready_any W⟩
  have bN2 : Bz ((w.alloc (.cells #[.slice A ds.length cap, .slice B ls.length cap'] 25)).alloc (.cells #[.int .i64 a, .int .i64 b, .int .i64 c, .int .i64 d] 36)) w.heap.size #[.slice A ds.length cap, .slice B ls.length cap'] 25 := (Bz.new w _ _ _ rfl).al _
  have bP2 : Bz ((w.alloc (.cells #[.slice A ds.length cap, .slice B ls.length cap'] 25)).alloc (.cells #[.int .i64 a, .int .i64 b, .int .i64 c, .int .i64 d] 36)) (w.heap.size + 1) #[.int .i64 a, .int .i64 b, .int .i64 c, .int .i64 d] 36 := Bz.new _ _ _ _ (by simp)
  obtain ⟨i, hi⟩ : ∃ i : Nat, (i : Int) = k % ((ds.length + 1 : Nat) : Int) := ⟨(k % ((ds.length + 1 : Nat) : Int)).toNat, by have := Int.emod_nonneg k (b := ((ds.length + 1 : Nat) : Int)) (by omega); omega⟩
  have hin : i ≤ ds.length := by
    have := Int.emod_lt_of_pos k (b := ((ds.length + 1 : Nat) : Int)) (by omega)
    omega
  have RS : Hd (∀ W, Calls Tryz.prog 16 #[.int .i64 k, .int .i64 ((ds.length : Int) + 1)] W fun e w' => e = .returned (.int .i64 (i : Int)) ∧ w' = W) := ⟨fun W => by
    have := rest_anyR W k (ds.length + 1) (by omega) (by omega)
    rw [← hi] at this
    exact this⟩
  have wr1 : IntKind.i64.wrap ((ds.length : Int) + 1) = (ds.length : Int) + 1 := IntWalk.i64_in _ (by omega)
  clear hi
  go_enter Tryz.func5, Tryz.ntmps5
  go_wp2_with fail
  refine (RE.out _).mono ?_
  rintro e w3 ⟨rfl, hb3⟩
  have D3 := chain hb3 D2
  have bN3 := bN2.keepR hb3
  have bP3 := bP2.keepR hb3
  have n0 := bN3.cell 0 _ rfl
  have n1 := bN3.cell 1 _ rfl
  have l3 : w.heap.size + 1 < w3.heap.size := bP3.lt
  clear bN2 bP2 hb3 D2 RE
  go_wp2_with fail
  refine (RS.out _).mono ?_
  rintro e w4 ⟨rfl, rfl⟩
  clear RS
  by_cases hin2 : i = ds.length
  · have t1 : ((i : Int) == (ds.length : Int)) = true := by simp; omega
    clear bN3 bP3
    go_wp2_with fail
    go_ret
    exact ⟨rfl, D3⟩
  have t1 : ((i : Int) == (ds.length : Int)) = false := by simp; omega
  obtain ⟨x, hx⟩ : ∃ x, ds[i]? = some x := ⟨_, List.getElem?_eq_getElem (by omega)⟩
  obtain ⟨b0, o0, vb, vr, vt, rfl, hbb, s1, s2, s3, c0, c1, c2, c3, c4, c5, c6⟩ := hD.out.at hx
  have c1' : w4.cell? ⟨b0, o0 + i * 7 + 1, none⟩ = some (.int .i64 x.kind) := (D3.cell (p := ⟨b0, o0 + i * 7 + 1, none⟩) hbb).trans c1
  have i1 : (i : Int) < (ds.length : Int) := by omega
  have i2 : (0 : Int) ≤ (i : Int) := by omega
  have i3 : i < ds.length := by omega
  obtain ⟨_, hcap, hcm⟩ := hD.out.len
  unfold maxLen at hcm
  clear s1 s2 s3 c0 c1 c2 c3 c4 c5 c6
  by_cases hkd : x.kind = 1
  rotate_left
  · have t2 : (x.kind != 1) = true := by simp; omega
    clear bN3 bP3
    go_wp2_with fail
    go_ret
    exact ⟨rfl, D3⟩
  have t2 : (x.kind != 1) = false := by simp; omega
  have F0 : FL w (.slice (some ⟨b0, o0, none⟩) ds.length cap) (.slice B ls.length cap') #[.int .i64 a, .int .i64 b, .int .i64 c, .int .i64 d] w4.heap.size (.slice none 0 0) [] (w4.alloc (.cells #[.slice (some ⟨b0, o0, none⟩) ds.length cap, .slice none 0 0] 25)) :=
    ⟨Below.alloc' D3 _, bN3.al _, bP3.al _, Bz.new _ _ _ _ rfl, ⟨rfl, Or.inl ⟨rfl, rfl⟩⟩, l3⟩
  obtain ⟨V, hV⟩ : ∃ V : Value → List Lk → World → Prop, V = fun vm ms W => FL w (.slice (some ⟨b0, o0, none⟩) ds.length cap) (.slice B ls.length cap') #[.int .i64 a, .int .i64 b, .int .i64 c, .int .i64 d] w4.heap.size vm ms W := ⟨_, rfl⟩
  have V0 : V (.slice none 0 0) [] (w4.alloc (.cells #[.slice (some ⟨b0, o0, none⟩) ds.length cap, .slice none 0 0] 25)) := by rw [hV]; exact F0
  have n1' : (w4.alloc (.cells #[.slice (some ⟨b0, o0, none⟩) ds.length cap, .slice none 0 0] 25)).cell? ⟨w.heap.size, 1, none⟩ = some (.slice B ls.length cap') := F0.bN.cell 1 _ rfl
  have VB : Hd (∀ vm ms W W', V vm ms W → Below W.heap.size W W' → V vm ms W') := ⟨fun vm ms W W' h k => by rw [hV] at h ⊢; exact h.below k⟩
  have VR : Hd (∀ vm ms W, V vm ms W → W.cell? ⟨w.heap.size, 0, none⟩ = some (.slice (some ⟨b0, o0, none⟩) ds.length cap) ∧ W.cell? ⟨w.heap.size, 1, none⟩ = some (.slice B ls.length cap') ∧ W.cell? ⟨w4.heap.size, 0, none⟩ = some (.slice (some ⟨b0, o0, none⟩) ds.length cap) ∧ W.cell? ⟨w4.heap.size, 1, none⟩ = some vm ∧ w4.heap.size < W.heap.size) := ⟨fun vm ms W h => by rw [hV] at h; exact ⟨h.bN.cell 0 _ rfl, h.bN.cell 1 _ rfl, h.bM.cell 0 _ rfl, h.bM.cell 1 _ rfl, h.bM.lt⟩⟩
  have VA : Hd (∀ vm ms W (l : Lk), V vm ms W → (ms.length + 1) * 32 ≤ 140737488355328 → ∃ A' n' c' W1, (Builtin.append_ #[23, 23] 23 #[vm, .slice (some ⟨W.heap.size, 0, none⟩) 1 1]).run Tryz.prog (W.alloc (.cells #[.int .i64 l.a, .int .i64 l.p, .int .i64 l.b, .int .i64 l.q] 64)) = .ok (.slice A' n' c') W1 ∧ V (.slice A' n' c') (ms ++ [l]) (W1.setCell ⟨w4.heap.size, 1, none⟩ (.slice A' n' c')) ∧ W1.cell? ⟨w4.heap.size, 1, none⟩ = some vm ∧ W1.frozen? ⟨w4.heap.size, 1, none⟩ = false) := ⟨fun vm ms W l h hn => by
    rw [hV] at h ⊢
    obtain ⟨v', W1, r, o, hb, hk⟩ := app_link l 23 h.row hn h.size
    obtain ⟨A', n', c', rfl⟩ : ∃ A' n' c', v' = .slice A' n' c' := by
      rcases o.2 with ⟨e, _⟩ | ⟨g, cap, cur, e, _⟩
      · exact ⟨_, _, _, e⟩
      · exact ⟨_, _, _, e⟩
    obtain ⟨q1, q2, q3⟩ := h.app o hb hk
    exact ⟨A', n', c', W1, r, q1, q2, q3⟩⟩
  have VL : Hd (∀ vm ms W (j : Nat) (l : Lk), V vm ms W → ls[j]? = some l → ∃ b1 o1, B = some ⟨b1, o1, none⟩ ∧ W.cell? ⟨b1, o1 + j * 4, none⟩ = some (.int .i64 l.a) ∧ W.cell? ⟨b1, o1 + j * 4 + 1, none⟩ = some (.int .i64 l.p) ∧ W.cell? ⟨b1, o1 + j * 4 + 2, none⟩ = some (.int .i64 l.b) ∧ W.cell? ⟨b1, o1 + j * 4 + 3, none⟩ = some (.int .i64 l.q)) := ⟨fun vm ms W j l h hj => by
    rw [hV] at h
    obtain ⟨A', cap'', e, _, _, _, hh⟩ := hL.out
    cases e
    obtain ⟨b1, o1, e1, hb1, hc⟩ := hh (fun e => by rw [e] at hj; cases hj)
    obtain ⟨cs, _, hcs, hcc⟩ := hc j l hj
    unfold IsLk at hcs
    subst hcs
    have up : ∀ {q : Nat} {v : Value}, w.cell? ⟨b1, q, none⟩ = some v → W.cell? ⟨b1, q, none⟩ = some v := fun {q v} hq => (h.be.cell (p := ⟨b1, q, none⟩) hb1).trans hq
    exact ⟨b1, o1, e1, up (hcc 0 _ rfl), up (hcc 1 _ rfl), up (hcc 2 _ rfl), up (hcc 3 _ rfl)⟩⟩
  obtain ⟨_, hcap', hcm'⟩ : True ∧ ls.length ≤ cap' ∧ cap' ≤ maxLen := by
    obtain ⟨A', cap'', e, _, h1, h2, _⟩ := hL.out
    cases e
    exact ⟨trivial, h1, h2⟩
  unfold maxLen at hcm'
  clear F0 bN3 bP3 n1 hbb
  go_wp2_with fail
  go_loopw [47] (fun v47 wr => ∃ (j : Nat) (vm : Value) (ms : List Lk), v47 = .int .i64 (j : Int) ∧ j ≤ ls.length ∧ V vm ms wr ∧ Hd (ms.length ≤ j ∧ ∀ l ∈ ms, l ∈ ls)) (fun v47 _ => ls.length - (intOf v47).toNat)
  case atStart => exact ⟨0, _, [], rfl, by omega, V0, ⟨Nat.zero_le _, fun l hl => by cases hl⟩⟩
  case round =>
    clear V0 n1'
    obtain ⟨j, vm, ms, rfl, hj, V1, HM⟩ := hrel
    by_cases hlt : j < ls.length
    · obtain ⟨l, hlj⟩ : ∃ l, ls[j]? = some l := ⟨_, List.getElem?_eq_getElem hlt⟩
      obtain ⟨b1, o1, rfl, e0, e1, e2, e3⟩ := VL.out vm ms wr j l V1 hlj
      have V2 := VB.out _ _ _ _ V1 (Below.alloc' (Below.refl _ _) (.cells #[.int .i64 l.a, .int .i64 l.p, .int .i64 l.b, .int .i64 l.q] 64))
      obtain ⟨r0, r1, r2, r3, r4⟩ := VR.out _ _ _ V2
      obtain ⟨A', n', c', W1, hrun, V9, q1, q2⟩ := VA.out vm ms (wr.alloc (.cells #[.int .i64 l.a, .int .i64 l.p, .int .i64 l.b, .int .i64 l.q] 64)) l V2 (by have := HM.out.1; omega)
      have HM1 : Hd (ms.length ≤ j + 1 ∧ ∀ l ∈ ms, l ∈ ls) := ⟨by have := HM.out.1; omega, HM.out.2⟩
      have HM2 : Hd ((ms ++ [l]).length ≤ j + 1 ∧ ∀ l' ∈ ms ++ [l], l' ∈ ls) := ⟨by have := HM.out.1; simp; omega, fun l' hl' => by
        rcases List.mem_append.1 hl' with h | h
        · exact HM.out.2 l' h
        · obtain rfl := List.mem_singleton.1 h
          exact List.mem_of_getElem? hlj⟩
      have j1 : (j : Int) < (ls.length : Int) := by omega
      have j2 : (0 : Int) ≤ (j : Int) := by omega
      clear VL VA VB VR HM hV hlj V1
      by_cases ha : l.a = (i : Int)
      · have s1 : (l.a != (i : Int)) = false := by simp; omega
        clear hrun V9 q1 q2 ha
        go_wp2_with fail
        go_roundw
        case rel => exact ⟨j + 1, vm, ms, by go_num, by omega, V2, HM1⟩
        case measure => simp [intOf]; omega
      have s1 : (l.a != (i : Int)) = true := by simp; omega
      by_cases hb : l.b = (i : Int)
      · have s2 : (l.b != (i : Int)) = false := by simp; omega
        clear hrun V9 q1 q2 hb ha
        go_wp2_with fail
        go_roundw
        case rel => exact ⟨j + 1, vm, ms, by go_num, by omega, V2, HM1⟩
        case measure => simp [intOf]; omega
      have s2 : (l.b != (i : Int)) = true := by simp; omega
      simp only [World.size_alloc] at hrun
      clear ha hb
      go_upto_region 11 with fail
      iterate 13 go_step
      refine wpList_append_run rfl _ _ 23 rfl _ _ _ _ rfl rfl hrun ?_
      simp only [Act.put, List.setIfInBounds_toArray, List.set_cons_zero, List.set_cons_succ]
      go_wp2_with fail
      go_roundw
      case rel => exact ⟨j + 1, _, ms ++ [l], by go_num, by omega, V9, HM2⟩
      case measure => simp [intOf]; omega
    have hje : j = ls.length := by omega
    have F1 := V1
    rw [hV] at F1
    obtain ⟨A2, cap2, rfl, _⟩ := id F1.links
    have L2 : Hd (Links wr.heap.size wr (.slice A2 ms.length cap2) ms) := ⟨F1.links⟩
    have BE : Hd (Below w.heap.size w wr) := ⟨F1.be⟩
    have DE : Hd (Devs wr.heap.size wr (.slice (some ⟨b0, o0, none⟩) ds.length cap) ds) := ⟨(hD.out.below F1.be).mono F1.size⟩
    have LE : Hd (Links wr.heap.size wr (.slice B ls.length cap') ls) := ⟨(hL.out.below F1.be).mono F1.size⟩
    have NA : Hd (Calls Tryz.prog 9 #[.agg #[.slice (some ⟨b0, o0, none⟩) ds.length cap, .slice B ls.length cap'], .int .i64 40000] wr fun e w' => Below wr.heap.size wr w' ∧ ((∃ (bR R MR K : Nat) (sl : Value) (xs : List Value) (ns : List Nd) (s : Nat → Nat → Nat → Nat), e = .returned (.tuple #[.pointer (some ⟨R, 0, none⟩), .int .i64 0]) ∧ Hd (netV ds ls = 0 ∧ RcF ds ls bR R MR 40000 K sl xs ns s w')) ∨ ∃ er : Int, e = .returned (.tuple #[.pointer none, .int .i64 er]) ∧ er ≠ 0 ∧ (er = 6 ∨ er = netV ds ls))) := ⟨rnew_all _ _ _ _ ds ls wr DE.out LE.out⟩
    have NB : Hd (∀ W, Below wr.heap.size wr W → Calls Tryz.prog 9 #[.agg #[.slice (some ⟨b0, o0, none⟩) ds.length cap, .slice A2 ms.length cap2], .int .i64 40000] W fun e w' => Below W.heap.size W w' ∧ ((∃ (bR R MR K : Nat) (sl : Value) (xs : List Value) (ns : List Nd) (s : Nat → Nat → Nat → Nat), e = .returned (.tuple #[.pointer (some ⟨R, 0, none⟩), .int .i64 0]) ∧ Hd (netV ds ms = 0 ∧ RcF ds ms bR R MR 40000 K sl xs ns s w')) ∨ ∃ er : Int, e = .returned (.tuple #[.pointer none, .int .i64 er]) ∧ er ≠ 0 ∧ (er = 6 ∨ er = netV ds ms))) := ⟨fun W hW => rnew_all _ _ _ _ ds ms W ((DE.out.below hW).mono hW.size) ((L2.out.below hW).mono hW.size)⟩
    obtain ⟨r0, r1, r2, r3, r4⟩ := VR.out _ _ _ V1
    have HMs : Hd (∀ l ∈ ms, l ∈ ls) := ⟨HM.out.2⟩
    clear VL VA HM F1 L2 DE LE
    go_wp2_with fail
    refine NA.out.mono ?_
    rintro e w5 ⟨hb5, h5⟩
    have V5 := VB.out _ _ _ _ V1 hb5
    have NB5 := Hd.mk (NB.out w5 hb5)
    obtain ⟨q0, q1, q2, q3, q4⟩ := VR.out _ _ _ V5
    have BE5 := Hd.mk (chain hb5 BE.out)
    clear NA NB V1 r0 r1 r2 r3 r4 BE hb5
    rcases h5 with ⟨bR, R, MR, K, sl, xs, ns, s, rfl, H5⟩ | ⟨er, rfl, hne, _⟩
    rotate_left
    · have u1 : (er != 0) = true := by simp; omega
      have NB6 : Hd (Calls Tryz.prog 9 #[.agg #[.slice (some ⟨b0, o0, none⟩) ds.length cap, .slice A2 ms.length cap2], .int .i64 40000] w5 fun e w' => ∃ pv er2, e = .returned (.tuple #[pv, .int .i64 er2]) ∧ Below w.heap.size w w') := ⟨NB5.out.mono fun e w' ⟨k1, k2⟩ => by
        rcases k2 with ⟨_, _, _, _, _, _, _, _, k3, _⟩ | ⟨_, k3, _⟩
        · exact ⟨_, _, k3, chain k1 BE5.out⟩
        · exact ⟨_, _, k3, chain k1 BE5.out⟩⟩
      clear NB5 hne
      go_wp2_with fail
      refine NB6.out.mono ?_
      rintro e w6 ⟨pv, er2, rfl, D6⟩
      clear NB6
      go_wp2_with fail
      go_ret
      exact ⟨rfl, D6⟩
    go_wp2_with fail
    refine NB5.out.mono ?_
    rintro e w6 ⟨hb6, h6⟩
    have V6 := VB.out _ _ _ _ V5 hb6
    have BE6 := chain hb6 BE5.out
    rcases h6 with ⟨bR', R', MR', K', sl', xs', ns', s', rfl, H6⟩ | ⟨er, rfl, hne, _⟩
    rotate_left
    · have u1 : (er != 0) = true := by simp; omega
      clear NB5 hne V5 V6 q0 q1 q2 q3 H5
      go_wp2_with fail
      go_ret
      exact ⟨rfl, BE6⟩
    obtain ⟨I, hI⟩ : ∃ I : World → Prop, I = fun W => V (.slice A2 ms.length cap2) ms W ∧ RcF ds ls bR R MR 40000 K sl xs ns s W ∧ RcF ds ms bR' R' MR' 40000 K' sl' xs' ns' s' W := ⟨_, rfl⟩
    have I6 : I w6 := by rw [hI]; exact ⟨V6, H5.out.2.below hb6, H6.out.2⟩
    have IB : Hd (∀ W W', I W → Below W.heap.size W W' → I W') := ⟨fun W W' h k => by rw [hI] at h ⊢; exact ⟨VB.out _ _ _ _ h.1 k, h.2.1.below k, h.2.2.below k⟩⟩
    have IE : Hd (∀ W, I W → Below w.heap.size w W ∧ W.cell? ⟨w.heap.size + 1, 0, none⟩ = some (.int .i64 a) ∧ W.cell? ⟨w.heap.size + 1, 1, none⟩ = some (.int .i64 b) ∧ W.cell? ⟨w.heap.size + 1, 2, none⟩ = some (.int .i64 c) ∧ W.cell? ⟨w.heap.size + 1, 3, none⟩ = some (.int .i64 d) ∧ W.cell? ⟨w.heap.size, 0, none⟩ = some (.slice (some ⟨b0, o0, none⟩) ds.length cap) ∧ w.heap.size + 1 < W.heap.size) := ⟨fun W h => by rw [hI, hV] at h; exact ⟨h.1.be, h.1.bP.cell 0 _ rfl, h.1.bP.cell 1 _ rfl, h.1.bP.cell 2 _ rfl, h.1.bP.cell 3 _ rfl, h.1.bN.cell 0 _ rfl, h.1.bP.lt⟩⟩
    have DV : Hd (∀ W (t : Nat) (y : Dv), I W → ds[t]? = some y → ∃ vb nb cb vr nr cr vt nt ct, W.cell? ⟨b0, o0 + t * 7, none⟩ = some (.string y.name) ∧ W.cell? ⟨b0, o0 + t * 7 + 1, none⟩ = some (.int .i64 y.kind) ∧ W.cell? ⟨b0, o0 + t * 7 + 2, none⟩ = some (.int .i64 y.addr) ∧ W.cell? ⟨b0, o0 + t * 7 + 3, none⟩ = some (.int .u8 (y.pool : Int)) ∧ W.cell? ⟨b0, o0 + t * 7 + 4, none⟩ = some (.slice vb nb cb) ∧ W.cell? ⟨b0, o0 + t * 7 + 5, none⟩ = some (.slice vr nr cr) ∧ W.cell? ⟨b0, o0 + t * 7 + 6, none⟩ = some (.slice vt nt ct)) := ⟨fun W t y h ht => by
      have hB := (IE.out W h).1
      obtain ⟨b1, o1, vb, vr, vt, e, hb1, s1, s2, s3, c0, c1, c2, c3, c4, c5, c6⟩ := hD.out.at ht
      cases e
      obtain ⟨Ab, cb, rfl, _⟩ := s1
      obtain ⟨Ae, cr, rfl, _⟩ := s2
      obtain ⟨At, ct, rfl, _⟩ := s3
      have up : ∀ {q : Nat} {v : Value}, w.cell? ⟨b0, q, none⟩ = some v → W.cell? ⟨b0, q, none⟩ = some v := fun {q v} hq => (hB.cell (p := ⟨b0, q, none⟩) hb1).trans hq
      exact ⟨_, _, _, _, _, _, _, _, _, up c0, up c1, up c2, up c3, up c4, up c5, up c6⟩⟩
    have h10 : ds.length ≤ 10 := (netV_links H5.out.1).1
    have LQ : Hd (∀ p q : Int, LeF (atF ds ms K' p q) (atF ds ls K p q)) := ⟨fun p q => last_sub (netV_links H5.out.1).2.2.1 HMs.out h10 H5.out.2.fix p q⟩
    obtain ⟨xa, hxa⟩ : ∃ xa : Int → Int → Bool, xa = fun p q => pkR a b c d && atF ds ls K p q (envOf 14 (codeR a b c d)) := ⟨_, rfl⟩
    obtain ⟨xb, hxb⟩ : ∃ xb : Int → Int → Bool, xb = fun p q => pkR a b c d && atF ds ms K' p q (envOf 14 (codeR a b c d)) := ⟨_, rfl⟩
    have XS : Hd (∀ p q, xb p q = true → xa p q = true) := ⟨fun p q h => by
      rw [hxb] at h
      rw [hxa]
      simp only [Bool.and_eq_true] at h ⊢
      exact ⟨h.1, LQ.out p q _ h.2⟩⟩
    obtain ⟨na, hna⟩ : ∃ na : Int → Int → Nat, na = fun p q => cntE (atF ds ls K p q) := ⟨_, rfl⟩
    obtain ⟨nb, hnb⟩ : ∃ nb : Int → Int → Nat, nb = fun p q => cntE (atF ds ms K' p q) := ⟨_, rfl⟩
    have NS : Hd (∀ p q, nb p q ≤ na p q) := ⟨fun p q => by rw [hna, hnb]; exact cntE_mono (LQ.out p q)⟩
    have CA : Hd (∀ W (p q : Int), I W → Calls Tryz.prog 19 #[.pointer (some ⟨R, 0, none⟩), .agg #[.int .i64 p, .int .i64 q]] W fun e w' => e = .returned (.int .i64 (na p q : Int)) ∧ Below W.heap.size W w') := ⟨fun W p q h => by rw [hI] at h; rw [hna]; exact count_f h.2.1 p q⟩
    have CB : Hd (∀ W (p q : Int), I W → Calls Tryz.prog 19 #[.pointer (some ⟨R', 0, none⟩), .agg #[.int .i64 p, .int .i64 q]] W fun e w' => e = .returned (.int .i64 (nb p q : Int)) ∧ Below W.heap.size W w') := ⟨fun W p q h => by rw [hI] at h; rw [hnb]; exact count_f h.2.2 p q⟩
    have RA : Hd (∀ W (p q : Int), I W → Calls Tryz.prog 12 #[.pointer (some ⟨R, 0, none⟩), .agg #[.int .i64 p, .int .i64 q], .agg #[.int .i64 a, .int .i64 b, .int .i64 c, .int .i64 d]] W fun e w' => ∃ v : Int, e = .returned (.int .i64 v) ∧ decide (v < 0) = (!xa p q) ∧ decide (0 ≤ v) = xa p q ∧ Below W.heap.size W w') := ⟨fun W p q h => by rw [hI] at h; rw [hxa]; exact round_b h.2.1 p q a b c d⟩
    have RB : Hd (∀ W (p q : Int), I W → Calls Tryz.prog 12 #[.pointer (some ⟨R', 0, none⟩), .agg #[.int .i64 p, .int .i64 q], .agg #[.int .i64 a, .int .i64 b, .int .i64 c, .int .i64 d]] W fun e w' => ∃ v : Int, e = .returned (.int .i64 v) ∧ decide (v < 0) = (!xb p q) ∧ decide (0 ≤ v) = xb p q ∧ Below W.heap.size W w') := ⟨fun W p q h => by rw [hI] at h; rw [hxb]; exact round_b h.2.2 p q a b c d⟩
    have PO : Hd (∀ k W, Calls Tryz.prog 17 #[.int .i64 k] W fun e w' => e = .returned (.int .i64 (portsV k)) ∧ w' = W) := ⟨fun k W => nports_any k W⟩
    have PLA : Hd (∀ (x y : Int) W, Calls Tryz.prog 18 #[.int .i64 x, .int .i64 y] W fun e w' => e = .returned (.agg #[.int .i64 x, .int .i64 y]) ∧ Below W.heap.size W w') := ⟨fun x y W => place_anyR x y W⟩
    obtain ⟨f0, f1, f2, f3, f4, f5, f6⟩ := IE.out _ I6
    clear hI hV H5 H6 V5 V6 VB VR hxa hxb hna hnb LQ HMs NB5 BE5 BE6 hb6 q0 q1 q2 q3 q4 hD hL f1 f2 f3 f4
    go_wp2_with fail
    go_loopw [87] (fun v87 wr => ∃ t : Nat, v87 = .int .i64 (t : Int) ∧ t ≤ ds.length ∧ I wr) (fun v87 _ => ds.length - (intOf v87).toNat)
    case atStart => exact ⟨0, rfl, by omega, I6⟩
    case round =>
      clear I6 f0 f5 f6
      obtain ⟨t, rfl, ht, I1⟩ := hrel
      by_cases htl : t < ds.length
      rotate_left
      · have D9 := (IE.out _ I1).1
        clear IE DV CA CB RA RB IB
        go_wp2_with fail
        go_ret
        exact ⟨rfl, D9⟩
      obtain ⟨y, hy⟩ : ∃ y, ds[t]? = some y := ⟨_, List.getElem?_eq_getElem htl⟩
      obtain ⟨vb, nvb, cb, vr, nvr, cr, vt, nvt, ct, c0, c1, c2, c3, c4, c5, c6⟩ := DV.out _ t y I1 hy
      obtain ⟨np, hnp⟩ : ∃ np : Nat, portsV y.kind = (np : Int) := ⟨(portsV y.kind).toNat, by have := (portsN_le y.kind).1; omega⟩
      have PO1 := Hd.mk (PO.out y.kind)
      rw [hnp] at PO1
      have t1 : (t : Int) < (ds.length : Int) := by omega
      have t2 : (0 : Int) ≤ (t : Int) := by omega
      have I2 := IB.out _ _ I1 (Below.alloc' (Below.refl _ _) (.cells #[.string y.name, .int .i64 y.kind, .int .i64 y.addr, .int .u8 (y.pool : Int), .slice vb nvb cb, .slice vr nvr cr, .slice vt nvt ct] 62))
      have hnp4 : np ≤ 4 := by have := (portsN_le y.kind).2; omega
      clear hnp DV hy
      go_wp2_with fail
      refine (PO1.out _).mono ?_
      rintro e w7 ⟨rfl, hw7⟩
      obtain rfl := hw7.symm
      clear PO1 c0 c1 c2 c3 c4 c5 c6 I1
      go_wp2_with fail
      go_loopw [95] (fun v95 wr => ∃ q : Nat, v95 = .int .i64 (q : Int) ∧ q ≤ np ∧ I wr) (fun v95 _ => np - (intOf v95).toNat)
      case atStart => exact ⟨0, rfl, by omega, I2⟩
      case round =>
        clear I2
        obtain ⟨q, rfl, hq, I1⟩ := hrel
        by_cases hql : q < np
        rotate_left
        · clear IE CA CB RA RB IB
          go_wp2_with fail
          go_roundw
          case rel => exact ⟨t + 1, by go_num, by omega, I1⟩
          case measure => simp [intOf]; omega
        have q1 : (q : Int) < (np : Int) := by omega
        go_wp2_with fail
        refine (PLA.out (t : Int) (q : Int) _).mono ?_
        rintro e w8 ⟨rfl, hb8⟩
        have I8 := IB.out _ _ I1 hb8
        have I9 := IB.out _ _ I8 (Below.alloc' (Below.refl _ _) (.cells #[.int .i64 (t : Int), .int .i64 (q : Int)] 43))
        have Z9 : Bz (w8.alloc (.cells #[.int .i64 (t : Int), .int .i64 (q : Int)] 43)) w8.heap.size #[.int .i64 (t : Int), .int .i64 (q : Int)] 43 := Bz.new _ _ _ _ rfl
        have CA1 := Hd.mk (fun W => CA.out W (t : Int) (q : Int))
        have CB1 := Hd.mk (fun W => CB.out W (t : Int) (q : Int))
        have RA1 := Hd.mk (fun W => RA.out W (t : Int) (q : Int))
        have RB1 := Hd.mk (fun W => RB.out W (t : Int) (q : Int))
        have hle := NS.out (t : Int) (q : Int)
        have XS1 := Hd.mk (XS.out (t : Int) (q : Int))
        have g1 : decide ((na (t : Int) (q : Int) : Int) < (nb (t : Int) (q : Int) : Int)) = false := by simp; omega
        have g2 : decide (na (t : Int) (q : Int) < nb (t : Int) (q : Int)) = false := by simp; omega
        generalize na (t : Int) (q : Int) = na1 at *
        generalize nb (t : Int) (q : Int) = nb1 at *
        generalize xa (t : Int) (q : Int) = xa1 at *
        generalize xb (t : Int) (q : Int) = xb1 at *
        obtain ⟨f0, f1, f2, f3, f4, f5, f6⟩ := IE.out _ I9
        have S0 : ((w8.alloc (.cells #[.int .i64 (t : Int), .int .i64 (q : Int)] 43)).drew.cell? ⟨w8.heap.size, 0, none⟩ = some (.int .i64 (t : Int)) ∧ (w8.alloc (.cells #[.int .i64 (t : Int), .int .i64 (q : Int)] 43)).drew.cell? ⟨w8.heap.size, 1, none⟩ = some (.int .i64 (q : Int)) ∧ (w8.alloc (.cells #[.int .i64 (t : Int), .int .i64 (q : Int)] 43)).drew.cell? ⟨w.heap.size + 1, 0, none⟩ = some (.int .i64 a) ∧ (w8.alloc (.cells #[.int .i64 (t : Int), .int .i64 (q : Int)] 43)).drew.cell? ⟨w.heap.size + 1, 1, none⟩ = some (.int .i64 b) ∧ (w8.alloc (.cells #[.int .i64 (t : Int), .int .i64 (q : Int)] 43)).drew.cell? ⟨w.heap.size + 1, 2, none⟩ = some (.int .i64 c) ∧ (w8.alloc (.cells #[.int .i64 (t : Int), .int .i64 (q : Int)] 43)).drew.cell? ⟨w.heap.size + 1, 3, none⟩ = some (.int .i64 d)) := ⟨Z9.cell 0 _ rfl, Z9.cell 1 _ rfl, f1, f2, f3, f4⟩
        have KS : Hd (∀ X X' : World, Below X.heap.size X X' → (X.cell? ⟨w8.heap.size, 0, none⟩ = some (.int .i64 (t : Int)) ∧ X.cell? ⟨w8.heap.size, 1, none⟩ = some (.int .i64 (q : Int)) ∧ X.cell? ⟨w.heap.size + 1, 0, none⟩ = some (.int .i64 a) ∧ X.cell? ⟨w.heap.size + 1, 1, none⟩ = some (.int .i64 b) ∧ X.cell? ⟨w.heap.size + 1, 2, none⟩ = some (.int .i64 c) ∧ X.cell? ⟨w.heap.size + 1, 3, none⟩ = some (.int .i64 d)) → (X'.cell? ⟨w8.heap.size, 0, none⟩ = some (.int .i64 (t : Int)) ∧ X'.cell? ⟨w8.heap.size, 1, none⟩ = some (.int .i64 (q : Int)) ∧ X'.cell? ⟨w.heap.size + 1, 0, none⟩ = some (.int .i64 a) ∧ X'.cell? ⟨w.heap.size + 1, 1, none⟩ = some (.int .i64 b) ∧ X'.cell? ⟨w.heap.size + 1, 2, none⟩ = some (.int .i64 c) ∧ X'.cell? ⟨w.heap.size + 1, 3, none⟩ = some (.int .i64 d))) := ⟨fun X X' k ⟨a1, a2, a3, a4, a5, a6⟩ => ⟨below_cell k a1, below_cell k a2, below_cell k a3, below_cell k a4, below_cell k a5, below_cell k a6⟩⟩
        have I9d := IB.out _ _ I9 (Below.refl _ _).drew
        clear CA CB RA RB XS NS IE Z9 I1 I8 hb8 PLA PO hle f0 f1 f2 f3 f4 f5
        go_upto_region 24 with fail
        cases xb1
        · refine wp_region_held_drew (S := fun X => X.cell? ⟨w8.heap.size, 0, none⟩ = some (.int .i64 (t : Int)) ∧ X.cell? ⟨w8.heap.size, 1, none⟩ = some (.int .i64 (q : Int)) ∧ X.cell? ⟨w.heap.size + 1, 0, none⟩ = some (.int .i64 a) ∧ X.cell? ⟨w.heap.size + 1, 1, none⟩ = some (.int .i64 b) ∧ X.cell? ⟨w.heap.size + 1, 2, none⟩ = some (.int .i64 c) ∧ X.cell? ⟨w.heap.size + 1, 3, none⟩ = some (.int .i64 d)) (by kernel_rfl) S0 (fun hHeld => ?_)
          refine' wpAnyH_take (i := 0) (v := _) rfl (by kernel_rfl) (by kernel_rfl) (by kernel_rfl) (fun _ _ _ h => h) (Or.inl ⟨by rfl, ?gy1⟩) (by assumption) ?gr1
          case gy1 => (intro w hSw; obtain ⟨s0, s1, s2, s3, s4, s5⟩ := hSw; go_simp; (try with_reducible rfl))
          try simp only [lays]
          refine' wpAnyH_take (i := 1) (v := _) rfl (by kernel_rfl) (by kernel_rfl) (by kernel_rfl) (fun _ _ _ h => h) (Or.inl ⟨by rfl, ?gy2⟩) (by assumption) ?gr2
          case gy2 => (intro w hSw; obtain ⟨s0, s1, s2, s3, s4, s5⟩ := hSw; go_simp; (try with_reducible rfl))
          try simp only [lays]
          refine' wpAnyH_take (i := 3) (v := _) rfl (by kernel_rfl) (by kernel_rfl) (by kernel_rfl) (fun _ _ _ h => h) (Or.inl ⟨by rfl, ?gy3⟩) (by assumption) ?gr3
          case gy3 => (intro w hSw; obtain ⟨s0, s1, s2, s3, s4, s5⟩ := hSw; go_simp; (try with_reducible rfl))
          try simp only [lays]
          refine' wpAnyH_take (i := 4) (v := _) rfl (by kernel_rfl) (by kernel_rfl) (by kernel_rfl) (fun _ _ _ h => h) (Or.inl ⟨by rfl, ?gy4⟩) (by assumption) ?gr4
          case gy4 => (intro w hSw; obtain ⟨s0, s1, s2, s3, s4, s5⟩ := hSw; go_simp; (try with_reducible rfl))
          try simp only [lays]
          refine wpAnyH_ready (rs := [2]) (by kernel_rfl) (by simp) (AllReadyH.cons rfl (fun K hK => ?_) AllReadyH.nil)
          go_simp
          (with_reducible refine (CB1.out _ I9d).mono ?_)
          rintro e wa ⟨rfl, hb⟩
          have Ia := IB.out _ _ I9d hb
          have SIa := KS.out _ _ hb hHeld
          dsimp only
          clear hHeld hb
          refine hK.out _ _ (SIa) (fun hHeld => ?_)
          clear hK K
          try simp only [lays]
          refine wpAnyH_ready (rs := [5]) (by kernel_rfl) (by simp) (AllReadyH.cons rfl (fun K hK => ?_) AllReadyH.nil)
          go_simp
          (with_reducible refine (CA1.out _ Ia).mono ?_)
          rintro e wb ⟨rfl, hb⟩
          have Ib := IB.out _ _ Ia hb
          have SIb := KS.out _ _ hb hHeld
          dsimp only
          clear hHeld hb
          refine hK.out _ _ (SIb) (fun hHeld => ?_)
          clear hK K
          try simp only [lays]
          refine' wpAnyH_take (i := 6) (v := _) rfl (by kernel_rfl) (by kernel_rfl) (by kernel_rfl) (fun _ _ _ h => h) (Or.inl ⟨by rfl, ?gy5⟩) (by assumption) ?gr5
          case gy5 => (intro w hSw; go_simp; (try with_reducible rfl))
          try simp only [lays]
          refine' wpAnyH_take (i := 7) (v := _) rfl (by kernel_rfl) (by kernel_rfl) (by kernel_rfl) (fun _ _ _ h => h) (Or.inl ⟨by rfl, ?gy6⟩) (by assumption) ?gr6
          case gy6 => (intro w hSw; go_simp; (try with_reducible rfl))
          try simp only [lays]
          refine' wpAnyH_take (i := 8) (v := _) rfl (by kernel_rfl) (by kernel_rfl) (by kernel_rfl) (fun _ _ _ h => h) (Or.inl ⟨by rfl, ?gy7⟩) (by assumption) ?gr7
          case gy7 => (intro w hSw; obtain ⟨s0, s1, s2, s3, s4, s5⟩ := hSw; go_simp; (try with_reducible rfl))
          try simp only [lays]
          refine' wpAnyH_take (i := 9) (v := _) rfl (by kernel_rfl) (by kernel_rfl) (by kernel_rfl) (fun _ _ _ h => h) (Or.inl ⟨by rfl, ?gy8⟩) (by assumption) ?gr8
          case gy8 => (intro w hSw; obtain ⟨s0, s1, s2, s3, s4, s5⟩ := hSw; go_simp; (try with_reducible rfl))
          try simp only [lays]
          refine' wpAnyH_take (i := 10) (v := _) rfl (by kernel_rfl) (by kernel_rfl) (by kernel_rfl) (fun _ _ _ h => h) (Or.inl ⟨by rfl, ?gy9⟩) (by assumption) ?gr9
          case gy9 => (intro w hSw; obtain ⟨s0, s1, s2, s3, s4, s5⟩ := hSw; go_simp; (try with_reducible rfl))
          try simp only [lays]
          refine wpAnyH_ready (rs := [11]) (by kernel_rfl) (by simp) (AllReadyH.cons rfl (fun K hK => ?_) AllReadyH.nil)
          go_simp
          (with_reducible refine (RB1.out _ Ib).mono ?_)
          rintro e wc ⟨vb1, rfl, y1, y2, hb⟩
          have Ic := IB.out _ _ Ib hb
          have SIc := KS.out _ _ hb hHeld
          dsimp only
          clear hHeld hb
          refine hK.out _ _ (SIc) (fun hHeld => ?_)
          clear hK K
          try simp only [lays]
          simp only [Bool.not_false] at y1
          refine' wpAnyH_take (i := 12) (v := _) rfl (by kernel_rfl) (by kernel_rfl) (by kernel_rfl) (fun _ _ _ h => h) (Or.inl ⟨by rfl, ?gy10⟩) (by assumption) ?gr10
          case gy10 => (intro w hSw; go_simp; (try with_reducible rfl))
          try simp only [lays]
          refine' wpAnyH_take (i := 13) (v := _) rfl (by kernel_rfl) (by kernel_rfl) (by kernel_rfl) (fun _ _ _ h => h) (Or.inl ⟨by rfl, ?gy11⟩) (by assumption) ?gr11
          case gy11 => (intro w hSw; go_simp; (try with_reducible rfl))
          try simp only [lays]
          have Ie := Ic
          refine' tk0 14 rfl (by kernel_rfl) (fun _ _ _ h => h) (by rfl) (by assumption) ?_
          try simp only [lays]
          refine' tk0 15 rfl (by kernel_rfl) (fun _ _ _ h => h) (by rfl) (by assumption) ?_
          try simp only [lays]
          refine' tk0 16 rfl (by kernel_rfl) (fun _ _ _ h => h) (by rfl) (by assumption) ?_
          try simp only [lays]
          refine' tk0 17 rfl (by kernel_rfl) (fun _ _ _ h => h) (by rfl) (by assumption) ?_
          try simp only [lays]
          refine' tk0 18 rfl (by kernel_rfl) (fun _ _ _ h => h) (by rfl) (by assumption) ?_
          try simp only [lays]
          refine' wpAnyH_take (i := 19) (v := _) rfl (by kernel_rfl) (by kernel_rfl) (by kernel_rfl) (fun _ _ _ h => h) (Or.inl ⟨by rfl, ?gy17⟩) (by assumption) ?gr17
          case gy17 => (intro w hSw; go_simp; (try with_reducible rfl))
          try simp only [lays]
          refine' wpAnyH_take (i := 20) (v := _) rfl (by kernel_rfl) (by kernel_rfl) (by kernel_rfl) (fun _ _ _ h => h) (Or.inl ⟨by rfl, ?gy18⟩) (by assumption) ?gr18
          case gy18 => (intro w hSw; go_simp; (try with_reducible rfl))
          try simp only [lays]
          refine wpAnyH_done (by kernel_rfl) ?_ _
          go_wp2_with fail
          go_roundw
          case rel => exact ⟨q + 1, by go_num, by omega, Ie⟩
          case measure => simp [intOf]; omega
        · have hxa1 := XS1.out rfl
          subst hxa1
          refine wp_region_held_drew (S := fun X => X.cell? ⟨w8.heap.size, 0, none⟩ = some (.int .i64 (t : Int)) ∧ X.cell? ⟨w8.heap.size, 1, none⟩ = some (.int .i64 (q : Int)) ∧ X.cell? ⟨w.heap.size + 1, 0, none⟩ = some (.int .i64 a) ∧ X.cell? ⟨w.heap.size + 1, 1, none⟩ = some (.int .i64 b) ∧ X.cell? ⟨w.heap.size + 1, 2, none⟩ = some (.int .i64 c) ∧ X.cell? ⟨w.heap.size + 1, 3, none⟩ = some (.int .i64 d)) (by kernel_rfl) S0 (fun hHeld => ?_)
          refine' wpAnyH_take (i := 0) (v := _) rfl (by kernel_rfl) (by kernel_rfl) (by kernel_rfl) (fun _ _ _ h => h) (Or.inl ⟨by rfl, ?gy19⟩) (by assumption) ?gr19
          case gy19 => (intro w hSw; obtain ⟨s0, s1, s2, s3, s4, s5⟩ := hSw; go_simp; (try with_reducible rfl))
          try simp only [lays]
          refine' wpAnyH_take (i := 1) (v := _) rfl (by kernel_rfl) (by kernel_rfl) (by kernel_rfl) (fun _ _ _ h => h) (Or.inl ⟨by rfl, ?gy20⟩) (by assumption) ?gr20
          case gy20 => (intro w hSw; obtain ⟨s0, s1, s2, s3, s4, s5⟩ := hSw; go_simp; (try with_reducible rfl))
          try simp only [lays]
          refine' wpAnyH_take (i := 3) (v := _) rfl (by kernel_rfl) (by kernel_rfl) (by kernel_rfl) (fun _ _ _ h => h) (Or.inl ⟨by rfl, ?gy21⟩) (by assumption) ?gr21
          case gy21 => (intro w hSw; obtain ⟨s0, s1, s2, s3, s4, s5⟩ := hSw; go_simp; (try with_reducible rfl))
          try simp only [lays]
          refine' wpAnyH_take (i := 4) (v := _) rfl (by kernel_rfl) (by kernel_rfl) (by kernel_rfl) (fun _ _ _ h => h) (Or.inl ⟨by rfl, ?gy22⟩) (by assumption) ?gr22
          case gy22 => (intro w hSw; obtain ⟨s0, s1, s2, s3, s4, s5⟩ := hSw; go_simp; (try with_reducible rfl))
          try simp only [lays]
          refine wpAnyH_ready (rs := [2]) (by kernel_rfl) (by simp) (AllReadyH.cons rfl (fun K hK => ?_) AllReadyH.nil)
          go_simp
          (with_reducible refine (CB1.out _ I9d).mono ?_)
          rintro e wa ⟨rfl, hb⟩
          have Ia := IB.out _ _ I9d hb
          have SIa := KS.out _ _ hb hHeld
          dsimp only
          clear hHeld hb
          refine hK.out _ _ (SIa) (fun hHeld => ?_)
          clear hK K
          try simp only [lays]
          refine wpAnyH_ready (rs := [5]) (by kernel_rfl) (by simp) (AllReadyH.cons rfl (fun K hK => ?_) AllReadyH.nil)
          go_simp
          (with_reducible refine (CA1.out _ Ia).mono ?_)
          rintro e wb ⟨rfl, hb⟩
          have Ib := IB.out _ _ Ia hb
          have SIb := KS.out _ _ hb hHeld
          dsimp only
          clear hHeld hb
          refine hK.out _ _ (SIb) (fun hHeld => ?_)
          clear hK K
          try simp only [lays]
          refine' wpAnyH_take (i := 6) (v := _) rfl (by kernel_rfl) (by kernel_rfl) (by kernel_rfl) (fun _ _ _ h => h) (Or.inl ⟨by rfl, ?gy23⟩) (by assumption) ?gr23
          case gy23 => (intro w hSw; go_simp; (try with_reducible rfl))
          try simp only [lays]
          refine' wpAnyH_take (i := 7) (v := _) rfl (by kernel_rfl) (by kernel_rfl) (by kernel_rfl) (fun _ _ _ h => h) (Or.inl ⟨by rfl, ?gy24⟩) (by assumption) ?gr24
          case gy24 => (intro w hSw; go_simp; (try with_reducible rfl))
          try simp only [lays]
          refine' wpAnyH_take (i := 8) (v := _) rfl (by kernel_rfl) (by kernel_rfl) (by kernel_rfl) (fun _ _ _ h => h) (Or.inl ⟨by rfl, ?gy25⟩) (by assumption) ?gr25
          case gy25 => (intro w hSw; obtain ⟨s0, s1, s2, s3, s4, s5⟩ := hSw; go_simp; (try with_reducible rfl))
          try simp only [lays]
          refine' wpAnyH_take (i := 9) (v := _) rfl (by kernel_rfl) (by kernel_rfl) (by kernel_rfl) (fun _ _ _ h => h) (Or.inl ⟨by rfl, ?gy26⟩) (by assumption) ?gr26
          case gy26 => (intro w hSw; obtain ⟨s0, s1, s2, s3, s4, s5⟩ := hSw; go_simp; (try with_reducible rfl))
          try simp only [lays]
          refine' wpAnyH_take (i := 10) (v := _) rfl (by kernel_rfl) (by kernel_rfl) (by kernel_rfl) (fun _ _ _ h => h) (Or.inl ⟨by rfl, ?gy27⟩) (by assumption) ?gr27
          case gy27 => (intro w hSw; obtain ⟨s0, s1, s2, s3, s4, s5⟩ := hSw; go_simp; (try with_reducible rfl))
          try simp only [lays]
          refine wpAnyH_ready (rs := [11]) (by kernel_rfl) (by simp) (AllReadyH.cons rfl (fun K hK => ?_) AllReadyH.nil)
          go_simp
          (with_reducible refine (RB1.out _ Ib).mono ?_)
          rintro e wc ⟨vb1, rfl, y1, y2, hb⟩
          have Ic := IB.out _ _ Ib hb
          have SIc := KS.out _ _ hb hHeld
          dsimp only
          clear hHeld hb
          refine hK.out _ _ (SIc) (fun hHeld => ?_)
          clear hK K
          try simp only [lays]
          simp only [Bool.not_true] at y1
          refine' wpAnyH_take (i := 12) (v := _) rfl (by kernel_rfl) (by kernel_rfl) (by kernel_rfl) (fun _ _ _ h => h) (Or.inl ⟨by rfl, ?gy28⟩) (by assumption) ?gr28
          case gy28 => (intro w hSw; go_simp; (try with_reducible rfl))
          try simp only [lays]
          refine' wpAnyH_take (i := 13) (v := _) rfl (by kernel_rfl) (by kernel_rfl) (by kernel_rfl) (fun _ _ _ h => h) (Or.inl ⟨by rfl, ?gy29⟩) (by assumption) ?gr29
          case gy29 => (intro w hSw; go_simp; (try with_reducible rfl))
          try simp only [lays]
          refine' wpAnyH_take (i := 14) (v := _) rfl (by kernel_rfl) (by kernel_rfl) (by kernel_rfl) (fun _ _ _ h => h) (Or.inl ⟨by rfl, ?gy30⟩) (by assumption) ?gr30
          case gy30 => (intro w hSw; obtain ⟨s0, s1, s2, s3, s4, s5⟩ := hSw; go_simp; (try with_reducible rfl))
          try simp only [lays]
          refine' wpAnyH_take (i := 15) (v := _) rfl (by kernel_rfl) (by kernel_rfl) (by kernel_rfl) (fun _ _ _ h => h) (Or.inl ⟨by rfl, ?gy31⟩) (by assumption) ?gr31
          case gy31 => (intro w hSw; obtain ⟨s0, s1, s2, s3, s4, s5⟩ := hSw; go_simp; (try with_reducible rfl))
          try simp only [lays]
          refine' wpAnyH_take (i := 16) (v := _) rfl (by kernel_rfl) (by kernel_rfl) (by kernel_rfl) (fun _ _ _ h => h) (Or.inl ⟨by rfl, ?gy32⟩) (by assumption) ?gr32
          case gy32 => (intro w hSw; obtain ⟨s0, s1, s2, s3, s4, s5⟩ := hSw; go_simp; (try with_reducible rfl))
          try simp only [lays]
          refine wpAnyH_ready (rs := [17]) (by kernel_rfl) (by simp) (AllReadyH.cons rfl (fun K hK => ?_) AllReadyH.nil)
          go_simp
          (with_reducible refine (RA1.out _ Ic).mono ?_)
          rintro e wd ⟨va1, rfl, y3, y4, hb⟩
          have Ie := IB.out _ _ Ic hb
          have SIe := KS.out _ _ hb hHeld
          dsimp only
          clear hHeld hb
          refine hK.out _ _ (SIe) (fun hHeld => ?_)
          clear hK K
          try simp only [lays]
          simp only [Bool.not_true] at y3
          refine' wpAnyH_take (i := 18) (v := _) rfl (by kernel_rfl) (by kernel_rfl) (by kernel_rfl) (fun _ _ _ h => h) (Or.inl ⟨by rfl, ?gy33⟩) (by assumption) ?gr33
          case gy33 => (intro w hSw; go_simp; (try with_reducible rfl))
          try simp only [lays]
          refine' wpAnyH_take (i := 19) (v := _) rfl (by kernel_rfl) (by kernel_rfl) (by kernel_rfl) (fun _ _ _ h => h) (Or.inl ⟨by rfl, ?gy34⟩) (by assumption) ?gr34
          case gy34 => (intro w hSw; go_simp; (try with_reducible rfl))
          try simp only [lays]
          refine' wpAnyH_take (i := 20) (v := _) rfl (by kernel_rfl) (by kernel_rfl) (by kernel_rfl) (fun _ _ _ h => h) (Or.inl ⟨by rfl, ?gy35⟩) (by assumption) ?gr35
          case gy35 => (intro w hSw; go_simp; (try with_reducible rfl))
          try simp only [lays]
          refine wpAnyH_done (by kernel_rfl) ?_ _
          go_wp2_with fail
          go_roundw
          case rel => exact ⟨q + 1, by go_num, by omega, Ie⟩
          case measure => simp [intOf]; omega
end Go.Proofs.YtlmmeppifkigeaaGreat



