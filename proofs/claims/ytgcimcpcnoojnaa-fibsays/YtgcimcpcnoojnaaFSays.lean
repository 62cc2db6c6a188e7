/-
  FibSays: it returns true.
-/
import Derived.Test.YtgcimcpcnoojnaaFBuild
namespace Go.Proofs.Ytgcimcpcnoojnaa
open Go.RowKit Go.Maps

/-- A slice that holds the routes, which no call of the arena turns. -/
def RoutesK (C : Cfg) (w : World) (v : Value) (xs : List Rt) : Prop :=
  ∃ A cap, v = .slice A xs.length cap ∧ (A = none → cap = 0) ∧ xs.length ≤ cap ∧ cap ≤ maxLen ∧ (xs ≠ [] → ∃ b o, A = some ⟨b, o, none⟩ ∧ Out C w b ∧ TAt w b o xs)
theorem RoutesK.routes {C : Cfg} {w : World} {v : Value} {xs : List Rt} (h : RoutesK C w v xs) : Routes w.heap.size w v xs := by
  obtain ⟨A, cap, e, h0, h1, h2, h3⟩ := h
  exact ⟨A, cap, e, h0, h1, h2, fun hn => let ⟨b, o, ea, hb, hr⟩ := h3 hn; ⟨b, o, ea, hb.lt, hr⟩⟩
theorem RoutesK.kp {C : Cfg} {w w' : World} {v : Value} {xs : List Rt} (h : RoutesK C w v xs) (k : Kp C w w') : RoutesK C w' v xs := by
  obtain ⟨A, cap, e, h0, h1, h2, h3⟩ := h
  refine ⟨A, cap, e, h0, h1, h2, fun hn => ?_⟩
  obtain ⟨b, o, ea, hb, hr⟩ := h3 hn
  exact ⟨b, o, ea, hb.kp k, fun j u hj => (World.cell?_of_block (a := ⟨b, o + j, none⟩) (k.blk b hb.lt hb.not hb.ne)).trans (hr j u hj)⟩
theorem Ar.routesK {base a M vars most : Nat} {w : World} {ns : List Nd} (h : Ar base a M vars most w ns) {v : Value} {xs : List Rt} (hR : Routes base w v xs) : RoutesK (ca base a M vars most) w v xs := by
  obtain ⟨A, cap, e, h0, h1, h2, h3⟩ := hR
  refine ⟨A, cap, e, h0, h1, h2, fun hn => ?_⟩
  obtain ⟨b, o, ea, hb, hr⟩ := h3 hn
  obtain ⟨_, _, rb, rl⟩ := h.row
  have l1 := h.lta
  have l2 := h.lowA
  exact ⟨b, o, ea, ⟨by omega, h.notMine hb, by show b ≠ rowOf w a; omega⟩, hr⟩
theorem Loc.oneF {C : Cfg} {w : World} {i : Nat} {x : Value} {t : TypeId} (h : Loc C w i #[x] t) : w.cell? ⟨i, 0, none⟩ = some x := by rw [cell_of_row w i 0 _ _ _ h.blk]; rfl

section
variable {base a M most : Nat} {w w' : World} {ns : List Nd}

set_option maxHeartbeats 1000000 in
theorem closureF_any (A : Option Addr) (n cap n0 n1 : Nat) (xs : List Rt) (p q s t port : Int) (w : World) (hn1 : n1 < w.heap.size) (q0 : w.cell? ⟨n0, 0, none⟩ = some (.slice A n cap)) (q1 : w.cell? ⟨n1, 0, none⟩ = some (.int .i64 port)) (hn0 : n0 < w.heap.size) (hR : Routes w.heap.size w (.slice A n cap) xs) :
    Calls Try.prog 37 #[pk p q s t, .pointer (some ⟨n0, 0, none⟩), .pointer (some ⟨n1, 0, none⟩)] w fun e w' => e = .returned (.bool (outB xs q && (outN xs q == port))) ∧ Below w.heap.size w w' := by
  have D := Below.al (Below.refl w.heap.size w) (.cells #[.int .i64 p, .int .i64 q, .int .i64 s, .int .i64 t] 53)
  have K : Hid (Calls Try.prog 34 #[.slice A n cap, .int .i64 q] (w.alloc (.cells #[.int .i64 p, .int .i64 q, .int .i64 s, .int .i64 t] 53)) fun e w' => e = .returned (.tuple #[.int .i64 (outN xs q), .bool (outB xs q)]) ∧ Below (w.alloc (.cells #[.int .i64 p, .int .i64 q, .int .i64 s, .int .i64 t] 53)).heap.size (w.alloc (.cells #[.int .i64 p, .int .i64 q, .int .i64 s, .int .i64 t] 53)) w') :=
    rout_any q _ ((hR.below D).mono (by simp))
  have F := four_new w (.int .i64 p) (.int .i64 q) (.int .i64 s) (.int .i64 t) 53
  obtain ⟨l0, g0, g1, g2, g3⟩ := F
  clear hR
  generalize outN xs q = N at *
  generalize outB xs q = B at *
  go_enter Try.func37, Try.ntmps37
  go_wp2_with fail
  refine K.out.mono ?_
  rintro e w1 ⟨rfl, hb1⟩
  have D1 := chn hb1 D
  have q2 : w1.cell? ⟨n1, 0, none⟩ = some (.int .i64 port) := (D1.cell (p := ⟨n1, 0, none⟩) hn1).trans q1
  clear D hb1 g0 g1 g2 g3 l0 K q0 q1
  cases B
  · go_wp2_with fail
    go_ret
    exact ⟨rfl, D1⟩
  · go_wp2_with fail
    go_ret
    exact ⟨by simp, D1⟩

theorem sent_env (xs : List Rt) (port : Int) (s : Nat) (hs : ∀ i, i < 16 → s.testBit i = sentB xs port i) (c : Nat) (hc : c < 16384) : phi 65535 s 255 255 (envOf 14 c) = (outB xs ((c / 64 % 16 : Nat) : Int) && (outN xs ((c / 64 % 16 : Nat) : Int) == port)) := by
  rw [phi_env _ _ _ _ c hc, hs _ (Nat.mod_lt _ (by omega))]
  have one : ∀ (n m : Nat), n < m → (2 ^ m - 1).testBit n = true := by
    intro n m h
    rw [Nat.testBit_two_pow_sub_one]
    simpa using h
  have h1 := one (c / 1024) 16 (by omega)
  have h3 := one (c / 8 % 8) 8 (by omega)
  have h4 := one (c % 8) 8 (by omega)
  simp only [show (2 : Nat) ^ 16 - 1 = 65535 from rfl, show (2 : Nat) ^ 8 - 1 = 255 from rfl] at h1 h3 h4
  rw [h1, h3, h4]
  simp [sentB]

set_option maxHeartbeats 4000000 in
set_option maxRecDepth 100000 in
theorem heldF_any (h : Ar base a M 14 most w ns) (f n0 n1 s : Nat) (hf : f < ns.length) (A : Option Addr) (n cap : Nat) (xs : List Rt) (port : Int) (hs : ∀ i, i < 16 → s.testBit i = sentB xs port i) (hev : ∀ x, ev ns f x = phi 65535 s 255 255 x) (L : Loc (ca base a M 14 most) w n0 #[.slice A n cap] 65) (L' : Loc (ca base a M 14 most) w n1 #[.int .i64 port] 3) (R : RoutesK (ca base a M 14 most) w (.slice A n cap) xs) :
    Calls Try.prog 21 #[.pointer (some ⟨a, 0, none⟩), .int .i64 (f : Int), .func (.func 37) #[] #[.pointer (some ⟨n0, 0, none⟩), .pointer (some ⟨n1, 0, none⟩)]] w fun e w' => e = .returned (.bool true) ∧ Ar base a M 14 most w' ns ∧ Kp (ca base a M 14 most) w w' := by
  have EV : Hid (∀ c, c < 16384 → ev ns f (envOf 14 c) = (outB xs ((c / 64 % 16 : Nat) : Int) && (outN xs ((c / 64 % 16 : Nat) : Int) == port))) := fun c hc => by rw [hev, sent_env xs port s hs c hc]
  have R' : Hid (RoutesK (ca base a M 14 most) w (.slice A n cap) xs) := R
  have LL : Hid (Loc (ca base a M 14 most) w n0 #[.slice A n cap] 65 ∧ Loc (ca base a M 14 most) w n1 #[.int .i64 port] 3) := ⟨L, L'⟩
  clear hev R hs L L'
  go_enter Try.func21, Try.ntmps21
  go_wp2_with fail
  go_loopw [10] (fun i wr => ∃ c : Nat, i = .int .i64 (c : Int) ∧ c ≤ 16384 ∧ Ar base a M 14 most wr ns ∧ Kp (ca base a M 14 most) w wr) (fun i _ => 16384 - (intOf i).toNat)
  case atStart => exact ⟨0, rfl, by omega, h, Kp.refl _ _⟩
  case round =>
    obtain ⟨c, rfl, hcc, hA, hK⟩ := hrel
    by_cases hlt : c < 16384
    · have CL : Hid (∀ w', Kp (ca base a M 14 most) w w' → Calls Try.prog 37 #[pk ((c / 1024 : Nat) : Int) ((c / 64 % 16 : Nat) : Int) ((c / 8 % 8 : Nat) : Int) ((c % 8 : Nat) : Int), .pointer (some ⟨n0, 0, none⟩), .pointer (some ⟨n1, 0, none⟩)] w' fun e w'' => e = .returned (.bool (ev ns f (envOf 14 c))) ∧ Below w'.heap.size w' w'') := fun w' K' => by
        rw [EV.out c hlt]
        have L1 := LL.out.1.kp K'
        have L2 := LL.out.2.kp K'
        exact closureF_any A n cap n0 n1 xs _ _ _ _ port w' L2.out.lt L1.oneF L2.oneF L1.out.lt (R'.out.kp K').routes
      have EC : Hid (Calls Try.prog 65 #[.pointer (some ⟨a, 0, none⟩), .int .i64 (f : Int), .int .i64 (c : Int)] wr fun e w' => e = .returned (.tuple #[.bool (ev ns f (envOf 14 c)), .int .i64 0]) ∧ Ar base a M 14 most w' ns ∧ Kp (ca base a M 14 most) wr w') := eval_ok hA hf (by show c < 16384; exact hlt)
      have PK : Hid (∀ w, Calls Try.prog 71 #[.int .i64 (c : Int)] w fun e w' => e = .returned (pk ((c / 1024 : Nat) : Int) ((c / 64 % 16 : Nat) : Int) ((c / 8 % 8 : Nat) : Int) ((c % 8 : Nat) : Int)) ∧ Below w.heap.size w w') := fun w => rpacket_any c w hlt
      generalize ev ns f (envOf 14 c) = r at *
      generalize c / 1024 = p0 at *
      generalize c / 64 % 16 = p1 at *
      generalize c / 8 % 8 = p2 at *
      generalize c % 8 = p3 at *
      clear EV R' LL
      go_wp2_with fail
      refine EC.out.mono ?_
      rintro e w2 ⟨rfl, A2, K2⟩
      have KK2 := hK.trans K2
      clear EC hA hK K2
      go_wp2_with fail
      refine (PK.out _).mono ?_
      rintro e w3 ⟨rfl, hb3⟩
      have A3 := A2.below hb3
      have KK3 := KK2.trans (A2.kbelow hb3)
      clear A2 KK2 hb3 PK
      go_wp2_with fail
      refine (CL.out _ KK3).mono ?_
      rintro e w4 ⟨rfl, hb4⟩
      have A4 := A3.below hb4
      have KK4 := KK3.trans (A3.kbelow hb4)
      clear A3 KK3 hb4 CL
      cases r
      all_goals
        go_wp2_with fail
        go_roundw
        case rel => exact ⟨c + 1, congrArg (Value.int .i64) (by omega), by omega, A4, KK4⟩
        case measure => simp [intOf]; omega
    · go_wp2_with fail
      go_ret
      exact ⟨rfl, hA, hK⟩
end

/-- The list in block n, the port behind it; nothing that lay has turned. -/
def SeenF (n : Nat) (v : Value) (q : Int) (w0 w : World) : Prop :=
  Below w0.heap.size w0 w ∧ w.heap[n]? = some (.cells #[v] 65 (0, 0)) ∧ w.heap[n + 1]? = some (.cells #[.int .i64 q] 3 (0, 0))
section
variable {n : Nat} {v : Value} {q : Int} {w0 w w' : World}
theorem SeenF.step (h : SeenF n v q w0 w) (hb : Below w.heap.size w w') : SeenF n v q w0 w' :=
  ⟨h.1.trans (hb.mono h.1.size), (hb.block n (Array.getElem?_eq_some_iff.1 h.2.1).1).trans h.2.1, (hb.block (n + 1) (Array.getElem?_eq_some_iff.1 h.2.2).1).trans h.2.2⟩
theorem SeenF.two (h : SeenF n v q w0 w) : w.cell? ⟨n, 0, none⟩ = some v ∧ w.cell? ⟨n + 1, 0, none⟩ = some (.int .i64 q) :=
  ⟨by rw [cell_of_row w n 0 _ _ _ h.2.1]; rfl, by rw [cell_of_row w (n + 1) 0 _ _ _ h.2.2]; rfl⟩
end

theorem checkFrom_valsF (xs : List Rt) : ∀ (m k : Nat), xs.length - k ≤ m → checkFrom xs k = 0 ∨ checkFrom xs k = 1 ∨ checkFrom xs k = 5
  | 0, k, h => by rw [checkFrom_end (by omega)]; simp
  | m + 1, k, h => by
    by_cases hk : k < xs.length
    · rw [checkFrom_at (List.getElem?_eq_getElem hk)]
      split
      · exact checkFrom_valsF xs m (k + 1) (by omega)
      · unfold wrongAt
        split
        · split <;> simp
        · simp
    · rw [checkFrom_end (by omega)]; simp
theorem checkV_valsF (xs : List Rt) : checkV xs = 0 ∨ checkV xs = 1 ∨ checkV xs = 2 ∨ checkV xs = 5 := by
  unfold checkV
  split
  · simp
  · rcases checkFrom_valsF xs xs.length 0 (by omega) with h | h | h <;> simp [h]

set_option maxHeartbeats 8000000 in
set_option maxRecDepth 100000 in
theorem fsays_any (A : Option Addr) (cap : Nat) (xs : List Rt) (d q : Int) (w : World) (hR : Hid (Routes w.heap.size w (.slice A xs.length cap) xs)) :
    Calls Try.prog 6 #[.slice A xs.length cap, .int .i64 d, .int .i64 q] w fun e w' => e = .returned (.bool true) ∧ Below w.heap.size w w' := by
  have S1 : SeenF w.heap.size (.slice A xs.length cap) q w ((w.alloc (.cells #[.slice A xs.length cap] 65)).alloc (.cells #[.int .i64 q] 3)) := by
    refine ⟨Below.al (Below.al (Below.refl _ _) _) _, ?_, ?_⟩
    · rw [Below.heap_alloc _ _ _ (by simp)]
      exact Go.heap_alloc_new w _
    · have := Go.heap_alloc_new (w.alloc (.cells #[.slice A xs.length cap] 65)) (.cells #[.int .i64 q] 3)
      simpa using this
  have RT : Hid (∀ w', SeenF w.heap.size (.slice A xs.length cap) q w w' → Calls Try.prog 32 #[.slice A xs.length cap] w' fun e w'' => e = .returned (.int .i64 (checkV xs)) ∧ Below w'.heap.size w' w'') := fun w' h => routes_any w' ((hR.out.below h.1).mono h.1.size)
  have CK : Hid (∀ w', SeenF w.heap.size (.slice A xs.length cap) q w w' → Calls Try.prog 35 #[.slice A xs.length cap] w' fun e w'' => e = .returned (.int .i64 (checkV xs)) ∧ Below w'.heap.size w' w'') := fun w' h => check_any w' ((hR.out.below h.1).mono h.1.size)
  have OA : Hid (∀ w', SeenF w.heap.size (.slice A xs.length cap) q w w' → Calls Try.prog 33 #[.slice A xs.length cap, .int .i64 d] w' fun e w'' => e = .returned (.tuple #[.int .i64 (outN xs d), .bool (outB xs d)]) ∧ Below w'.heap.size w' w'') := fun w' h => out_any d w' ((hR.out.below h.1).mono h.1.size)
  have OB : Hid (∀ w', SeenF w.heap.size (.slice A xs.length cap) q w w' → Calls Try.prog 34 #[.slice A xs.length cap, .int .i64 d] w' fun e w'' => e = .returned (.tuple #[.int .i64 (outN xs d), .bool (outB xs d)]) ∧ Below w'.heap.size w' w'') := fun w' h => rout_any d w' ((hR.out.below h.1).mono h.1.size)
  have NW : Hid (∀ w : World, Calls Try.prog 9 #[.int .i64 14, .int .i64 40000] w fun e w' => ∃ a2 M2, e = .returned (.tuple #[.pointer (some ⟨a2, 0, none⟩), .int .i64 0]) ∧ Ar w.heap.size a2 M2 14 40000 w' [(14, 0, 0), (14, 1, 1)] ∧ Below w.heap.size w w') := fun w => new_ok (v := 14) (m := 40000) w (by omega) (by omega) (by omega) (by omega)
  have RR : Hid (∀ w' : World, SeenF w.heap.size (.slice A xs.length cap) q w w' → Routes w.heap.size w' (.slice A xs.length cap) xs) := fun w' h => hR.out.below h.1
  have BD : Hid (∀ (p : Value) (w' : World) (c : Int), Routes w'.heap.size w' (.slice A xs.length cap) xs → checkV xs = c → (c = 1 ∨ c = 2 ∨ c = 5) → Calls Try.prog 36 #[p, .slice A xs.length cap, .int .i64 q] w' fun e w'' => e = .returned (.tuple #[.int .i64 0, .int .i64 c]) ∧ Below w'.heap.size w' w'') := fun p w' c h1 h2 h3 => fbuild_bad p q c w' h1 h2 h3
  have BO : Hid (checkV xs = 0 → ∀ (base a M : Nat) (w' : World) (ns : List Nd), Ar base a M 14 40000 w' ns → RoutesK (ca base a M 14 40000) w' (.slice A xs.length cap) xs → Calls Try.prog 36 #[.pointer (some ⟨a, 0, none⟩), .slice A xs.length cap, .int .i64 q] w' fun e w'' => ∃ s : Nat, Hid (∀ i, i < 16 → s.testBit i = sentB xs q i) ∧ MkPost base a M 14 40000 w' ns 44 0 (phi 65535 s 255 255) e w'') := fun hc base a M w' ns h R => fbuild_ok h q R.routes hc
  have HE : Hid (∀ (base a M : Nat) (w' : World) (ns : List Nd) (f s : Nat), Ar base a M 14 40000 w' ns → f < ns.length → (∀ i, i < 16 → s.testBit i = sentB xs q i) → (∀ x, ev ns f x = phi 65535 s 255 255 x) → Loc (ca base a M 14 40000) w' w.heap.size #[.slice A xs.length cap] 65 → Loc (ca base a M 14 40000) w' (w.heap.size + 1) #[.int .i64 q] 3 → RoutesK (ca base a M 14 40000) w' (.slice A xs.length cap) xs → Calls Try.prog 21 #[.pointer (some ⟨a, 0, none⟩), .int .i64 (f : Int), .func (.func 37) #[] #[.pointer (some ⟨w.heap.size, 0, none⟩), .pointer (some ⟨w.heap.size + 1, 0, none⟩)]] w' fun e w'' => e = .returned (.bool true) ∧ Ar base a M 14 40000 w'' ns ∧ Kp (ca base a M 14 40000) w' w'') := fun base a M w' ns f s h hf hs hev L L' R => heldF_any h f w.heap.size (w.heap.size + 1) s hf A xs.length cap xs q hs hev L L' R
  have hv := checkV_valsF xs
  obtain ⟨c0, c1⟩ := S1.two
  clear hR
  generalize outN xs d = N at *
  generalize outB xs d = B at *
  generalize hcv : checkV xs = c at *
  have HC : Hid (checkV xs = c) := hcv
  clear hcv
  generalize xs.length = n at *
  go_enter Try.func6, Try.ntmps6
  go_wp2_with fail
  refine (RT.out _ S1).mono ?_
  rintro e w1 ⟨rfl, hb1⟩
  have S2 := S1.step hb1
  clear RT hb1 S1 c0 c1
  obtain ⟨c0, c1⟩ := S2.two
  go_wp2_with fail
  refine (OA.out _ S2).mono ?_
  rintro e w2 ⟨rfl, hb2⟩
  have S3 := S2.step hb2
  clear OA hb2 S2 c0 c1
  obtain ⟨c0, c1⟩ := S3.two
  go_wp2_with fail
  refine (OB.out _ S3).mono ?_
  rintro e w3 ⟨rfl, hb3⟩
  have S4 := S3.step hb3
  clear OB hb3 S3 c0 c1
  obtain ⟨c0, c1⟩ := S4.two
  go_wp2_with fail
  refine (CK.out _ S4).mono ?_
  rintro e w4 ⟨rfl, hb4⟩
  have S5 := S4.step hb4
  clear CK hb4 S4 c0 c1
  rcases hv with rfl | hv
  · have BO' : Hid (∀ (base a M : Nat) (w' : World) (ns : List Nd), Ar base a M 14 40000 w' ns → RoutesK (ca base a M 14 40000) w' (.slice A n cap) xs → Calls Try.prog 36 #[.pointer (some ⟨a, 0, none⟩), .slice A n cap, .int .i64 q] w' fun e w'' => ∃ s : Nat, Hid (∀ i, i < 16 → s.testBit i = sentB xs q i) ∧ MkPost base a M 14 40000 w' ns 44 0 (phi 65535 s 255 255) e w'') := BO.out rfl
    clear BO BD HC
    go_wp2_with fail
    refine (NW.out _).mono ?_
    rintro e w5 ⟨a2, M2, rfl, A6, hb5⟩
    have S6 := S5.step hb5
    have z5 := S5.1.size
    have n5 : w.heap.size + 1 < w4.heap.size := (Array.getElem?_eq_some_iff.1 S5.2.2).1
    have R6 : RoutesK (ca w4.heap.size a2 M2 14 40000) w5 (.slice A n cap) xs := A6.routesK ((RR.out w5 S6).mono z5)
    have L6 : Loc (ca w4.heap.size a2 M2 14 40000) w5 w.heap.size #[.slice A n cap] 65 := A6.locOld (by omega) S6.2.1
    have M6 : Loc (ca w4.heap.size a2 M2 14 40000) w5 (w.heap.size + 1) #[.int .i64 q] 3 := A6.locOld n5 S6.2.2
    have D6 := S6.1
    have c0 := L6.oneF
    have c1 := M6.oneF
    clear S5 hb5 NW S6 RR
    go_wp2_with fail
    refine (BO'.out _ _ _ _ _ A6 R6).mono ?_
    rintro e w7 ⟨s, hs, ns7, A7, K7, X7, l7, hres⟩
    have R7 := R6.kp K7
    have L7 := L6.kp K7
    have M7 := M6.kp K7
    have D7 := D6.trans ((A6.kp_below K7).mono z5)
    simp only [List.length_cons, List.length_nil] at l7
    obtain ⟨f, rfl, lt7, ev7⟩ : ∃ f : Nat, e = .returned (.tuple #[.int .i64 (f : Int), .int .i64 0]) ∧ f < ns7.length ∧ ∀ x, ev ns7 f x = phi 65535 s 255 255 x := by
      rcases hres with ⟨f, e1, e2, _, e3⟩ | ⟨_, h⟩
      · exact ⟨f, e1, e2, e3⟩
      · omega
    have HE7 : Hid (Calls Try.prog 21 #[.pointer (some ⟨a2, 0, none⟩), .int .i64 (f : Int), .func (.func 37) #[] #[.pointer (some ⟨w.heap.size, 0, none⟩), .pointer (some ⟨w.heap.size + 1, 0, none⟩)]] w7 fun e w'' => e = .returned (.bool true) ∧ Ar w4.heap.size a2 M2 14 40000 w'' ns7 ∧ Kp (ca w4.heap.size a2 M2 14 40000) w7 w'') := HE.out _ _ _ w7 ns7 f s A7 lt7 hs.out ev7 L7 M7 R7
    clear HE BO' hres hs ev7 A6 R6 L6 M6 D6 K7 X7 l7 c0 c1 R7 L7 M7
    go_wp2_with fail
    refine HE7.out.mono ?_
    rintro e w8 ⟨rfl, A8, K8⟩
    have D8 := D7.trans ((A7.kp_below K8).mono z5)
    clear HE7 A7 A8 K8 D7
    go_wp2_with fail
    go_ret
    exact ⟨by simp, D8⟩
  · have BD' : Hid (∀ (p : Value) (w' : World), Routes w'.heap.size w' (.slice A n cap) xs → Calls Try.prog 36 #[p, .slice A n cap, .int .i64 q] w' fun e w'' => e = .returned (.tuple #[.int .i64 0, .int .i64 c]) ∧ Below w'.heap.size w' w'') := fun p w' h => BD.out p w' c h rfl hv
    clear BO BD HC HE
    go_wp2_with fail
    refine (NW.out _).mono ?_
    rintro e w5 ⟨a2, M2, rfl, A6, hb5⟩
    have S6 := S5.step hb5
    obtain ⟨c0, c1⟩ := S6.two
    have R6 := (RR.out w5 S6).mono S6.1.size
    clear S5 hb5 NW RR A6
    go_wp2_with fail
    refine (BD'.out _ _ R6).mono ?_
    rintro e w7 ⟨rfl, hb7⟩
    have S7 := S6.step hb7
    clear BD' R6 hb7 S6 c0 c1
    rcases hv with rfl | rfl | rfl
    all_goals
      go_wp2_with fail
      go_ret
      exact ⟨by simp, S7.1⟩
end Go.Proofs.Ytgcimcpcnoojnaa


