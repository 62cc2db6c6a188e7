/-
  BddPlays: its loop.
-/
import Derived.Test.YtgcimcpcnoojnaaPlays
namespace Go.Proofs.Ytgcimcpcnoojnaa
open Go.RowKit Go.Maps

theorem Tab.lt {w : World} {tb N : Nat} {t : Nat → Bool} (h : Tab w tb N t) : tb < w.heap.size := World.rowIs.lt h
theorem wrap_less {n : Nat} (h : n ≤ 40000) : IntKind.i64.wrap ((n : Int) - 1) = (n : Int) - 1 := IntWalk.i64_in _ (by omega)

set_option maxHeartbeats 40000000 in
set_option maxRecDepth 100000 in
theorem plays_row (vars most N : Nat) (Al : Option Addr) (cap0 : Nat) (xs : List Ox) (w : World) (h1 : 1 ≤ vars) (h8 : vars ≤ 8) (hN : 2 ^ vars = N) (hm2 : 2 ≤ most) (hm4 : most ≤ 40000) (hlen : xs.length ≤ 40) (hcap : xs.length ≤ cap0) (hmax : cap0 ≤ maxLen)
    (hR : Hid (xs ≠ [] → ∃ b o, Al = some ⟨b, o, none⟩ ∧ b < w.heap.size ∧ XAt w b o xs)) :
    Calls Try.prog 3 #[.int .i64 (vars : Int), .int .i64 (most : Int), .slice Al xs.length cap0] w fun e w' => e = .returned (.bool true) ∧ Below w.heap.size w w' := by
  unfold maxLen at hmax
  have NW : Hid (Calls Try.prog 9 #[.int .i64 (vars : Int), .int .i64 (most : Int)] w fun e w' => ∃ a M, e = .returned (.tuple #[.pointer (some ⟨a, 0, none⟩), .int .i64 0]) ∧ Ar w.heap.size a M vars most w' [(vars, 0, 0), (vars, 1, 1)] ∧ Below w.heap.size w w') := new_ok w h1 (by omega) hm2 hm4
  have I0 : Hid (∀ w, Calls Try.prog 10 #[.int .i64 (vars : Int), .int .i64 1, .int .i64 16] w fun e w' => e = .returned (.bool true) ∧ w' = w) := fun w => by
    have := in_any w (vars : Int) 1 16
    rw [show (decide ((1 : Int) ≤ (vars : Int)) && decide ((vars : Int) ≤ 16)) = true by simp; omega] at this
    exact this
  have I1 : Hid (∀ w, Calls Try.prog 10 #[.int .i64 (most : Int), .int .i64 2, .int .i64 40000] w fun e w' => e = .returned (.bool true) ∧ w' = w) := fun w => by
    have := in_any w (most : Int) 2 40000
    rw [show (decide ((2 : Int) ≤ (most : Int)) && decide ((most : Int) ≤ 40000)) = true by simp; omega] at this
    exact this
  have u8 : decide ((8 : Int) < (vars : Int)) = false := by simp; omega
  have u40 : decide ((40 : Int) < (xs.length : Int)) = false := by simp; omega
  have M7 : Hid (∀ w, Calls Try.prog 11 #[.int .i64 (vars : Int), .func (.func 12) #[] #[]] w fun e w' => ∃ tb, e = .returned (.slice (some ⟨tb, 0, none⟩) N N) ∧ w.heap.size ≤ tb ∧ Tab w' tb N (fun _ => false) ∧ Below w.heap.size w w') := fun w => made_7 h8 hN ⟨fun wr b _ _ => (clo7 wr b).mono (fun _ _ ⟨e1, e2⟩ => ⟨e1, e2 ▸ Below.refl _ _⟩)⟩
  have M8 : Hid (∀ w, Calls Try.prog 11 #[.int .i64 (vars : Int), .func (.func 13) #[] #[]] w fun e w' => ∃ tb, e = .returned (.slice (some ⟨tb, 0, none⟩) N N) ∧ w.heap.size ≤ tb ∧ Tab w' tb N (fun _ => true) ∧ Below w.heap.size w w') := fun w => made_8 h8 hN ⟨fun wr b _ _ => (clo8 wr b).mono (fun _ _ ⟨e1, e2⟩ => ⟨e1, e2 ▸ Below.refl _ _⟩)⟩
  have HB : Hid (vars ≤ 8 ∧ 2 ^ vars = N ∧ N ≤ 256) := ⟨h8, hN, by
    have : 2 ^ vars ≤ 2 ^ 8 := Nat.pow_le_pow_right (by omega) h8
    omega⟩
  clear h1 h8 hN hm2 hm4
  go_enter Try.func3, Try.ntmps3
  go_wp2_with fail
  refine NW.out.mono ?_
  rintro e w1 ⟨a, M, rfl, A1, D1⟩
  clear NW
  go_wp2_with (first | (go_at_call_of 10 (Value.int .i64 (vars : Int)); refine (I0.out _).mono ?_; rintro e w' ⟨rfl, rfl⟩) | (go_at_call_of 10 (Value.int .i64 (most : Int)); refine (I1.out _).mono ?_; rintro e w' ⟨rfl, rfl⟩))
  clear I0 I1
  refine (M7.out _).mono ?_
  rintro e w2 ⟨t0, rfl, hl0, T0, hb2⟩
  have A2 := A1.below hb2
  have D2 := Below.chn D1 hb2
  clear M7 A1 D1 hb2
  go_wp2_with fail
  refine (M8.out _).mono ?_
  rintro e w3 ⟨t1, rfl, hl1, T1, hb3⟩
  have A3 := A2.below hb3
  have D3 := Below.chn D2 hb3
  have S3 : Hid (St w.heap.size a M vars most N (w3.alloc (.cells #[.int .i64 0, .slice (some ⟨t0, 0, none⟩) N N, .int .i64 1, .slice (some ⟨t1, 0, none⟩) N N] 33)) [(vars, 0, 0), (vars, 1, 1)] w3.heap.size 2 [⟨0, t0, fun _ => false⟩, ⟨1, t1, fun _ => true⟩]) := St.start A3 HB.out.1 HB.out.2.1 D3.size (Tab.below T0 hb3) T1
  have D4 := Below.al D3 (.cells #[.int .i64 0, .slice (some ⟨t0, 0, none⟩) N N, .int .i64 1, .slice (some ⟨t1, 0, none⟩) N N] 33)
  clear M8 A2 D2 hb3 A3 D3 T0 T1 hl0 hl1
  go_wp2_with fail
  go_loopw [9, 72] (fun v i wr => ∃ (k : Nat) (ns : List Nd) (K cap : Nat) (ks : List En), i = .int .i64 (k : Int) ∧ v = .slice (some ⟨K, 0, none⟩) ks.length cap ∧ k ≤ xs.length ∧ ks.length ≤ 2 + k ∧ Below w.heap.size w wr ∧ Hid (St w.heap.size a M vars most N wr ns K cap ks)) (fun _ i _ => xs.length - (intOf i).toNat)
  case atStart => exact ⟨0, _, _, _, _, rfl, rfl, by omega, by simp, D4, S3⟩
  case round =>
    clear S3 D4
    obtain ⟨k, ns, K, cap, ks, rfl, rfl, hk, hks, D1, hS⟩ := hrel
    by_cases hlt : k < xs.length
    · obtain ⟨b, o, rfl, hb, hr⟩ := hR.out (fun e => by subst e; simp at hlt)
      obtain ⟨x, hxk⟩ : ∃ x, xs[k]? = some x := ⟨_, List.getElem?_eq_getElem hlt⟩
      obtain ⟨c0, c1, c2, c3⟩ := (hr.below D1 hb).at hxk
      have S1 : Hid (St w.heap.size a M vars most N (wr.alloc (.cells #[.int .i64 x.k, .int .i64 x.a, .int .i64 x.b, .int .i64 x.c] 36)) ns K cap ks) := hS.out.below (Below.al (Below.refl _ _) _)
      have X1 := xb_new hS.out.ar x.k x.a x.b x.c 36
      have D2 := Below.al D1 (.cells #[.int .i64 x.k, .int .i64 x.a, .int .i64 x.b, .int .i64 x.c] 36)
      have lw := D1.size
      clear hr hxk hS hR
      generalize x.k = q at *
      generalize x.a = A at *
      generalize x.b = B at *
      generalize x.c = C at *
      obtain ⟨_, e0, e1, e2, e3⟩ := id X1
      by_cases hq7 : q = 7
      · subst hq7
        have hl4 : ns.length ≤ 40000 := Nat.le_trans S1.out.ar.le S1.out.ar.most4
        have l2 := S1.out.ar.wf.len
        have hw := wrap_less hl4
        have SZ : Hid (Calls Try.prog 14 #[.pointer (some ⟨a, 0, none⟩)] (wr.alloc (.cells #[.int .i64 7, .int .i64 A, .int .i64 B, .int .i64 C] 36)) fun e w' => e = .returned (.int .i64 (ns.length : Int)) ∧ w' = (wr.alloc (.cells #[.int .i64 7, .int .i64 A, .int .i64 B, .int .i64 C] 36))) := size_any S1.out.ar
        have JA : Hid (∀ w, Calls Try.prog 10 #[.int .i64 A, .int .i64 0, .int .i64 ((ns.length : Int) - 1)] w fun e w' => e = .returned (.bool (decide ((0 : Int) ≤ A) && decide (A ≤ (ns.length : Int) - 1))) ∧ w' = w) := fun w => in_any w A 0 _
        have JB : Hid (∀ w, Calls Try.prog 10 #[.int .i64 B, .int .i64 0, .int .i64 ((ns.length : Int) - 1)] w fun e w' => e = .returned (.bool (decide ((0 : Int) ≤ B) && decide (B ≤ (ns.length : Int) - 1))) ∧ w' = w) := fun w => in_any w B 0 _
        by_cases hin : ((0 ≤ A ∧ A ≤ (ns.length : Int) - 1) ∧ (0 ≤ B ∧ B ≤ (ns.length : Int) - 1))
        · have AN : Hid (Calls Try.prog 15 #[.pointer (some ⟨a, 0, none⟩), .int .i64 A, .int .i64 B] (wr.alloc (.cells #[.int .i64 7, .int .i64 A, .int .i64 B, .int .i64 C] 36)) fun e w' => ∃ (r er : Int) (ns' : List Nd), e = .returned (.tuple #[.int .i64 r, .int .i64 er]) ∧ Hid (Ar w.heap.size a M vars most w' ns' ∧ Kp (ca w.heap.size a M vars most) (wr.alloc (.cells #[.int .i64 7, .int .i64 A, .int .i64 B, .int .i64 C] 36)) w' ∧ Ext ns ns')) := by
            obtain ⟨f, rfl⟩ : ∃ f : Nat, A = f := ⟨A.toNat, by omega⟩
            obtain ⟨g, rfl⟩ : ∃ g : Nat, B = g := ⟨B.toNat, by omega⟩
            refine (and_ok S1.out.ar (f := f) (g := g) (by omega) (by omega)).mono ?_
            rintro e w' ⟨ns', r1, r2, r3, _, ⟨h, e1, _⟩ | ⟨e1, _⟩⟩
            · exact ⟨h, 0, ns', e1, r1, r2, r3⟩
            · exact ⟨0, 6, ns', e1, r1, r2, r3⟩
          rw [show (decide ((0 : Int) ≤ A) && decide (A ≤ (ns.length : Int) - 1)) = true by simp; omega] at JA
          rw [show (decide ((0 : Int) ≤ B) && decide (B ≤ (ns.length : Int) - 1)) = true by simp; omega] at JB
          clear hin hl4 l2
          go_wp2_with fail
          refine SZ.out.mono ?_
          rintro e w5 ⟨rfl, rfl⟩
          go_wp2_with fail
          refine AN.out.mono ?_
          rintro e w6 ⟨r, er, ns', rfl, hA⟩
          have X6 := X1.kp hA.out.2.1
          have S6 : Hid (St w.heap.size a M vars most N w6 ns' K cap ks) := S1.out.kp hA.out.1 hA.out.2.1 hA.out.2.2
          have D6 := D2.trans (S1.out.ar.kp_below hA.out.2.1)
          clear AN SZ hA S1 X1 D2 e0 e1 e2 e3 c0 c1 c2 c3
          obtain ⟨_, e0, e1, e2, e3⟩ := X6
          go_wp2_with (first | (go_at_call_of 10 (Value.int .i64 A); refine (JA.out _).mono ?_; rintro e w' ⟨rfl, rfl⟩) | (go_at_call_of 10 (Value.int .i64 B); refine (JB.out _).mono ?_; rintro e w' ⟨rfl, rfl⟩))
          go_roundw
          case rel => exact ⟨k + 1, ns', K, cap, ks, by go_num, rfl, by omega, by omega, D6, S6⟩
          case measure => simp [intOf]; omega
        · have AN : Hid (Calls Try.prog 15 #[.pointer (some ⟨a, 0, none⟩), .int .i64 A, .int .i64 B] (wr.alloc (.cells #[.int .i64 7, .int .i64 A, .int .i64 B, .int .i64 C] 36)) fun e w' => e = .returned (.tuple #[.int .i64 0, .int .i64 1]) ∧ w' = (wr.alloc (.cells #[.int .i64 7, .int .i64 A, .int .i64 B, .int .i64 C] 36))) := and_bad S1.out.ar (by simp; omega)
          have hb2 : ((decide ((0 : Int) ≤ A) && decide (A ≤ (ns.length : Int) - 1)) && (decide ((0 : Int) ≤ B) && decide (B ≤ (ns.length : Int) - 1))) = false := by
            rw [Bool.eq_false_iff]
            simp only [ne_eq, Bool.and_eq_true, decide_eq_true_eq]
            exact hin
          clear hin hl4 l2
          generalize (decide ((0 : Int) ≤ A) && decide (A ≤ (ns.length : Int) - 1)) = y0 at *
          generalize (decide ((0 : Int) ≤ B) && decide (B ≤ (ns.length : Int) - 1)) = y1 at *
          cases y0
          · clear hb2
            go_wp2_with fail
            refine SZ.out.mono ?_
            rintro e w5 ⟨rfl, rfl⟩
            go_wp2_with fail
            refine AN.out.mono ?_
            rintro e w6 ⟨rfl, rfl⟩
            clear AN SZ
            go_wp2_with (go_at_call_of 10 (Value.int .i64 A); refine (JA.out _).mono ?_; rintro e w' ⟨rfl, rfl⟩)
            go_roundw
            case rel => exact ⟨k + 1, ns, K, cap, ks, by go_num, rfl, by omega, by omega, D2, S1⟩
            case measure => simp [intOf]; omega
          · cases y1
            · clear hb2
              go_wp2_with fail
              refine SZ.out.mono ?_
              rintro e w5 ⟨rfl, rfl⟩
              go_wp2_with fail
              refine AN.out.mono ?_
              rintro e w6 ⟨rfl, rfl⟩
              clear AN SZ
              go_wp2_with (first | (go_at_call_of 10 (Value.int .i64 A); refine (JA.out _).mono ?_; rintro e w' ⟨rfl, rfl⟩) | (go_at_call_of 10 (Value.int .i64 B); refine (JB.out _).mono ?_; rintro e w' ⟨rfl, rfl⟩))
              go_roundw
              case rel => exact ⟨k + 1, ns, K, cap, ks, by go_num, rfl, by omega, by omega, D2, S1⟩
              case measure => simp [intOf]; omega
            · cases hb2
      · have t7 : (q == 7) = false := by simpa using hq7
        cases t0 : decide (q < 0)
        · cases t8 : decide (7 < q)
          · have TT : Hid (Calls Try.prog 16 #[.int .i64 (vars : Int), .slice (some ⟨K, 0, none⟩) ks.length cap, .agg #[.int .i64 q, .int .i64 A, .int .i64 B, .int .i64 C]] (wr.alloc (.cells #[.int .i64 q, .int .i64 A, .int .i64 B, .int .i64 C] 36)) (TOut w.heap.size a M vars most N (wr.alloc (.cells #[.int .i64 q, .int .i64 A, .int .i64 B, .int .i64 C] 36)) ns (.agg #[.int .i64 q, .int .i64 A, .int .i64 B, .int .i64 C]))) := step_any S1.out q A B C (by simp at t0; omega) (by simp at t8; omega)
            clear hq7
            go_wp2_with fail
            refine TT.out.mono ?_
            rintro e w3 ⟨vt, vi, ok, rfl, hb3, hh⟩
            have S3 : Hid (St w.heap.size a M vars most N w3 ns K cap ks) := S1.out.below hb3
            have X3 := X1.kp (S1.out.ar.kbelow hb3)
            have D3 := Below.chn D2 hb3
            clear TT D2 e0 e1 e2 e3 c0 c1 c2 c3
            obtain ⟨_, e0, e1, e2, e3⟩ := id X3
            rcases hh.out with ⟨rfl, tb, t, rfl, htb, hT, AK⟩ | ⟨rfl, AK⟩
            · have AK' : Hid (Calls Try.prog 17 #[.pointer (some ⟨a, 0, none⟩), vi, .agg #[.int .i64 q, .int .i64 A, .int .i64 B, .int .i64 C]] w3 fun e w'' => ∃ r er : Int, e = .returned (.tuple #[.int .i64 r, .int .i64 er]) ∧ Hid (AOut w.heap.size a M vars most N w3 ns t r er w'')) := AK
              have hO : Out (ca w.heap.size a M vars most) w3 tb := S1.out.ar.newOut hb3 htb hT.lt
              clear hh AK S1 X1 hb3 htb
              go_wp2_with fail
              refine AK'.out.mono ?_
              rintro e w4 ⟨r, er, rfl, hq⟩
              obtain ⟨ns4, A4, K4, X4, hres⟩ := hq.out
              have S4 : Hid (St w.heap.size a M vars most N w4 ns4 K cap ks) := S3.out.kp A4 K4 X4
              have D4 := D3.trans (S3.out.ar.kp_below K4)
              have T4 : Hid (Tab w4 tb N t) := hT.kp hO K4
              have O4 := hO.kp K4
              clear AK' hq S3 X3 D3 hT hO K4 X4 e0 e1 e2 e3
              rcases hres with ⟨rfl, f, rfl, hf, hE⟩ | ⟨rfl, rfl, hfull⟩
              · have RG : Hid (Calls Try.prog 18 #[.pointer (some ⟨a, 0, none⟩), .int .i64 (vars : Int), .int .i64 (f : Int), .slice (some ⟨tb, 0, none⟩) N N] w4 fun e w' => e = .returned (.bool true) ∧ Ar w.heap.size a M vars most w' ns4 ∧ Kp (ca w.heap.size a M vars most) w4 w') := right_ok A4 HB.out.1 HB.out.2.1 hf T4.out O4 hE
                have HE : Hid (∀ b, b < N → ev ns4 f (envOf vars b) = t b) := hE
                clear hE A4
                go_wp2_with fail
                refine RG.out.mono ?_
                rintro e w5 ⟨rfl, A5, K5⟩
                have S5 : Hid (St w.heap.size a M vars most N w5 ns4 K cap ks) := S4.out.kp A5 K5 (Ext.refl _)
                have D5 := D4.trans (S4.out.ar.kp_below K5)
                have T5 : Hid (Tab w5 tb N t) := T4.out.kp O4 K5
                have O5 := O4.kp K5
                have lD5 := D5.size
                clear RG S4 D4 T4 O4 A5 K5
                go_wp2_with fail
                go_loopw [169] (fun i wr => ∃ j : Nat, i = .int .i64 (j : Int) ∧ j ≤ ks.length ∧ Below w5.heap.size w5 wr) (fun i _ => ks.length - (intOf i).toNat)
                case atStart => exact ⟨0, rfl, by omega, Below.refl _ _⟩
                case round =>
                  obtain ⟨j, rfl, hj, E1⟩ := hrel
                  have S6 := S5.out.below E1
                  by_cases hjl : j < ks.length
                  · obtain ⟨y, hyj⟩ : ∃ y, ks[j]? = some y := ⟨_, List.getElem?_eq_getElem hjl⟩
                    obtain ⟨g0, g1⟩ := S6.cells hyj
                    have hmem : y ∈ ks := List.mem_of_getElem? hyj
                    have B1 := Below.al (Below.refl wr.heap.size wr) (.cells #[.int .i64 (y.id : Int), .slice (some ⟨y.tb, 0, none⟩) N N] 33)
                    have B2 := B1.drew
                    have E2 := Below.al E1 (.cells #[.int .i64 (y.id : Int), .slice (some ⟨y.tb, 0, none⟩) N N] 33)
                    have two : (wr.alloc (.cells #[.int .i64 (y.id : Int), .slice (some ⟨y.tb, 0, none⟩) N N] 33)).cell? ⟨wr.heap.size, 0, none⟩ = some (.int .i64 (y.id : Int)) ∧ (wr.alloc (.cells #[.int .i64 (y.id : Int), .slice (some ⟨y.tb, 0, none⟩) N N] 33)).cell? ⟨wr.heap.size, 1, none⟩ = some (.slice (some ⟨y.tb, 0, none⟩) N N) := ⟨by simp [go_sem], by simp [go_sem]⟩
                    have KP : Hid (∀ W', Below (wr.alloc (.cells #[.int .i64 (y.id : Int), .slice (some ⟨y.tb, 0, none⟩) N N] 33)).heap.size (wr.alloc (.cells #[.int .i64 (y.id : Int), .slice (some ⟨y.tb, 0, none⟩) N N] 33)) W' → (fun w' : World => w'.cell? ⟨wr.heap.size, 0, none⟩ = some (.int .i64 (y.id : Int)) ∧ w'.cell? ⟨wr.heap.size, 1, none⟩ = some (.slice (some ⟨y.tb, 0, none⟩) N N)) W') := fun W' hW => ⟨(hW.cell (p := ⟨wr.heap.size, 0, none⟩) (by simp)).trans two.1, (hW.cell (p := ⟨wr.heap.size, 1, none⟩) (by simp)).trans two.2⟩
                    have EQ : Hid (∀ W', Below w5.heap.size w5 W' → Calls Try.prog 19 #[.slice (some ⟨y.tb, 0, none⟩) N N, .slice (some ⟨tb, 0, none⟩) N N] W' fun e w' => e = .returned (.bool ((y.id : Int) == (f : Int))) ∧ Below W'.heap.size W' w') := fun W' hW => by
                      refine (equal_ok (Tab.below (S5.out.ent y hmem).2.1 hW) (Tab.below T5.out hW) HB.out.2.2).mono ?_
                      rintro e w' ⟨rr, rfl, hrr, hbb⟩
                      refine ⟨?_, hbb⟩
                      have hs := S5.out.same hmem hf HE.out
                      have : rr = ((y.id : Int) == (f : Int)) := by
                        rw [Bool.eq_iff_iff, hrr, ← hs, beq_iff_eq]
                        omega
                      rw [this]
                    have E3 : Below w5.heap.size w5 (wr.alloc (.cells #[.int .i64 (y.id : Int), .slice (some ⟨y.tb, 0, none⟩) N N] 33)).drew := E2.drew
                    have R0 : Below (wr.alloc (.cells #[.int .i64 (y.id : Int), .slice (some ⟨y.tb, 0, none⟩) N N] 33)).heap.size (wr.alloc (.cells #[.int .i64 (y.id : Int), .slice (some ⟨y.tb, 0, none⟩) N N] 33)) (wr.alloc (.cells #[.int .i64 (y.id : Int), .slice (some ⟨y.tb, 0, none⟩) N N] 33)).drew := (Below.refl _ _).drew
                    have j1 : (0 : Int) ≤ (j : Int) := by omega
                    have j2 : (j : Int) < (ks.length : Int) := by omega
                    clear hyj hmem S6 two B1 B2
                    generalize y.id = yid at *
                    generalize y.tb = ytb at *
                    go_wp2_with fail
                    go_region_held3 (fun w' : World => w'.cell? ⟨wr.heap.size, 0, none⟩ = some (.int .i64 (yid : Int)) ∧ w'.cell? ⟨wr.heap.size, 1, none⟩ = some (.slice (some ⟨ytb, 0, none⟩) N N)) (exact KP.out _ (by assumption))
                      (first | (go_at_call 19; refine (EQ.out _ (by assumption)).mono ?_; rintro e wn ⟨rfl, hnn⟩; have En' : Below w5.heap.size w5 wn := Below.chn (by assumption) hnn; have Rn : Below (wr.alloc (.cells #[.int .i64 (yid : Int), .slice (some ⟨ytb, 0, none⟩) N N] 33)).heap.size (wr.alloc (.cells #[.int .i64 (yid : Int), .slice (some ⟨ytb, 0, none⟩) N N] 33)) wn := Below.chn (by assumption) hnn))
                    go_wp2_with fail
                    go_roundw
                    case rel => exact ⟨j + 1, by go_num, by omega, En'⟩
                    case measure => simp [intOf]; omega
                  · have hT6 := Tab.below T5.out E1
                    have hO6 := O5.kp (S5.out.ar.kbelow E1)
                    have D6 := Below.chn D5 E1
                    obtain ⟨K', cap', w9, hrun, hS9, hD9⟩ := S6.push (by omega) hf hT6 hO6 HE.out D6.size
                    have D9 := D6.trans hD9
                    clear S6 hT6 hO6 D6 hD9 S5 T5 O5 HE
                    obtain rfl : j = ks.length := by omega
                    go_wp2_with (at_builtin; refine append_run rfl _ _ 34 rfl rfl rfl hrun ?_)
                    go_roundw
                    case rel => exact ⟨k + 1, ns4, K', cap', ks ++ [⟨f, tb, t⟩], by go_num, by simp, by omega, by simp; omega, D9, hS9⟩
                    case measure => simp [intOf]; omega
              · have SZ : Hid (Calls Try.prog 14 #[.pointer (some ⟨a, 0, none⟩)] w4 fun e w' => e = .returned (.int .i64 (most : Int)) ∧ w' = w4) := by
                  have := size_any A4
                  rw [hfull] at this
                  exact this
                clear A4 hfull T4 O4
                go_wp2_with fail
                refine SZ.out.mono ?_
                rintro e w5 ⟨rfl, rfl⟩
                clear SZ
                go_wp2_with fail
                go_roundw
                case rel => exact ⟨k + 1, ns4, K, cap, ks, by go_num, rfl, by omega, by omega, D4, S4⟩
                case measure => simp [intOf]; omega
            · have AK' : Hid (Calls Try.prog 17 #[.pointer (some ⟨a, 0, none⟩), vi, .agg #[.int .i64 q, .int .i64 A, .int .i64 B, .int .i64 C]] w3 fun e w'' => ∃ r er : Int, e = .returned (.tuple #[.int .i64 r, .int .i64 er]) ∧ Hid (BOut w.heap.size a M vars most w3 ns r er w'')) := AK
              clear hh AK S1 X1 hb3
              go_wp2_with fail
              refine AK'.out.mono ?_
              rintro e w4 ⟨r, er, rfl, hq⟩
              obtain ⟨rfl, rfl, A4, K4⟩ := hq.out
              have S4 : Hid (St w.heap.size a M vars most N w4 ns K cap ks) := S3.out.kp A4 K4 (Ext.refl _)
              have D4 := D3.trans (S3.out.ar.kp_below K4)
              clear AK' hq S3 X3 D3 A4 K4 e0 e1 e2 e3
              go_wp2_with fail
              go_roundw
              case rel => exact ⟨k + 1, ns, K, cap, ks, by go_num, rfl, by omega, by omega, D4, S4⟩
              case measure => simp [intOf]; omega
          · clear hq7
            go_wp2_with fail
            go_roundw
            case rel => exact ⟨k + 1, ns, K, cap, ks, by go_num, rfl, by omega, by omega, D2, S1⟩
            case measure => simp [intOf]; omega
        · clear hq7
          go_wp2_with fail
          go_roundw
          case rel => exact ⟨k + 1, ns, K, cap, ks, by go_num, rfl, by omega, by omega, D2, S1⟩
          case measure => simp [intOf]; omega
    · go_wp2_with fail
      go_ret
      exact ⟨rfl, D1⟩
end Go.Proofs.Ytgcimcpcnoojnaa


