/-
  StepNat: its walk.
-/
import Derived.Test.YtepfckicaafilaaSg6
namespace Go.Proofs.Ytepfckicaafilaa
open Go.RowKit Go.Maps
set_option maxHeartbeats 8000000 in
set_option maxRecDepth 100000 in
theorem nat_some (A : Addr) (B : Option Addr) (cap cap' : Nat) (ps : List Pk) (cs : List Int) (ad : Int) (pl : Nat) (hl : pl < 256) (w : World) (hP : Hid (SlAt w.heap.size w 4 IsPk (.slice (some A) ps.length cap) ps)) (hC : Hid (SlAt w.heap.size w 1 IsIk (.slice B cs.length cap') cs)) :
    Calls Try.prog 4 #[.int .i64 ad, .int .u8 (pl : Int), .slice (some A) ps.length cap, .slice B cs.length cap'] w fun e w' => e = .returned (.bool true) ∧ Below w.heap.size w w' := by
  have RS : Hid (∀ (x : Int) W, Calls Try.prog 16 #[.int .i64 x, .int .i64 16] W fun e w' => e = .returned (.int .i64 (x % 16)) ∧ Below W.heap.size W w') := fun x W => rest_any x W
  obtain ⟨pm, hpm, hor⟩ : ∃ pm : Nat, Hid (pm = pl ||| 1) ∧ Go.bits .or .u8 (pl : Int) 1 = (pm : Int) := ⟨_, rfl, bits_or1 pl hl⟩
  have hm : pm < 256 := by rw [hpm.out]; exact or1_lt hl
  have ha0 : 0 ≤ ad % 16 := by omega
  have ha1 : ad % 16 ≤ 15 := by omega
  have HN : Hid (netV (chainD (natD (ad % 16) pm hm)) chainL = 0) := nat_netV ha0 ha1 (by rw [hpm.out]; exact or1_pos pl)
  have HA : Hid (AddrsOk (chainD (natD (ad % 16) pm hm))) := addrs_nat ha0 ha1
  have nilS : ∀ {α : Type} (W : World) (n : Nat) (R : List Value → α → Prop), SlAt W.heap.size W n R (.slice none 0 0) [] := fun W n R => ⟨none, 0, rfl, fun _ => rfl, Nat.le_refl _, Nat.zero_le _, fun h => absurd rfl h⟩
  have CH : Hid (∀ (W : World), Calls Try.prog 8 #[.agg #[.string ⟨#[]⟩, .int .i64 4, .int .i64 (ad % 16), .int .u8 (pm : Int), .slice none 0 0, .slice none 0 0, .slice none 0 0]] W fun e w' => ∃ b b', e = .returned (.agg #[.slice (some ⟨b, 0, none⟩) 3 3, .slice (some ⟨b', 0, none⟩) 2 2]) ∧ Devs w'.heap.size w' (.slice (some ⟨b, 0, none⟩) 3 3) (chainD (natD (ad % 16) pm hm)) ∧ Links w'.heap.size w' (.slice (some ⟨b', 0, none⟩) 2 2) chainL ∧ Below W.heap.size W w') := fun W => chain_any (natD (ad % 16) pm hm) (.slice none 0 0) (.slice none 0 0) (.slice none 0 0) W (nilS _ _ _) (nilS _ _ _) (nilS _ _ _)
  have NW : Hid (∀ (b b' : Nat) (W : World), Devs W.heap.size W (.slice (some ⟨b, 0, none⟩) 3 3) (chainD (natD (ad % 16) pm hm)) → Links W.heap.size W (.slice (some ⟨b', 0, none⟩) 2 2) chainL → Calls Try.prog 7 #[.agg #[.slice (some ⟨b, 0, none⟩) 3 3, .slice (some ⟨b', 0, none⟩) 2 2]] W (NewOut W (chainD (natD (ad % 16) pm hm)) chainL)) := fun b b' W h1 h2 => new_any (some ⟨b, 0, none⟩) (some ⟨b', 0, none⟩) 3 2 (chainD (natD (ad % 16) pm hm)) chainL W h1 h2
  have HA1 : Hid (0 ≤ ad % 16 ∧ ad % 16 ≤ 15) := ⟨ha0, ha1⟩
  clear ha0 ha1 nilS
  have HPC : Hid (∀ (k : Nat) (p : Pk) W, Below w.heap.size w W → ps[k]? = some p → ∃ b o, A = ⟨b, o, none⟩ ∧ W.cell? ⟨b, o + k * 4, none⟩ = some (.int .i64 p.s) ∧ W.cell? ⟨b, o + k * 4 + 1, none⟩ = some (.int .i64 p.d) ∧ W.cell? ⟨b, o + k * 4 + 2, none⟩ = some (.int .i64 p.sp) ∧ W.cell? ⟨b, o + k * 4 + 3, none⟩ = some (.int .i64 p.dp)) := fun k p W hb hk => by
    obtain ⟨_, _, e, _, _, _, h3⟩ := hP.out
    cases e
    obtain ⟨b, o, ea, hl, hr⟩ := h3 (fun e => by rw [e] at hk; cases hk)
    obtain ⟨cs, _, rfl, hc⟩ := hr k p hk
    exact ⟨b, o, Option.some.inj ea, (hb.cell (p := ⟨b, _, none⟩) hl).trans (hc 0 _ rfl), (hb.cell (p := ⟨b, _, none⟩) hl).trans (hc 1 _ rfl), (hb.cell (p := ⟨b, _, none⟩) hl).trans (hc 2 _ rfl), (hb.cell (p := ⟨b, _, none⟩) hl).trans (hc 3 _ rfl)⟩
  have HCC : Hid (∀ (k : Nat) (c : Int) W, Below w.heap.size w W → cs[k]? = some c → ∃ b o, B = some ⟨b, o, none⟩ ∧ W.cell? ⟨b, o + k, none⟩ = some (.int .i64 c) ∧ i64ok c) := fun k c W hb hk => by
    obtain ⟨_, _, e, _, _, _, h3⟩ := hC.out
    cases e
    obtain ⟨b, o, ea, hl, hr⟩ := h3 (fun e => by rw [e] at hk; cases hk)
    obtain ⟨cs, _, ⟨rfl, hi⟩, hc⟩ := hr k c hk
    have := hc 0 _ rfl
    rw [Nat.mul_one] at this
    exact ⟨b, o, ea, (hb.cell (p := ⟨b, _, none⟩) hl).trans this, hi⟩
  go_enter Try.func4, Try.ntmps4
  go_wp2_with fail
  refine (RS.out _ _).mono ?_
  rintro e w1 ⟨rfl, hb1⟩
  have D1 := Below.alN hb1 (.cells #[.string ⟨#[]⟩, .int .i64 4, .int .i64 (ad % 16), .int .u8 (pm : Int), .slice none 0 0, .slice none 0 0, .slice none 0 0] 43)
  have X1 := bk_new w1 #[.string ⟨#[]⟩, .int .i64 4, .int .i64 (ad % 16), .int .u8 (pm : Int), .slice none 0 0, .slice none 0 0, .slice none 0 0] 43
  have zw := hb1.size
  clear hb1 RS
  go_wp2_with fail
  refine (CH.out _).mono ?_
  rintro e w2 ⟨b1, b2, rfl, hD2, hL2, hb2⟩
  have D2 := chnN hb2 D1
  have X2' := X1.keep hb2
  generalize hN0 : w1.heap.size = N at *
  clear hb2 D1 X1 CH
  go_wp2_with fail
  refine (NW.out _ _ _ hD2 hL2).mono ?_
  rintro e w3 ⟨hb3, hN⟩
  have D3 := chnN hb3 D2
  have X3' := X2'.keep hb3
  have z2 := D2.size
  clear hb3 D2 X2' hD2 hL2 NW
  rcases hN with ⟨hne, _⟩ | ⟨_, m, rfl, hM, lo1, lo2, lo3, _⟩
  · exact absurd HN.out hne
  have lo : w.heap.size ≤ m.f ∧ w.heap.size ≤ m.o ∧ w.heap.size ≤ m.k := ⟨by omega, by omega, by omega⟩
  clear lo1 lo2 lo3
  have hcap : ps.length ≤ cap := by obtain ⟨_, _, e, _, h1, _⟩ := hP.out; cases e; exact h1
  have hcm : cap ≤ maxLen := by obtain ⟨_, _, e, _, _, h2, _⟩ := hP.out; cases e; exact h2
  unfold maxLen at hcm
  have hmm := @run_makeMap Try.prog
  go_upto_region 6 with fail
  go_cut [42, 43, 44] (fun v42 v43 v44 wx => ∃ K : Nat, v42 = .slice (some A) K cap ∧ v43 = .int .i64 (K : Int) ∧ v44 = .int .i64 0 ∧ K ≤ 30 ∧ K ≤ ps.length ∧ wx = w3.alloc (.map #[] 0))
  case first =>
    by_cases h30 : 30 < ps.length
    · have hu1 : ¬ (ps.length : Int) ≤ 30 := by omega
      have hu2 : ¬ ps.length ≤ 30 := by omega
      go_wp2_with fail
      all_goals first | (exfalso; omega) | skip
      all_goals go_meet
      all_goals exact ⟨30, rfl, rfl, rfl, by omega, by omega, rfl⟩
    · have hu1 : (ps.length : Int) ≤ 30 := by omega
      have hu2 : ps.length ≤ 30 := by omega
      go_wp2_with fail
      all_goals first | (exfalso; omega) | skip
      all_goals go_meet
      all_goals first | exact ⟨ps.length, rfl, rfl, rfl, by omega, by omega, rfl⟩ | exact ⟨30, by first | rfl | simp, by first | rfl | simp, by first | rfl | simp, by omega, by omega, rfl⟩
  case rest =>
    obtain ⟨K, rfl, rfl, rfl, hK, hKl, rfl⟩ := hcut
    have D4 := Below.alN D3 (.map #[] 0)
    have F4 := mapAt_made intE pktV w3
    have M4 := hM.alloc (.map #[] 0)
    have X4 := X3'.alloc (.map #[] 0)
    have GN : Hid (w3.heap.size ≠ m.f ∧ w3.heap.size ≠ m.o ∧ w3.heap.size ≠ m.k) := ⟨by have := hM.fl.lt; omega, by have := hM.ow.lt; omega, by have := hM.bk.lt; omega⟩
    have GL : Hid (w.heap.size ≤ w3.heap.size) := D3.size
    have LO : Hid (w.heap.size ≤ m.f ∧ w.heap.size ≤ m.o ∧ w.heap.size ≤ m.k) := lo
    have PLC : Hid (∀ (x y : Int) W, Calls Try.prog 11 #[.int .i64 x, .int .i64 y] W fun e w' => e = .returned (plA x y) ∧ Below W.heap.size W w') := fun x y W => place_any x y W
    generalize w3.heap.size = G at *
    generalize w3.alloc (.map #[] 0) = w4 at *
    generalize ad % 16 = a at *
    clear D3 X3' hM lo z2 zw hcap hcm hmm hN0
    go_wp2_with fail
    go_loopw [44] (fun i wr => ∃ (k n q : Nat) (M : Mnd), i = .int .i64 (k : Int) ∧ k ≤ K ∧ n ≤ 2 * k ∧ q ≤ k ∧ MemAt wr m (chainD (natD a pm hm)) chainL n M ∧ Bk wr N #[.string ⟨#[]⟩, .int .i64 4, .int .i64 a, .int .u8 (pm : Int), .slice none 0 0, .slice none 0 0, .slice none 0 0] 43 ∧ Below w.heap.size w wr ∧ MapAt intE pktV wr G q (ownerOf M) ∧ Hid (NatM pm M)) (fun i _ => K - (intOf i).toNat)
    case atStart => exact ⟨0, 0, 0, noM, rfl, by omega, by omega, by omega, M4, X4, D4, F4, natM_no⟩
    case round =>
      clear D4 F4 M4 X4
      obtain ⟨k, n, q, M, rfl, hk, hn, hq, M1, X1, D1, F1, HM⟩ := hrel
      by_cases hlt : k < K
      rotate_left
      · as_aux_lemma =>
          have zX := X1.lt
          have hX : Hid (∀ W W', KT wr.heap.size W W' → (fun W => Bk W N #[.string ⟨#[]⟩, .int .i64 4, .int .i64 a, .int .u8 (pm : Int), .slice none 0 0, .slice none 0 0, .slice none 0 0] 43) W → (fun W => Bk W N #[.string ⟨#[]⟩, .int .i64 4, .int .i64 a, .int .u8 (pm : Int), .slice none 0 0, .slice none 0 0, .slice none 0 0] 43) W') := fun _ _ hk hx => Bk.kt hx hk zX
          have S0 : NSt w wr.heap.size (fun W => Bk W N #[.string ⟨#[]⟩, .int .i64 4, .int .i64 a, .int .u8 (pm : Int), .slice none 0 0, .slice none 0 0, .slice none 0 0] 43) m (chainD (natD a pm hm)) chainL G n M q (ownerOf M) wr := ⟨LSt.new (w := w) (X := (fun W => Bk W N #[.string ⟨#[]⟩, .int .i64 4, .int .i64 a, .int .u8 (pm : Int), .slice none 0 0, .slice none 0 0, .slice none 0 0] 43)) M1 X1 D1 LO.out, F1, GN.out⟩
          generalize hT : wr.heap.size = T at S0 hX
          clear hT zX M1 X1 D1 F1
          have KP : ∀ {n : Nat} {M : Mnd} {q : Nat} {F : Int → Option Pk} {W W' : World}, NSt w T (fun W => Bk W N #[.string ⟨#[]⟩, .int .i64 4, .int .i64 a, .int .u8 (pm : Int), .slice none 0 0, .slice none 0 0, .slice none 0 0] 43) m (chainD (natD a pm hm)) chainL G n M q F W → Below W.heap.size W W' → NSt w T (fun W => Bk W N #[.string ⟨#[]⟩, .int .i64 4, .int .i64 a, .int .u8 (pm : Int), .slice none 0 0, .slice none 0 0, .slice none 0 0] 43) m (chainD (natD a pm hm)) chainL G n M q F W' := fun h hb => h.keep hX hb
          have AL : ∀ {n : Nat} {M : Mnd} {q : Nat} {F : Int → Option Pk} {W : World} (o : Obj), NSt w T (fun W => Bk W N #[.string ⟨#[]⟩, .int .i64 4, .int .i64 a, .int .u8 (pm : Int), .slice none 0 0, .slice none 0 0, .slice none 0 0] 43) m (chainD (natD a pm hm)) chainL G n M q F W → NSt w T (fun W => Bk W N #[.string ⟨#[]⟩, .int .i64 4, .int .i64 a, .int .u8 (pm : Int), .slice none 0 0, .slice none 0 0, .slice none 0 0] 43) m (chainD (natD a pm hm)) chainL G n M q F (W.alloc o) := fun o h => h.alloc hX o
          have BE : ∀ {n : Nat} {M : Mnd} {q : Nat} {F : Int → Option Pk} {W : World}, NSt w T (fun W => Bk W N #[.string ⟨#[]⟩, .int .i64 4, .int .i64 a, .int .u8 (pm : Int), .slice none 0 0, .slice none 0 0, .slice none 0 0] 43) m (chainD (natD a pm hm)) chainL G n M q F W → Below w.heap.size w W := fun h => h.st.below
          have FS : ∀ {n : Nat} {M : Mnd} {q : Nat} {F : Int → Option Pk} {w' : World}, NSt w T (fun W => Bk W N #[.string ⟨#[]⟩, .int .i64 4, .int .i64 a, .int .u8 (pm : Int), .slice none 0 0, .slice none 0 0, .slice none 0 0] 43) m (chainD (natD a pm hm)) chainL G n M q F w' → w'.cell? ⟨N, 2, none⟩ = some (.int .i64 a) := fun h => h.st.x.at 2
          have LN : ∀ {n : Nat} {M : Mnd} {q : Nat} {F : Int → Option Pk} {W : World}, NSt w T (fun W => Bk W N #[.string ⟨#[]⟩, .int .i64 4, .int .i64 a, .int .u8 (pm : Int), .slice none 0 0, .slice none 0 0, .slice none 0 0] 43) m (chainD (natD a pm hm)) chainL G n M q F W → ∃ z : Nat, (∀ ty, (Builtin.len_ #[58] ty #[.map (some G)]).run Try.prog W = .ok (.int .i64 (z : Int)) W) ∧ ∀ x, i64ok x → (F x).isSome = true → 0 < z := fun h => h.mp.len uMi
          by_cases hall : ∀ k, ownerOf M k = none
          · have H1 : Hid (∀ W, NSt w T (fun W => Bk W N #[.string ⟨#[]⟩, .int .i64 4, .int .i64 a, .int .u8 (pm : Int), .slice none 0 0, .slice none 0 0, .slice none 0 0] 43) m (chainD (natD a pm hm)) chainL G n M q (ownerOf M) W → Calls Try.prog 10 #[.pointer (some ⟨m.B, 0, none⟩), plA 1 0, .agg #[.int .i64 0, .int .i64 0, .int .i64 0, .int .i64 0], .int .i64 0] W fun e w' => e = .returned (.tuple #[.agg #[.int .i64 2, .int .i64 0, .int .i64 a, .int .i64 0, .int .i64 0, .int .i64 0], .int .i64 0]) ∧ NSt w T (fun W => Bk W N #[.string ⟨#[]⟩, .int .i64 4, .int .i64 a, .int .u8 (pm : Int), .slice none 0 0, .slice none 0 0, .slice none 0 0] 43) m (chainD (natD a pm hm)) chainL G (n + 1) (learnP M (.own 1 0 (0, 0))) q (ownerOf M) w' ∧ CK W w') := fun W h => NSt.handle hX 1 0 zeroP 0 h (by unfold maxLen; omega) HA.out ok1 ok0 (nat_last hall (by rw [hpm.out]; exact or1_bit pl))
            clear hX hall
            generalize NSt w T (fun W => Bk W N #[.string ⟨#[]⟩, .int .i64 4, .int .i64 a, .int .u8 (pm : Int), .slice none 0 0, .slice none 0 0, .slice none 0 0] 43) m (chainD (natD a pm hm)) chainL G = L at *
            generalize learnP M (.own 1 0 (0, 0)) = M' at *
            go_wp2_with fail
            refine (PLC.out _ _ _).mono ?_
            rintro e w5 ⟨rfl, hb5⟩
            have S5 := KP S0 hb5
            go_wp2_with fail
            refine (H1.out _ S5).mono ?_
            rintro e w6 ⟨rfl, S6, _⟩
            have S7 := AL (.cells #[.int .i64 2, .int .i64 0, .int .i64 a, .int .i64 0, .int .i64 0, .int .i64 0] 47) S6
            have Y7 := bk_new w6 #[.int .i64 2, .int .i64 0, .int .i64 a, .int .i64 0, .int .i64 0, .int .i64 0] 47
            have y2 := Y7.at 2
            have d2 := FS S7
            obtain ⟨z, hz, _⟩ := LN S7
            have D7 := BE S7
            go_wp2_with fail
            all_goals
              go_ret
              exact ⟨rfl, D7⟩
          · obtain ⟨k0, hk0⟩ := Classical.not_forall.1 hall
            obtain ⟨r, hr⟩ : ∃ r, handleP (chainD (natD a pm hm)) chainL M 1 0 zeroP 0 = r := ⟨_, rfl⟩
            obtain ⟨er, ⟨t1, t2⟩, ⟨r1, r2, r3, r4⟩, M'⟩ := r
            have H1 : Hid (∀ W, NSt w T (fun W => Bk W N #[.string ⟨#[]⟩, .int .i64 4, .int .i64 a, .int .u8 (pm : Int), .slice none 0 0, .slice none 0 0, .slice none 0 0] 43) m (chainD (natD a pm hm)) chainL G n M q (ownerOf M) W → Calls Try.prog 10 #[.pointer (some ⟨m.B, 0, none⟩), plA 1 0, .agg #[.int .i64 0, .int .i64 0, .int .i64 0, .int .i64 0], .int .i64 0] W fun e w' => e = .returned (.tuple #[.agg #[.int .i64 t1, .int .i64 t2, .int .i64 r1, .int .i64 r2, .int .i64 r3, .int .i64 r4], .int .i64 er]) ∧ NSt w T (fun W => Bk W N #[.string ⟨#[]⟩, .int .i64 4, .int .i64 a, .int .u8 (pm : Int), .slice none 0 0, .slice none 0 0, .slice none 0 0] 43) m (chainD (natD a pm hm)) chainL G (n + 1) M' q (ownerOf M) w' ∧ CK W w') := fun W h => NSt.handle hX 1 0 zeroP 0 h (by unfold maxLen; omega) HA.out ok1 ok0 hr
            have hs : (ownerOf M k0).isSome = true := Option.isSome_iff_ne_none.2 hk0
            have hi : i64ok k0 := by
              unfold ownerOf at hs
              rw [Option.isSome_map] at hs
              obtain ⟨s, hs⟩ := Option.isSome_iff_exists.1 hs
              have := (HM.out _ _ hs).1
              unfold poB at this
              simp only [Bool.and_eq_true, decide_eq_true_eq] at this
              exact i64ok_of (by omega) (by omega)
            have HS : Hid ((ownerOf M k0).isSome = true ∧ i64ok k0) := ⟨hs, hi⟩
            clear hX hall hk0 hr hs hi
            generalize NSt w T (fun W => Bk W N #[.string ⟨#[]⟩, .int .i64 4, .int .i64 a, .int .u8 (pm : Int), .slice none 0 0, .slice none 0 0, .slice none 0 0] 43) m (chainD (natD a pm hm)) chainL G = L at *
            go_wp2_with fail
            refine (PLC.out _ _ _).mono ?_
            rintro e w5 ⟨rfl, hb5⟩
            have S5 := KP S0 hb5
            go_wp2_with fail
            refine (H1.out _ S5).mono ?_
            rintro e w6 ⟨rfl, S6, _⟩
            have S7 := AL (.cells #[.int .i64 t1, .int .i64 t2, .int .i64 r1, .int .i64 r2, .int .i64 r3, .int .i64 r4] 47) S6
            obtain ⟨z, hz, hzp⟩ := LN S7
            have D7 := BE S7
            have hz1 : (0 : Int) < (z : Int) := by have := hzp _ HS.out.2 HS.out.1; omega
            have hz2 : 0 < z := by omega
            clear hzp
            go_wp2_with fail
            all_goals first | (exfalso; omega) | skip
            all_goals
              go_ret
              exact ⟨rfl, D7⟩
      · have hlp : k < ps.length := by omega
        obtain ⟨p, hpk⟩ : ∃ p, ps[k]? = some p := ⟨_, List.getElem?_eq_getElem hlp⟩
        obtain ⟨b, o, rfl, c0, c1, c2, c3⟩ := HPC.out k p wr D1 hpk
        obtain ⟨s, dd, sp, dp⟩ := p
        have k1 : (0 : Int) ≤ (k : Int) := by omega
        have k2 : (k : Int) < (K : Int) := by omega
        have D2 := Below.alN D1 (pkC ⟨s, dd, sp, dp⟩)
        have M2 := M1.alloc (pkC ⟨s, dd, sp, dp⟩)
        have X2 := X1.alloc (pkC ⟨s, dd, sp, dp⟩)
        have F2 := F1.same (w' := wr.alloc (pkC ⟨s, dd, sp, dp⟩)) ((((Below.refl _ _).alloc (Nat.le_refl _) _).block G F1.lt))
        have P2 := bk_new wr #[.int .i64 s, .int .i64 dd, .int .i64 sp, .int .i64 dp] 24
        obtain ⟨p0, p1, p2, p3, _⟩ := P2.four
        have PCp : Hid (∀ W, Calls Try.prog 12 #[.agg #[.int .i64 s, .int .i64 dd, .int .i64 sp, .int .i64 dp]] W fun e w' => e = .returned (.int .i64 (if pkOk ⟨s, dd, sp, dp⟩ then 0 else 1)) ∧ Below W.heap.size W w') := fun W => pcheck_any ⟨s, dd, sp, dp⟩ W
        clear hpk hlp M1 X1 D1 F1
        cases hpo : pkOk ⟨s, dd, sp, dp⟩
        · rw [hpo] at PCp
          simp only [Bool.false_eq_true, if_false] at PCp
          go_wp2_with fail
          refine (PCp.out _).mono ?_
          rintro e w5 ⟨rfl, hb5⟩
          have D5 := chnN hb5 D2
          have M5 := M2.below hb5
          have X5 := X2.keep hb5
          have F5 := F2.same (hb5.block G F2.lt)
          go_wp2_with fail
          go_roundw
          case rel => exact ⟨k + 1, n, q, M, by go_num, by omega, by omega, by omega, M5, X5, D5, F5, HM⟩
          case measure => simp [intOf]; omega
        rw [hpo] at PCp
        simp only [if_true] at PCp
        have hp : Hid (pkOk ⟨s, dd, sp, dp⟩ = true) := hpo
        clear hpo
        go_wp2_with fail
        refine (PCp.out _).mono ?_
        rintro e w5 ⟨rfl, hb5⟩
        have D5 := chnN hb5 D2
        have M5 := M2.below hb5
        have X5 := X2.keep hb5
        have P5 := P2.keep hb5
        have F5 := F2.same (hb5.block G F2.lt)
        clear hb5 D2 M2 X2 P2 F2 p0 p1 p2 p3 c0 c1 c2 c3 PCp
        generalize wr.heap.size = P at *
        go_upto_if 55 with fail
        go_cut [15] (fun v wx => ∃ c, v = .int .i64 c ∧ Hid (i64ok c) ∧ wx = w5)
        case first =>
          by_cases hc : k < cs.length
          · obtain ⟨c, hck⟩ : ∃ c, cs[k]? = some c := ⟨_, List.getElem?_eq_getElem hc⟩
            obtain ⟨b', o', rfl, e0, hi⟩ := HCC.out k c w5 D5 hck
            have HI : Hid (i64ok c) := hi
            have hd : decide ((k : Int) < (cs.length : Int)) = true := by simp; omega
            have hd' : (k : Int) < (cs.length : Int) := by omega
            clear hi hck
            go_wp2_with fail
            go_meet
            exact ⟨c, rfl, HI, rfl⟩
          · have hd : decide ((k : Int) < (cs.length : Int)) = false := by simp; omega
            go_wp2_with fail
            go_meet
            exact ⟨0, rfl, ok0, rfl⟩
        case rest =>
          obtain ⟨c, rfl, hc, rfl⟩ := hcut
          have zX := X5.lt
          have zP := P5.lt
          have hX : Hid (∀ W W', KT wc.heap.size W W' → (fun W => Bk W N #[.string ⟨#[]⟩, .int .i64 4, .int .i64 a, .int .u8 (pm : Int), .slice none 0 0, .slice none 0 0, .slice none 0 0] 43 ∧ Bk W P #[.int .i64 s, .int .i64 dd, .int .i64 sp, .int .i64 dp] 24) W → (fun W => Bk W N #[.string ⟨#[]⟩, .int .i64 4, .int .i64 a, .int .u8 (pm : Int), .slice none 0 0, .slice none 0 0, .slice none 0 0] 43 ∧ Bk W P #[.int .i64 s, .int .i64 dd, .int .i64 sp, .int .i64 dp] 24) W') := fun _ _ hk hx => ⟨hx.1.kt hk zX, hx.2.kt hk zP⟩
          have S0 : NSt w wc.heap.size (fun W => Bk W N #[.string ⟨#[]⟩, .int .i64 4, .int .i64 a, .int .u8 (pm : Int), .slice none 0 0, .slice none 0 0, .slice none 0 0] 43 ∧ Bk W P #[.int .i64 s, .int .i64 dd, .int .i64 sp, .int .i64 dp] 24) m (chainD (natD a pm hm)) chainL G n M q (ownerOf M) wc := ⟨LSt.new (w := w) (X := (fun W => Bk W N #[.string ⟨#[]⟩, .int .i64 4, .int .i64 a, .int .u8 (pm : Int), .slice none 0 0, .slice none 0 0, .slice none 0 0] 43 ∧ Bk W P #[.int .i64 s, .int .i64 dd, .int .i64 sp, .int .i64 dp] 24)) M5 ⟨X5, P5⟩ D5 LO.out, F5, GN.out⟩
          have TL : w.heap.size ≤ wc.heap.size := S0.st.T_le
          generalize hT : wc.heap.size = T at S0 TL hX
          clear hT zX zP M5 X5 P5 D5 F5
          have KP : ∀ {n : Nat} {M : Mnd} {q : Nat} {F : Int → Option Pk} {W W' : World}, NSt w T (fun W => Bk W N #[.string ⟨#[]⟩, .int .i64 4, .int .i64 a, .int .u8 (pm : Int), .slice none 0 0, .slice none 0 0, .slice none 0 0] 43 ∧ Bk W P #[.int .i64 s, .int .i64 dd, .int .i64 sp, .int .i64 dp] 24) m (chainD (natD a pm hm)) chainL G n M q F W → Below W.heap.size W W' → NSt w T (fun W => Bk W N #[.string ⟨#[]⟩, .int .i64 4, .int .i64 a, .int .u8 (pm : Int), .slice none 0 0, .slice none 0 0, .slice none 0 0] 43 ∧ Bk W P #[.int .i64 s, .int .i64 dd, .int .i64 sp, .int .i64 dp] 24) m (chainD (natD a pm hm)) chainL G n M q F W' := fun h hb => h.keep hX hb
          have AL : ∀ {n : Nat} {M : Mnd} {q : Nat} {F : Int → Option Pk} {W : World} (o : Obj), NSt w T (fun W => Bk W N #[.string ⟨#[]⟩, .int .i64 4, .int .i64 a, .int .u8 (pm : Int), .slice none 0 0, .slice none 0 0, .slice none 0 0] 43 ∧ Bk W P #[.int .i64 s, .int .i64 dd, .int .i64 sp, .int .i64 dp] 24) m (chainD (natD a pm hm)) chainL G n M q F W → NSt w T (fun W => Bk W N #[.string ⟨#[]⟩, .int .i64 4, .int .i64 a, .int .u8 (pm : Int), .slice none 0 0, .slice none 0 0, .slice none 0 0] 43 ∧ Bk W P #[.int .i64 s, .int .i64 dd, .int .i64 sp, .int .i64 dp] 24) m (chainD (natD a pm hm)) chainL G n M q F (W.alloc o) := fun o h => h.alloc hX o
          have DR : ∀ {n : Nat} {M : Mnd} {q : Nat} {F : Int → Option Pk} {W : World}, NSt w T (fun W => Bk W N #[.string ⟨#[]⟩, .int .i64 4, .int .i64 a, .int .u8 (pm : Int), .slice none 0 0, .slice none 0 0, .slice none 0 0] 43 ∧ Bk W P #[.int .i64 s, .int .i64 dd, .int .i64 sp, .int .i64 dp] 24) m (chainD (natD a pm hm)) chainL G n M q F W → NSt w T (fun W => Bk W N #[.string ⟨#[]⟩, .int .i64 4, .int .i64 a, .int .u8 (pm : Int), .slice none 0 0, .slice none 0 0, .slice none 0 0] 43 ∧ Bk W P #[.int .i64 s, .int .i64 dd, .int .i64 sp, .int .i64 dp] 24) m (chainD (natD a pm hm)) chainL G n M q F W.drew := fun h => h.drew hX
          have S6 : ∀ {n : Nat} {M : Mnd} {q : Nat} {F : Int → Option Pk} {W : World} {k : Nat}, NSt w T (fun W => Bk W N #[.string ⟨#[]⟩, .int .i64 4, .int .i64 a, .int .u8 (pm : Int), .slice none 0 0, .slice none 0 0, .slice none 0 0] 43 ∧ Bk W P #[.int .i64 s, .int .i64 dd, .int .i64 sp, .int .i64 dp] 24) m (chainD (natD a pm hm)) chainL G n M q F W → ZB T k W → ∀ u0 u1 u2 u3 u4 u5 : Value, NSt w T (fun W => Bk W N #[.string ⟨#[]⟩, .int .i64 4, .int .i64 a, .int .u8 (pm : Int), .slice none 0 0, .slice none 0 0, .slice none 0 0] 43 ∧ Bk W P #[.int .i64 s, .int .i64 dd, .int .i64 sp, .int .i64 dp] 24) m (chainD (natD a pm hm)) chainL G n M q F ((((((W.setCell ⟨k, 0, none⟩ u0).setCell ⟨k, 1, none⟩ u1).setCell ⟨k, 2, none⟩ u2).setCell ⟨k, 3, none⟩ u3).setCell ⟨k, 4, none⟩ u4).setCell ⟨k, 5, none⟩ u5) := fun h z u0 u1 u2 u3 u4 u5 => NSt.set6 hX h z TL u0 u1 u2 u3 u4 u5
          have BE : ∀ {n : Nat} {M : Mnd} {q : Nat} {F : Int → Option Pk} {W : World}, NSt w T (fun W => Bk W N #[.string ⟨#[]⟩, .int .i64 4, .int .i64 a, .int .u8 (pm : Int), .slice none 0 0, .slice none 0 0, .slice none 0 0] 43 ∧ Bk W P #[.int .i64 s, .int .i64 dd, .int .i64 sp, .int .i64 dp] 24) m (chainD (natD a pm hm)) chainL G n M q F W → Below w.heap.size w W := fun h => h.st.below
          have TW : ∀ {n : Nat} {M : Mnd} {q : Nat} {F : Int → Option Pk} {W : World}, NSt w T (fun W => Bk W N #[.string ⟨#[]⟩, .int .i64 4, .int .i64 a, .int .u8 (pm : Int), .slice none 0 0, .slice none 0 0, .slice none 0 0] 43 ∧ Bk W P #[.int .i64 s, .int .i64 dd, .int .i64 sp, .int .i64 dp] 24) m (chainD (natD a pm hm)) chainL G n M q F W → T ≤ W.heap.size := fun h => h.st.tW
          have ZN : ∀ {W : World}, T ≤ W.heap.size → ZB T W.heap.size (W.alloc arZ) := fun h => zb_new h
          have ZBK : ∀ {k : Nat} {W W' : World}, ZB T k W → Below W.heap.size W W' → ZB T k W' := fun h hb => h.keep hb
          have ZBD : ∀ {k : Nat} {W : World}, ZB T k W → ZB T k W.drew := fun h => h.drew
          have ZBC : ∀ {k : Nat} {W W' : World}, ZB T k W → CK W W' → ZB T k W' := fun h hc => h.ck hc
          have UN : Hid (∀ {n : Nat} {M : Mnd} {q : Nat} {F : Int → Option Pk} {W : World}, NSt w T (fun W => Bk W N #[.string ⟨#[]⟩, .int .i64 4, .int .i64 a, .int .u8 (pm : Int), .slice none 0 0, .slice none 0 0, .slice none 0 0] 43 ∧ Bk W P #[.int .i64 s, .int .i64 dd, .int .i64 sp, .int .i64 dp] 24) m (chainD (natD a pm hm)) chainL G n M q F W → MemAt W m (chainD (natD a pm hm)) chainL n M ∧ (fun W => Bk W N #[.string ⟨#[]⟩, .int .i64 4, .int .i64 a, .int .u8 (pm : Int), .slice none 0 0, .slice none 0 0, .slice none 0 0] 43 ∧ Bk W P #[.int .i64 s, .int .i64 dd, .int .i64 sp, .int .i64 dp] 24) W ∧ Below w.heap.size w W ∧ MapAt intE pktV W G q F) := fun h => ⟨h.st.mem, h.st.x, h.st.below, h.mp⟩
          have FS : ∀ {n : Nat} {M : Mnd} {q : Nat} {F : Int → Option Pk} {w' : World}, NSt w T (fun W => Bk W N #[.string ⟨#[]⟩, .int .i64 4, .int .i64 a, .int .u8 (pm : Int), .slice none 0 0, .slice none 0 0, .slice none 0 0] 43 ∧ Bk W P #[.int .i64 s, .int .i64 dd, .int .i64 sp, .int .i64 dp] 24) m (chainD (natD a pm hm)) chainL G n M q F w' → (w'.cell? ⟨P, 0, none⟩ = some (.int .i64 s) ∧ w'.cell? ⟨P, 1, none⟩ = some (.int .i64 dd) ∧ w'.cell? ⟨P, 2, none⟩ = some (.int .i64 sp) ∧ w'.cell? ⟨P, 3, none⟩ = some (.int .i64 dp)) := fun h => ⟨h.st.x.2.at 0, h.st.x.2.at 1, h.st.x.2.at 2, h.st.x.2.at 3⟩
          rcases nat_out (a := a) (hl := hm) c HM.out hp.out with ⟨er, hne, hbad⟩ | ⟨k0, hk8, hbit, how, hgood⟩
          · as_aux_lemma =>
              have H1 : Hid (∀ W, NSt w T (fun W => Bk W N #[.string ⟨#[]⟩, .int .i64 4, .int .i64 a, .int .u8 (pm : Int), .slice none 0 0, .slice none 0 0, .slice none 0 0] 43 ∧ Bk W P #[.int .i64 s, .int .i64 dd, .int .i64 sp, .int .i64 dp] 24) m (chainD (natD a pm hm)) chainL G n M q (ownerOf M) W → Calls Try.prog 10 #[.pointer (some ⟨m.B, 0, none⟩), plA 1 0, .agg #[.int .i64 s, .int .i64 dd, .int .i64 sp, .int .i64 dp], .int .i64 c] W fun e w' => e = .returned (.tuple #[.agg #[.int .i64 0, .int .i64 0, .int .i64 0, .int .i64 0, .int .i64 0, .int .i64 0], .int .i64 er]) ∧ NSt w T (fun W => Bk W N #[.string ⟨#[]⟩, .int .i64 4, .int .i64 a, .int .u8 (pm : Int), .slice none 0 0, .slice none 0 0, .slice none 0 0] 43 ∧ Bk W P #[.int .i64 s, .int .i64 dd, .int .i64 sp, .int .i64 dp] 24) m (chainD (natD a pm hm)) chainL G (n + 1) M q (ownerOf M) w' ∧ CK W w') := fun W h => NSt.handle hX 1 0 ⟨s, dd, sp, dp⟩ c h (by unfold maxLen; omega) HA.out ok1 hc.out (hbad)
              have HNZ : Hid (¬ er = 0) := hne
              have hz1 : (er == 0) = false := by simpa using hne
              clear hX TL hbad hne
              generalize NSt w T (fun W => Bk W N #[.string ⟨#[]⟩, .int .i64 4, .int .i64 a, .int .u8 (pm : Int), .slice none 0 0, .slice none 0 0, .slice none 0 0] 43 ∧ Bk W P #[.int .i64 s, .int .i64 dd, .int .i64 sp, .int .i64 dp] 24) m (chainD (natD a pm hm)) chainL G = L at KP AL DR S6 BE TW UN FS S0 H1
              go_upto_region 13 with fail
              have S0d := DR S0
              have S0a := DR (AL arZ S0)
              have Z0a := ZBD (ZN (TW S0))
              obtain ⟨c0, c1, c2, c3⟩ := FS S0
              go_cut [17] (fun vE wx => vE = .int .i64 er ∧ L (n + 1) M q (ownerOf M) wx)
              case first =>
                as_aux_lemma =>
                  go_region_held3 (fun w' => w'.cell? ⟨P, 0, none⟩ = some (.int .i64 s) ∧ w'.cell? ⟨P, 1, none⟩ = some (.int .i64 dd) ∧ w'.cell? ⟨P, 2, none⟩ = some (.int .i64 sp) ∧ w'.cell? ⟨P, 3, none⟩ = some (.int .i64 dp)) (exact FS (by first | with_reducible exact Sh | with_reducible exact AL _ Sh | with_reducible exact S6 Sh Zh _ _ _ _ _ _ | with_reducible exact Sf | with_reducible exact AL _ Sf | with_reducible exact Sp | with_reducible exact AL _ Sp | with_reducible exact S0a | with_reducible exact S0d)) (first | (go_at_call 11; (with_reducible refine (PLC.out _ _ _).mono ?_); rintro e wp ⟨rfl, hbp⟩; have Sp := KP S0d hbp) | (go_at_call 11; (with_reducible refine (PLC.out _ _ _).mono ?_); rintro e wp ⟨rfl, hbp⟩; have Sp := KP S0a hbp; have Zp := ZBK Z0a hbp) | (go_at_call 10; (with_reducible refine (H1.out _ Sp).mono ?_); rintro e wh ⟨rfl, Sh, Ch⟩; have Zh := ZBC Zp Ch; obtain ⟨⟨zz0, zz1, zz2, zz3, zz4, zz5⟩, ⟨zf0, zf1, zf2, zf3, zf4, zf5⟩⟩ := Zh.1.six) | (go_at_call 10; (with_reducible refine (H1.out _ Sp).mono ?_); rintro e wh ⟨rfl, Sh, Ch⟩; skip) | (go_at_call 10; (with_reducible refine (H1.out _ (AL arZ Sp)).mono ?_); rintro e wh ⟨rfl, Sh, Ch⟩; have Zh := ZBC (ZN (TW Sp)) Ch; obtain ⟨⟨zz0, zz1, zz2, zz3, zz4, zz5⟩, ⟨zf0, zf1, zf2, zf3, zf4, zf5⟩⟩ := Zh.1.six))
                  all_goals
                    go_wp2_with fail
                    go_meet
                    first
                      | exact ⟨rfl, S6 Sh Zh _ _ _ _ _ _⟩
                      | exact ⟨rfl, AL _ Sh⟩
              case rest =>
                clear H1 S0 S0d S0a Z0a c0 c1 c2 c3
                obtain ⟨rfl, S0⟩ := hcut
                obtain ⟨M9, X9, D9, F9⟩ := UN.out S0
                clear KP AL DR S6 BE TW UN FS S0 ZN ZBK ZBD ZBC
                go_wp2_with fail
                all_goals first | exact absurd (by assumption) HNZ.out | skip
                go_roundw
                case rel => exact ⟨k + 1, n + 1, q, M, by go_num, by omega, by omega, by omega, M9, X9.1, D9, F9, HM⟩
                case measure => simp [intOf]; omega
          · as_aux_lemma =>
              have hk9 := hk8
              unfold poB at hk9
              simp only [Bool.and_eq_true, decide_eq_true_eq] at hk9
              obtain ⟨kk, rfl⟩ : ∃ kk : Nat, k0 = (kk : Int) := ⟨k0.toNat, by omega⟩
              have HK : Hid (kk < 8 ∧ pm.testBit kk = true) := ⟨by omega, hbit⟩
              have HW : Hid (ownerOf M (kk : Int) = none ∨ ownerOf M (kk : Int) = some ⟨s, 0, sp, 0⟩) := owner_was (p := ⟨s, dd, sp, dp⟩) how
              have HM1 : Hid (NatM pm (learnP M (.own 1 (kk : Int) (s, sp)))) := natM_learn HM.out hk8 hbit
              have HO1 : Hid (ownerOf (learnP M (.own 1 (kk : Int) (s, sp))) = putF (ownerOf M) (kk : Int) ⟨s, 0, sp, 0⟩) := owner_learn M _ _
              have H1 : Hid (∀ W, NSt w T (fun W => Bk W N #[.string ⟨#[]⟩, .int .i64 4, .int .i64 a, .int .u8 (pm : Int), .slice none 0 0, .slice none 0 0, .slice none 0 0] 43 ∧ Bk W P #[.int .i64 s, .int .i64 dd, .int .i64 sp, .int .i64 dp] 24) m (chainD (natD a pm hm)) chainL G n M q (ownerOf M) W → Calls Try.prog 10 #[.pointer (some ⟨m.B, 0, none⟩), plA 1 0, .agg #[.int .i64 s, .int .i64 dd, .int .i64 sp, .int .i64 dp], .int .i64 c] W fun e w' => e = .returned (.tuple #[.agg #[.int .i64 2, .int .i64 0, .int .i64 a, .int .i64 dd, .int .i64 (kk : Int), .int .i64 dp], .int .i64 0]) ∧ NSt w T (fun W => Bk W N #[.string ⟨#[]⟩, .int .i64 4, .int .i64 a, .int .u8 (pm : Int), .slice none 0 0, .slice none 0 0, .slice none 0 0] 43 ∧ Bk W P #[.int .i64 s, .int .i64 dd, .int .i64 sp, .int .i64 dp] 24) m (chainD (natD a pm hm)) chainL G (n + 1) (learnP M (.own 1 (kk : Int) (s, sp))) q (ownerOf M) w' ∧ CK W w') := fun W h => NSt.handle hX 1 0 ⟨s, dd, sp, dp⟩ c h (by unfold maxLen; omega) HA.out ok1 hc.out (hgood)
              clear hX TL hgood how hbit hk8 hk9
              generalize NSt w T (fun W => Bk W N #[.string ⟨#[]⟩, .int .i64 4, .int .i64 a, .int .u8 (pm : Int), .slice none 0 0, .slice none 0 0, .slice none 0 0] 43 ∧ Bk W P #[.int .i64 s, .int .i64 dd, .int .i64 sp, .int .i64 dp] 24) m (chainD (natD a pm hm)) chainL G = L at KP AL DR S6 BE TW UN FS S0 H1
              go_upto_region 13 with fail
              have S0d := DR S0
              have S0a := DR (AL arZ S0)
              have Z0a := ZBD (ZN (TW S0))
              obtain ⟨c0, c1, c2, c3⟩ := FS S0
              go_cut [16, 17] (fun v1 v2 wx => ∃ g, v1 = .pointer (some ⟨g, 0, none⟩) ∧ v2 = .int .i64 0 ∧ Bk wx g #[.int .i64 2, .int .i64 0, .int .i64 a, .int .i64 dd, .int .i64 (kk : Int), .int .i64 dp] 47 ∧ L (n + 1) (learnP M (.own 1 (kk : Int) (s, sp))) q (ownerOf M) wx)
              case first =>
                as_aux_lemma =>
                  go_region_held3 (fun w' => w'.cell? ⟨P, 0, none⟩ = some (.int .i64 s) ∧ w'.cell? ⟨P, 1, none⟩ = some (.int .i64 dd) ∧ w'.cell? ⟨P, 2, none⟩ = some (.int .i64 sp) ∧ w'.cell? ⟨P, 3, none⟩ = some (.int .i64 dp)) (exact FS (by first | with_reducible exact Sh | with_reducible exact AL _ Sh | with_reducible exact S6 Sh Zh _ _ _ _ _ _ | with_reducible exact Sf | with_reducible exact AL _ Sf | with_reducible exact Sp | with_reducible exact AL _ Sp | with_reducible exact S0a | with_reducible exact S0d)) (first | (go_at_call 11; (with_reducible refine (PLC.out _ _ _).mono ?_); rintro e wp ⟨rfl, hbp⟩; have Sp := KP S0d hbp) | (go_at_call 11; (with_reducible refine (PLC.out _ _ _).mono ?_); rintro e wp ⟨rfl, hbp⟩; have Sp := KP S0a hbp; have Zp := ZBK Z0a hbp) | (go_at_call 10; (with_reducible refine (H1.out _ Sp).mono ?_); rintro e wh ⟨rfl, Sh, Ch⟩; have Zh := ZBC Zp Ch; obtain ⟨⟨zz0, zz1, zz2, zz3, zz4, zz5⟩, ⟨zf0, zf1, zf2, zf3, zf4, zf5⟩⟩ := Zh.1.six) | (go_at_call 10; (with_reducible refine (H1.out _ Sp).mono ?_); rintro e wh ⟨rfl, Sh, Ch⟩; skip) | (go_at_call 10; (with_reducible refine (H1.out _ (AL arZ Sp)).mono ?_); rintro e wh ⟨rfl, Sh, Ch⟩; have Zh := ZBC (ZN (TW Sp)) Ch; obtain ⟨⟨zz0, zz1, zz2, zz3, zz4, zz5⟩, ⟨zf0, zf1, zf2, zf3, zf4, zf5⟩⟩ := Zh.1.six))
                  all_goals
                    go_wp2_with fail
                    go_meet
                    first
                      | exact ⟨_, rfl, rfl, (by have := (((((Zh.1.setS (j := 0) (.int .i64 2)).setS (j := 1) (.int .i64 0)).setS (j := 2) (.int .i64 a)).setS (j := 3) (.int .i64 dd)).setS (j := 4) (.int .i64 (kk : Int))).setS (j := 5) (.int .i64 dp); simpa using this), S6 Sh Zh _ _ _ _ _ _⟩
                      | exact ⟨_, rfl, rfl, bk_new _ _ _, AL _ Sh⟩
              case rest =>
                as_aux_lemma =>
                  clear H1 S0d S0a Z0a c0 c1 c2 c3 S0
                  obtain ⟨g, rfl, rfl, G0, S0⟩ := hcut
                  obtain ⟨M9, X9, D9, F9⟩ := UN.out S0
                  clear KP AL DR S6 BE TW ZN ZBK ZBD ZBC UN FS S0 L
                  have zX := X9.1.lt
                  have zP := X9.2.lt
                  have zg := G0.lt
                  have hX : Hid (∀ W W', KT wc.heap.size W W' → (fun W => Bk W N #[.string ⟨#[]⟩, .int .i64 4, .int .i64 a, .int .u8 (pm : Int), .slice none 0 0, .slice none 0 0, .slice none 0 0] 43 ∧ Bk W P #[.int .i64 s, .int .i64 dd, .int .i64 sp, .int .i64 dp] 24 ∧ Bk W g #[.int .i64 2, .int .i64 0, .int .i64 a, .int .i64 dd, .int .i64 (kk : Int), .int .i64 dp] 47) W → (fun W => Bk W N #[.string ⟨#[]⟩, .int .i64 4, .int .i64 a, .int .u8 (pm : Int), .slice none 0 0, .slice none 0 0, .slice none 0 0] 43 ∧ Bk W P #[.int .i64 s, .int .i64 dd, .int .i64 sp, .int .i64 dp] 24 ∧ Bk W g #[.int .i64 2, .int .i64 0, .int .i64 a, .int .i64 dd, .int .i64 (kk : Int), .int .i64 dp] 47) W') := fun _ _ hk hx => ⟨hx.1.kt hk zX, hx.2.1.kt hk zP, hx.2.2.kt hk zg⟩
                  have S0 : NSt w wc.heap.size (fun W => Bk W N #[.string ⟨#[]⟩, .int .i64 4, .int .i64 a, .int .u8 (pm : Int), .slice none 0 0, .slice none 0 0, .slice none 0 0] 43 ∧ Bk W P #[.int .i64 s, .int .i64 dd, .int .i64 sp, .int .i64 dp] 24 ∧ Bk W g #[.int .i64 2, .int .i64 0, .int .i64 a, .int .i64 dd, .int .i64 (kk : Int), .int .i64 dp] 47) m (chainD (natD a pm hm)) chainL G (n + 1) (learnP M (.own 1 (kk : Int) (s, sp))) q (ownerOf M) wc := ⟨LSt.new (w := w) (X := (fun W => Bk W N #[.string ⟨#[]⟩, .int .i64 4, .int .i64 a, .int .u8 (pm : Int), .slice none 0 0, .slice none 0 0, .slice none 0 0] 43 ∧ Bk W P #[.int .i64 s, .int .i64 dd, .int .i64 sp, .int .i64 dp] 24 ∧ Bk W g #[.int .i64 2, .int .i64 0, .int .i64 a, .int .i64 dd, .int .i64 (kk : Int), .int .i64 dp] 47)) M9 ⟨X9.1, X9.2, G0⟩ D9 LO.out, F9, GN.out⟩
                  have TL : w.heap.size ≤ wc.heap.size := S0.st.T_le
                  have okk : i64ok (kk : Int) := i64ok_of (by omega) (by have := HK.out.1; omega)
                  generalize hT : wc.heap.size = T at S0 TL hX
                  clear zX zP zg M9 X9 D9 F9 G0
                  obtain ⟨pv, bb, hpv⟩ : ∃ pv bb, pv = (ownerOf M (kk : Int)).getD zeroP ∧ bb = (ownerOf M (kk : Int)).isSome := ⟨_, _, rfl, rfl⟩
                  have HPB : Hid (bb = false ∨ bb = true ∧ pv = ⟨s, 0, sp, 0⟩) := by
                    obtain ⟨rfl, rfl⟩ := hpv
                    rcases HW.out with h | h <;> rw [h]
                    · exact Or.inl rfl
                    · exact Or.inr ⟨rfl, rfl⟩
                  have S1 := S0.alloc hX (.cells #[.int .i64 s, .int .i64 0, .int .i64 sp, .int .i64 0] 24)
                  have lk := S1.look okk
                  rw [← hpv.1, ← hpv.2] at lk
                  have S2 := S1.alloc hX (.cells #[.int .i64 pv.s, .int .i64 pv.d, .int .i64 pv.sp, .int .i64 pv.dp] 24)
                  obtain ⟨wu, hup, S3, C3⟩ := S2.store hX GL.out (by unfold maxLen; omega) okk ⟨s, 0, sp, 0⟩
                  rw [← HO1.out] at S3
                  have O2 := (bk_new wc #[.int .i64 s, .int .i64 0, .int .i64 sp, .int .i64 0] 24).alloc (.cells #[.int .i64 pv.s, .int .i64 pv.d, .int .i64 pv.sp, .int .i64 pv.dp] 24)
                  have V2 := bk_new' (wc.alloc (.cells #[.int .i64 s, .int .i64 0, .int .i64 sp, .int .i64 0] 24)) #[.int .i64 pv.s, .int .i64 pv.d, .int .i64 pv.sp, .int .i64 pv.dp] 24 (wc.heap.size + 1) (by simp)
                  obtain ⟨o0, o1, o2, o3, _⟩ := O2.four
                  obtain ⟨v0, v1, v2, v3, _⟩ := V2.four
                  obtain ⟨x0, x1, x2⟩ := S0.st.x
                  obtain ⟨p0, p1, p2, p3, _⟩ := x1.four
                  obtain ⟨⟨g0, g1, g2, g3, g4, g5⟩, _⟩ := x2.six
                  obtain ⟨y0, y1, y2⟩ := S2.st.x
                  obtain ⟨q0, q1, q2, q3, _⟩ := y1.four
                  obtain ⟨⟨h0, h1, h2, h3, h4, h5⟩, _⟩ := y2.six
                  have e2 := y0.at 2
                  clear x0 x1 x2 y0 y1 y2 O2 V2 hpv
                  have lt0 : decide ((kk : Int) < 0) = false := by simp
                  have lt7 : decide ((7 : Int) < (kk : Int)) = false := by have := HK.out.1; simp; omega
                  have DUM : True := trivial
                  go_upto_region 20 with fail
                  clear S0 S1 S2 lk p0 p1 p2 p3 g0 g1 g2 g3 g4 g5 C3 lt0 lt7
                  subst hT
                  generalize wc.heap.size = T at *
                  generalize (wc.alloc (.cells #[.int .i64 s, .int .i64 0, .int .i64 sp, .int .i64 0] 24)).alloc (.cells #[.int .i64 pv.s, .int .i64 pv.d, .int .i64 pv.sp, .int .i64 pv.dp] 24) = wv at *
                  have HU : Hid ((Instr.mapUpdate 58 (.map (some G)) (.int .i64 (kk : Int)) (pkV ⟨s, 0, sp, 0⟩)).run Try.prog wv = .ok () wu) := hup
                  have HS3 : Hid (NSt w T (fun W => Bk W N #[.string ⟨#[]⟩, .int .i64 4, .int .i64 a, .int .u8 (pm : Int), .slice none 0 0, .slice none 0 0, .slice none 0 0] 43 ∧ Bk W P #[.int .i64 s, .int .i64 dd, .int .i64 sp, .int .i64 dp] 24 ∧ Bk W g #[.int .i64 2, .int .i64 0, .int .i64 a, .int .i64 dd, .int .i64 (kk : Int), .int .i64 dp] 47) m (chainD (natD a pm hm)) chainL G (n + 1) (learnP M (.own 1 (kk : Int) (s, sp))) (q + 1) (ownerOf (learnP M (.own 1 (kk : Int) (s, sp)))) wu) := S3
                  clear hup S3
                  go_cut [127] (fun v wx => v = .bool false ∧ wx = wv)
                  case first =>
                    as_aux_lemma =>
                      have PNE : ∀ w, (binOp .neq 24 (.agg #[.int .i64 s, .int .i64 0, .int .i64 sp, .int .i64 0]) (.agg #[.int .i64 s, .int .i64 0, .int .i64 sp, .int .i64 0])).run Try.prog w = .ok (.bool false) w := fun w => packet_ne_self ⟨s, 0, sp, 0⟩ w
                      have hbn : ¬ Go.bits .and .u8 ((pm : Int) / 2 ^ kk) 1 = 0 := by
                        have h := pool_in hm HK.out.2
                        rw [Int.natCast_ediv, Int.natCast_pow] at h
                        simpa using h
                      have h8 := HK.out.1
                      have hk0 : (0 : Int) ≤ (kk : Int) := by omega
                      have hk8 : (kk : Int) ≤ 8 := by omega
                      obtain ⟨pv0, pv1, pv2, pv3⟩ := pv
                      clear HK HM1 HO1 HW okk h8 HU HS3 hn hq hK hKl TL hX k1 k2 hlt hk
                      rcases HPB.out with rfl | ⟨rfl, hpv⟩
                      · clear HPB v0 v1 v2 v3 o0 o1 o2 o3
                        go_wp2_with fail
                        all_goals first | exact absurd (by assumption) hbn | skip
                        go_meet
                        exact ⟨congrArg Value.bool (by simpa using hbn), rfl⟩
                      · clear HPB
                        cases hpv
                        go_wp2_with fail
                        all_goals first | exact absurd (by assumption) hbn | skip
                        go_meet
                        exact ⟨congrArg Value.bool (by simpa using hbn), rfl⟩
                  case rest =>
                    as_aux_lemma =>
                      obtain ⟨rfl, hwc⟩ := hcut
                      subst hwc
                      have hup := HU.out
                      clear HPB HU v0 v1 v2 v3 q0 q1 q2 q3 h0 h1 h2 h3 h4 h5 e2
                      go_upto_region 23 with fail
                      clear o0 o1 o2 o3 hup
                      have S0 := HS3.out
                      clear HS3
                      have KP : ∀ {n : Nat} {M : Mnd} {q : Nat} {F : Int → Option Pk} {W W' : World}, NSt w T (fun W => Bk W N #[.string ⟨#[]⟩, .int .i64 4, .int .i64 a, .int .u8 (pm : Int), .slice none 0 0, .slice none 0 0, .slice none 0 0] 43 ∧ Bk W P #[.int .i64 s, .int .i64 dd, .int .i64 sp, .int .i64 dp] 24 ∧ Bk W g #[.int .i64 2, .int .i64 0, .int .i64 a, .int .i64 dd, .int .i64 (kk : Int), .int .i64 dp] 47) m (chainD (natD a pm hm)) chainL G n M q F W → Below W.heap.size W W' → NSt w T (fun W => Bk W N #[.string ⟨#[]⟩, .int .i64 4, .int .i64 a, .int .u8 (pm : Int), .slice none 0 0, .slice none 0 0, .slice none 0 0] 43 ∧ Bk W P #[.int .i64 s, .int .i64 dd, .int .i64 sp, .int .i64 dp] 24 ∧ Bk W g #[.int .i64 2, .int .i64 0, .int .i64 a, .int .i64 dd, .int .i64 (kk : Int), .int .i64 dp] 47) m (chainD (natD a pm hm)) chainL G n M q F W' := fun h hb => h.keep hX hb
                      have AL : ∀ {n : Nat} {M : Mnd} {q : Nat} {F : Int → Option Pk} {W : World} (o : Obj), NSt w T (fun W => Bk W N #[.string ⟨#[]⟩, .int .i64 4, .int .i64 a, .int .u8 (pm : Int), .slice none 0 0, .slice none 0 0, .slice none 0 0] 43 ∧ Bk W P #[.int .i64 s, .int .i64 dd, .int .i64 sp, .int .i64 dp] 24 ∧ Bk W g #[.int .i64 2, .int .i64 0, .int .i64 a, .int .i64 dd, .int .i64 (kk : Int), .int .i64 dp] 47) m (chainD (natD a pm hm)) chainL G n M q F W → NSt w T (fun W => Bk W N #[.string ⟨#[]⟩, .int .i64 4, .int .i64 a, .int .u8 (pm : Int), .slice none 0 0, .slice none 0 0, .slice none 0 0] 43 ∧ Bk W P #[.int .i64 s, .int .i64 dd, .int .i64 sp, .int .i64 dp] 24 ∧ Bk W g #[.int .i64 2, .int .i64 0, .int .i64 a, .int .i64 dd, .int .i64 (kk : Int), .int .i64 dp] 47) m (chainD (natD a pm hm)) chainL G n M q F (W.alloc o) := fun o h => h.alloc hX o
                      have DR : ∀ {n : Nat} {M : Mnd} {q : Nat} {F : Int → Option Pk} {W : World}, NSt w T (fun W => Bk W N #[.string ⟨#[]⟩, .int .i64 4, .int .i64 a, .int .u8 (pm : Int), .slice none 0 0, .slice none 0 0, .slice none 0 0] 43 ∧ Bk W P #[.int .i64 s, .int .i64 dd, .int .i64 sp, .int .i64 dp] 24 ∧ Bk W g #[.int .i64 2, .int .i64 0, .int .i64 a, .int .i64 dd, .int .i64 (kk : Int), .int .i64 dp] 47) m (chainD (natD a pm hm)) chainL G n M q F W → NSt w T (fun W => Bk W N #[.string ⟨#[]⟩, .int .i64 4, .int .i64 a, .int .u8 (pm : Int), .slice none 0 0, .slice none 0 0, .slice none 0 0] 43 ∧ Bk W P #[.int .i64 s, .int .i64 dd, .int .i64 sp, .int .i64 dp] 24 ∧ Bk W g #[.int .i64 2, .int .i64 0, .int .i64 a, .int .i64 dd, .int .i64 (kk : Int), .int .i64 dp] 47) m (chainD (natD a pm hm)) chainL G n M q F W.drew := fun h => h.drew hX
                      have S6 : ∀ {n : Nat} {M : Mnd} {q : Nat} {F : Int → Option Pk} {W : World} {k : Nat}, NSt w T (fun W => Bk W N #[.string ⟨#[]⟩, .int .i64 4, .int .i64 a, .int .u8 (pm : Int), .slice none 0 0, .slice none 0 0, .slice none 0 0] 43 ∧ Bk W P #[.int .i64 s, .int .i64 dd, .int .i64 sp, .int .i64 dp] 24 ∧ Bk W g #[.int .i64 2, .int .i64 0, .int .i64 a, .int .i64 dd, .int .i64 (kk : Int), .int .i64 dp] 47) m (chainD (natD a pm hm)) chainL G n M q F W → ZB T k W → ∀ u0 u1 u2 u3 u4 u5 : Value, NSt w T (fun W => Bk W N #[.string ⟨#[]⟩, .int .i64 4, .int .i64 a, .int .u8 (pm : Int), .slice none 0 0, .slice none 0 0, .slice none 0 0] 43 ∧ Bk W P #[.int .i64 s, .int .i64 dd, .int .i64 sp, .int .i64 dp] 24 ∧ Bk W g #[.int .i64 2, .int .i64 0, .int .i64 a, .int .i64 dd, .int .i64 (kk : Int), .int .i64 dp] 47) m (chainD (natD a pm hm)) chainL G n M q F ((((((W.setCell ⟨k, 0, none⟩ u0).setCell ⟨k, 1, none⟩ u1).setCell ⟨k, 2, none⟩ u2).setCell ⟨k, 3, none⟩ u3).setCell ⟨k, 4, none⟩ u4).setCell ⟨k, 5, none⟩ u5) := fun h z u0 u1 u2 u3 u4 u5 => NSt.set6 hX h z TL u0 u1 u2 u3 u4 u5
                      have BE : ∀ {n : Nat} {M : Mnd} {q : Nat} {F : Int → Option Pk} {W : World}, NSt w T (fun W => Bk W N #[.string ⟨#[]⟩, .int .i64 4, .int .i64 a, .int .u8 (pm : Int), .slice none 0 0, .slice none 0 0, .slice none 0 0] 43 ∧ Bk W P #[.int .i64 s, .int .i64 dd, .int .i64 sp, .int .i64 dp] 24 ∧ Bk W g #[.int .i64 2, .int .i64 0, .int .i64 a, .int .i64 dd, .int .i64 (kk : Int), .int .i64 dp] 47) m (chainD (natD a pm hm)) chainL G n M q F W → Below w.heap.size w W := fun h => h.st.below
                      have TW : ∀ {n : Nat} {M : Mnd} {q : Nat} {F : Int → Option Pk} {W : World}, NSt w T (fun W => Bk W N #[.string ⟨#[]⟩, .int .i64 4, .int .i64 a, .int .u8 (pm : Int), .slice none 0 0, .slice none 0 0, .slice none 0 0] 43 ∧ Bk W P #[.int .i64 s, .int .i64 dd, .int .i64 sp, .int .i64 dp] 24 ∧ Bk W g #[.int .i64 2, .int .i64 0, .int .i64 a, .int .i64 dd, .int .i64 (kk : Int), .int .i64 dp] 47) m (chainD (natD a pm hm)) chainL G n M q F W → T ≤ W.heap.size := fun h => h.st.tW
                      have ZN : ∀ {W : World}, T ≤ W.heap.size → ZB T W.heap.size (W.alloc arZ) := fun h => zb_new h
                      have ZBK : ∀ {k : Nat} {W W' : World}, ZB T k W → Below W.heap.size W W' → ZB T k W' := fun h hb => h.keep hb
                      have ZBD : ∀ {k : Nat} {W : World}, ZB T k W → ZB T k W.drew := fun h => h.drew
                      have ZBC : ∀ {k : Nat} {W W' : World}, ZB T k W → CK W W' → ZB T k W' := fun h hc => h.ck hc
                      have UN : Hid (∀ {n : Nat} {M : Mnd} {q : Nat} {F : Int → Option Pk} {W : World}, NSt w T (fun W => Bk W N #[.string ⟨#[]⟩, .int .i64 4, .int .i64 a, .int .u8 (pm : Int), .slice none 0 0, .slice none 0 0, .slice none 0 0] 43 ∧ Bk W P #[.int .i64 s, .int .i64 dd, .int .i64 sp, .int .i64 dp] 24 ∧ Bk W g #[.int .i64 2, .int .i64 0, .int .i64 a, .int .i64 dd, .int .i64 (kk : Int), .int .i64 dp] 47) m (chainD (natD a pm hm)) chainL G n M q F W → MemAt W m (chainD (natD a pm hm)) chainL n M ∧ (fun W => Bk W N #[.string ⟨#[]⟩, .int .i64 4, .int .i64 a, .int .u8 (pm : Int), .slice none 0 0, .slice none 0 0, .slice none 0 0] 43 ∧ Bk W P #[.int .i64 s, .int .i64 dd, .int .i64 sp, .int .i64 dp] 24 ∧ Bk W g #[.int .i64 2, .int .i64 0, .int .i64 a, .int .i64 dd, .int .i64 (kk : Int), .int .i64 dp] 47) W ∧ Below w.heap.size w W ∧ MapAt intE pktV W G q F) := fun h => ⟨h.st.mem, h.st.x, h.st.below, h.mp⟩
                      have FS : ∀ {n : Nat} {M : Mnd} {q : Nat} {F : Int → Option Pk} {w' : World}, NSt w T (fun W => Bk W N #[.string ⟨#[]⟩, .int .i64 4, .int .i64 a, .int .u8 (pm : Int), .slice none 0 0, .slice none 0 0, .slice none 0 0] 43 ∧ Bk W P #[.int .i64 s, .int .i64 dd, .int .i64 sp, .int .i64 dp] 24 ∧ Bk W g #[.int .i64 2, .int .i64 0, .int .i64 a, .int .i64 dd, .int .i64 (kk : Int), .int .i64 dp] 47) m (chainD (natD a pm hm)) chainL G n M q F w' → (w'.cell? ⟨P, 0, none⟩ = some (.int .i64 s) ∧ w'.cell? ⟨P, 1, none⟩ = some (.int .i64 dd) ∧ w'.cell? ⟨P, 2, none⟩ = some (.int .i64 sp) ∧ w'.cell? ⟨P, 3, none⟩ = some (.int .i64 dp) ∧ w'.cell? ⟨g, 0, none⟩ = some (.int .i64 2) ∧ w'.cell? ⟨g, 1, none⟩ = some (.int .i64 0) ∧ w'.cell? ⟨g, 2, none⟩ = some (.int .i64 a) ∧ w'.cell? ⟨g, 3, none⟩ = some (.int .i64 dd) ∧ w'.cell? ⟨g, 4, none⟩ = some (.int .i64 (kk : Int)) ∧ w'.cell? ⟨g, 5, none⟩ = some (.int .i64 dp)) := fun h => ⟨h.st.x.2.1.at 0, h.st.x.2.1.at 1, h.st.x.2.1.at 2, h.st.x.2.1.at 3, h.st.x.2.2.at 0, h.st.x.2.2.at 1, h.st.x.2.2.at 2, h.st.x.2.2.at 3, h.st.x.2.2.at 4, h.st.x.2.2.at 5⟩
                      have HQ : Hid (pkOk (flipP ⟨a, dd, (kk : Int), dp⟩) = true) := flipP_ok (by
                        have h1 := hp.out
                        have h2 := HA1.out
                        have h3 := HK.out.1
                        unfold pkOk adB poB at *
                        simp only [Bool.and_eq_true, decide_eq_true_eq] at *
                        exact ⟨⟨⟨⟨h2.1, by omega⟩, h1.1.1.2⟩, ⟨by omega, by omega⟩⟩, h1.2⟩)
                      have H3 : Hid (∀ W, NSt w T (fun W => Bk W N #[.string ⟨#[]⟩, .int .i64 4, .int .i64 a, .int .u8 (pm : Int), .slice none 0 0, .slice none 0 0, .slice none 0 0] 43 ∧ Bk W P #[.int .i64 s, .int .i64 dd, .int .i64 sp, .int .i64 dp] 24 ∧ Bk W g #[.int .i64 2, .int .i64 0, .int .i64 a, .int .i64 dd, .int .i64 (kk : Int), .int .i64 dp] 47) m (chainD (natD a pm hm)) chainL G (n + 1) (learnP M (.own 1 (kk : Int) (s, sp))) (q + 1) (ownerOf (learnP M (.own 1 (kk : Int) (s, sp)))) W → Calls Try.prog 10 #[.pointer (some ⟨m.B, 0, none⟩), plA 1 1, .agg #[.int .i64 dd, .int .i64 a, .int .i64 dp, .int .i64 (kk : Int)], .int .i64 c] W fun e w' => e = .returned (.tuple #[.agg #[.int .i64 0, .int .i64 0, .int .i64 dd, .int .i64 s, .int .i64 dp, .int .i64 sp], .int .i64 0]) ∧ NSt w T (fun W => Bk W N #[.string ⟨#[]⟩, .int .i64 4, .int .i64 a, .int .u8 (pm : Int), .slice none 0 0, .slice none 0 0, .slice none 0 0] 43 ∧ Bk W P #[.int .i64 s, .int .i64 dd, .int .i64 sp, .int .i64 dp] 24 ∧ Bk W g #[.int .i64 2, .int .i64 0, .int .i64 a, .int .i64 dd, .int .i64 (kk : Int), .int .i64 dp] 47) m (chainD (natD a pm hm)) chainL G (n + 1 + 1) (learnP M (.own 1 (kk : Int) (s, sp))) (q + 1) (ownerOf (learnP M (.own 1 (kk : Int) (s, sp)))) w' ∧ CK W w') := fun W h => NSt.handle hX 1 1 (flipP ⟨a, dd, (kk : Int), dp⟩) c h (by unfold maxLen; omega) HA.out ok1 hc.out (nat_back (p := ⟨s, dd, sp, dp⟩) HQ.out (by simp [learnP, putF_same]))
                      have FLP : Hid (∀ W, Calls Try.prog 13 #[.agg #[.int .i64 a, .int .i64 dd, .int .i64 (kk : Int), .int .i64 dp]] W fun e w' => e = .returned (.agg #[.int .i64 dd, .int .i64 a, .int .i64 dp, .int .i64 (kk : Int)]) ∧ Below W.heap.size W w') := fun W => pflip_any ⟨a, dd, (kk : Int), dp⟩ W
                      clear hX TL HQ HO1 HW okk
                      generalize NSt w T (fun W => Bk W N #[.string ⟨#[]⟩, .int .i64 4, .int .i64 a, .int .u8 (pm : Int), .slice none 0 0, .slice none 0 0, .slice none 0 0] 43 ∧ Bk W P #[.int .i64 s, .int .i64 dd, .int .i64 sp, .int .i64 dp] 24 ∧ Bk W g #[.int .i64 2, .int .i64 0, .int .i64 a, .int .i64 dd, .int .i64 (kk : Int), .int .i64 dp] 47) m (chainD (natD a pm hm)) chainL G = L at KP AL DR S6 BE TW UN FS S0 H3
                      generalize (learnP M (.own 1 (kk : Int) (s, sp))) = M1v at *
                      have S0d := DR S0
                      have S0a := DR (AL arZ S0)
                      have Z0a := ZBD (ZN (TW S0))
                      obtain ⟨c0, c1, c2, c3, c4, c5, c6, c7, c8, c9⟩ := FS S0
                      go_cut [22, 17] (fun v1 v2 wx => ∃ g, v1 = .pointer (some ⟨g, 0, none⟩) ∧ v2 = .int .i64 0 ∧ Bk wx g #[.int .i64 0, .int .i64 0, .int .i64 dd, .int .i64 s, .int .i64 dp, .int .i64 sp] 47 ∧ L (n + 1 + 1) M1v (q + 1) (ownerOf M1v) wx)
                      case first =>
                        as_aux_lemma =>
                          go_region_held3 (fun w' => w'.cell? ⟨P, 0, none⟩ = some (.int .i64 s) ∧ w'.cell? ⟨P, 1, none⟩ = some (.int .i64 dd) ∧ w'.cell? ⟨P, 2, none⟩ = some (.int .i64 sp) ∧ w'.cell? ⟨P, 3, none⟩ = some (.int .i64 dp) ∧ w'.cell? ⟨g, 0, none⟩ = some (.int .i64 2) ∧ w'.cell? ⟨g, 1, none⟩ = some (.int .i64 0) ∧ w'.cell? ⟨g, 2, none⟩ = some (.int .i64 a) ∧ w'.cell? ⟨g, 3, none⟩ = some (.int .i64 dd) ∧ w'.cell? ⟨g, 4, none⟩ = some (.int .i64 (kk : Int)) ∧ w'.cell? ⟨g, 5, none⟩ = some (.int .i64 dp)) (exact FS (by first | with_reducible exact Sh | with_reducible exact AL _ Sh | with_reducible exact S6 Sh Zh _ _ _ _ _ _ | with_reducible exact Sf | with_reducible exact AL _ Sf | with_reducible exact Sp | with_reducible exact AL _ Sp | with_reducible exact S0a | with_reducible exact S0d)) (first | (go_at_call 11; (with_reducible refine (PLC.out _ _ _).mono ?_); rintro e wp ⟨rfl, hbp⟩; have Sp := KP S0d hbp) | (go_at_call 11; (with_reducible refine (PLC.out _ _ _).mono ?_); rintro e wp ⟨rfl, hbp⟩; have Sp := KP S0a hbp; have Zp := ZBK Z0a hbp) | (go_at_call 13; (with_reducible refine (FLP.out _).mono ?_); rintro e wf ⟨rfl, hbf⟩; have Sf := KP Sp hbf; have Zf := ZBK Zp hbf) | (go_at_call 13; (with_reducible refine (FLP.out _).mono ?_); rintro e wf ⟨rfl, hbf⟩; have Sf := KP Sp hbf) | (go_at_call 13; (with_reducible refine (FLP.out _).mono ?_); rintro e wf ⟨rfl, hbf⟩; have Sf := KP (AL arZ Sp) hbf; have Zf := ZBK (ZN (TW Sp)) hbf) | (go_at_call 10; (with_reducible refine (H3.out _ Sf).mono ?_); rintro e wh ⟨rfl, Sh, Ch⟩; have Zh := ZBC Zf Ch; obtain ⟨⟨zz0, zz1, zz2, zz3, zz4, zz5⟩, ⟨zf0, zf1, zf2, zf3, zf4, zf5⟩⟩ := Zh.1.six) | (go_at_call 10; (with_reducible refine (H3.out _ Sf).mono ?_); rintro e wh ⟨rfl, Sh, Ch⟩; skip) | (go_at_call 10; (with_reducible refine (H3.out _ (AL arZ Sf)).mono ?_); rintro e wh ⟨rfl, Sh, Ch⟩; have Zh := ZBC (ZN (TW Sf)) Ch; obtain ⟨⟨zz0, zz1, zz2, zz3, zz4, zz5⟩, ⟨zf0, zf1, zf2, zf3, zf4, zf5⟩⟩ := Zh.1.six))
                          all_goals
                            go_wp2_with fail
                            go_meet
                            first
                              | exact ⟨_, rfl, rfl, (by have := (((((Zh.1.setS (j := 0) (.int .i64 0)).setS (j := 1) (.int .i64 0)).setS (j := 2) (.int .i64 dd)).setS (j := 3) (.int .i64 s)).setS (j := 4) (.int .i64 dp)).setS (j := 5) (.int .i64 sp); simpa using this), S6 Sh Zh _ _ _ _ _ _⟩
                              | exact ⟨_, rfl, rfl, bk_new _ _ _, AL _ Sh⟩
                      case rest =>
                        as_aux_lemma =>
                          clear H3 S0d S0a Z0a c0 c1 c2 c3 c4 c5 c6 c7 c8 c9 S0 FLP
                          obtain ⟨g2, rfl, rfl, G0, S0⟩ := hcut
                          obtain ⟨M9, X9, D9, F9⟩ := UN.out S0
                          clear KP AL DR S6 BE TW ZN ZBK ZBD ZBC UN FS S0 L
                          have RS : ∃ R : World → Prop, R wc ∧ (∀ W W', R W → Below W.heap.size W W' → R W') ∧ (∀ W, R W → R W.drew) ∧ (∀ w', R w' → (w'.cell? ⟨P, 0, none⟩ = some (.int .i64 s) ∧ w'.cell? ⟨P, 1, none⟩ = some (.int .i64 dd) ∧ w'.cell? ⟨P, 2, none⟩ = some (.int .i64 sp) ∧ w'.cell? ⟨P, 3, none⟩ = some (.int .i64 dp) ∧ w'.cell? ⟨g2, 0, none⟩ = some (.int .i64 0) ∧ w'.cell? ⟨g2, 1, none⟩ = some (.int .i64 0) ∧ w'.cell? ⟨g2, 2, none⟩ = some (.int .i64 dd) ∧ w'.cell? ⟨g2, 3, none⟩ = some (.int .i64 s) ∧ w'.cell? ⟨g2, 4, none⟩ = some (.int .i64 dp) ∧ w'.cell? ⟨g2, 5, none⟩ = some (.int .i64 sp))) ∧ (∀ W, R W → MemAt W m (chainD (natD a pm hm)) chainL (n + 1 + 1) M1v ∧ Bk W N #[.string ⟨#[]⟩, .int .i64 4, .int .i64 a, .int .u8 (pm : Int), .slice none 0 0, .slice none 0 0, .slice none 0 0] 43 ∧ Below w.heap.size w W ∧ MapAt intE pktV W G (q + 1) (ownerOf M1v)) := by
                            refine ⟨fun W => MemAt W m (chainD (natD a pm hm)) chainL (n + 1 + 1) M1v ∧ Bk W N #[.string ⟨#[]⟩, .int .i64 4, .int .i64 a, .int .u8 (pm : Int), .slice none 0 0, .slice none 0 0, .slice none 0 0] 43 ∧ Below w.heap.size w W ∧ MapAt intE pktV W G (q + 1) (ownerOf M1v) ∧ Bk W P #[.int .i64 s, .int .i64 dd, .int .i64 sp, .int .i64 dp] 24 ∧ Bk W g2 #[.int .i64 0, .int .i64 0, .int .i64 dd, .int .i64 s, .int .i64 dp, .int .i64 sp] 47, ⟨M9, X9.1, D9, F9, X9.2.1, G0⟩, fun W W' h hb => ⟨h.1.below hb, h.2.1.keep hb, chnN hb h.2.2.1, h.2.2.2.1.same (hb.block G h.2.2.2.1.lt), h.2.2.2.2.1.keep hb, h.2.2.2.2.2.keep hb⟩, fun W h => ?_, fun W h => ⟨h.2.2.2.2.1.at 0, h.2.2.2.2.1.at 1, h.2.2.2.2.1.at 2, h.2.2.2.2.1.at 3, h.2.2.2.2.2.at 0, h.2.2.2.2.2.at 1, h.2.2.2.2.2.at 2, h.2.2.2.2.2.at 3, h.2.2.2.2.2.at 4, h.2.2.2.2.2.at 5⟩, fun W h => ⟨h.1, h.2.1, h.2.2.1, h.2.2.2.1⟩⟩
                            have hb : Below W.heap.size W W.drew := (Below.refl _ _).drew
                            exact ⟨h.1.below hb, h.2.1.keep hb, chnN hb h.2.2.1, h.2.2.2.1.same (hb.block G h.2.2.2.1.lt), h.2.2.2.2.1.keep hb, h.2.2.2.2.2.keep hb⟩
                          obtain ⟨R, R0, KR, DRR, FR, UR⟩ := RS
                          clear M9 X9 D9 F9 G0
                          have UR' : Hid (∀ W, R W → MemAt W m (chainD (natD a pm hm)) chainL (n + 1 + 1) M1v ∧ Bk W N #[.string ⟨#[]⟩, .int .i64 4, .int .i64 a, .int .u8 (pm : Int), .slice none 0 0, .slice none 0 0, .slice none 0 0] 43 ∧ Below w.heap.size w W ∧ MapAt intE pktV W G (q + 1) (ownerOf M1v)) := UR
                          clear UR
                          have FL2 : Hid (∀ W, Calls Try.prog 13 #[.agg #[.int .i64 s, .int .i64 dd, .int .i64 sp, .int .i64 dp]] W fun e w' => e = .returned (.agg #[.int .i64 dd, .int .i64 s, .int .i64 dp, .int .i64 sp]) ∧ Below W.heap.size W w') := fun W => pflip_any ⟨s, dd, sp, dp⟩ W
                          have PNE : ∀ w, (binOp .neq 24 (.agg #[.int .i64 dd, .int .i64 s, .int .i64 dp, .int .i64 sp]) (.agg #[.int .i64 dd, .int .i64 s, .int .i64 dp, .int .i64 sp])).run Try.prog w = .ok (.bool false) w := fun w => packet_ne_self ⟨dd, s, dp, sp⟩ w
                          have PLE : ∀ w, (binOp .neq 45 (.agg #[.int .i64 0, .int .i64 0]) (.agg #[.int .i64 0, .int .i64 0])).run Try.prog w = .ok (.bool false) w := fun w => by simp [go_sem, Try.underlying45, Try.underlying3]
                          have R0d := DRR _ R0
                          obtain ⟨c0, c1, c2, c3, c4, c5, c6, c7, c8, c9⟩ := FR _ R0
                          go_upto_region 24 with fail
                          go_cut [155] (fun v wx => v = .bool false ∧ R wx)
                          case first =>
                            go_region_held3 (fun w' => w'.cell? ⟨P, 0, none⟩ = some (.int .i64 s) ∧ w'.cell? ⟨P, 1, none⟩ = some (.int .i64 dd) ∧ w'.cell? ⟨P, 2, none⟩ = some (.int .i64 sp) ∧ w'.cell? ⟨P, 3, none⟩ = some (.int .i64 dp) ∧ w'.cell? ⟨g2, 0, none⟩ = some (.int .i64 0) ∧ w'.cell? ⟨g2, 1, none⟩ = some (.int .i64 0) ∧ w'.cell? ⟨g2, 2, none⟩ = some (.int .i64 dd) ∧ w'.cell? ⟨g2, 3, none⟩ = some (.int .i64 s) ∧ w'.cell? ⟨g2, 4, none⟩ = some (.int .i64 dp) ∧ w'.cell? ⟨g2, 5, none⟩ = some (.int .i64 sp)) (exact FR _ (by first | with_reducible exact Rq | with_reducible exact Rf | with_reducible exact R0d)) (first | (go_at_call 13; (with_reducible refine (FL2.out _).mono ?_); rintro e wf ⟨rfl, hbf⟩; have Rf := KR _ _ R0d hbf) | (go_at_call 11; (with_reducible refine (PLC.out _ _ _).mono ?_); rintro e wp ⟨rfl, hbp⟩; have Rq := KR _ _ Rf hbp))
                            all_goals
                              go_wp2_with fail
                              go_meet
                              exact ⟨rfl, Rq⟩
                          case rest =>
                            obtain ⟨rfl, R9⟩ := hcut
                            obtain ⟨M9, X9, D9, F9⟩ := UR'.out _ R9
                            clear R0 R0d R9 c0 c1 c2 c3 c4 c5 c6 c7 c8 c9 KR DRR FR UR' FL2 PNE PLE
                            go_wp2_with fail
                            go_roundw
                            case rel => exact ⟨k + 1, n + 1 + 1, q + 1, M1v, by go_num, by omega, by omega, by omega, M9, X9, D9, F9, HM1⟩
                            case measure => simp [intOf]; omega

end Go.Proofs.Ytepfckicaafilaa
