/-
  StepNat: its walk, trial.
-/
import Derived.Test.YtepfckicaafilaaSg5
namespace Go.Proofs.Ytepfckicaafilaa
open Go.RowKit Go.Maps

/-- An int in memory, within its bounds. -/
def IsIk (cs : List Value) (x : Int) : Prop := cs = [.int .i64 x] ∧ i64ok x
theorem x1_kt {T N : Nat} {c : Array Value} {t : TypeId} (h : N < T) : ∀ W W', KT T W W' → Bk W N c t → Bk W' N c t := fun _ _ hk hx => hx.kt hk h
set_option maxHeartbeats 8000000 in
set_option maxRecDepth 100000 in
theorem nat_none (B : Option Addr) (cap' : Nat) (cs : List Int) (ad : Int) (pl : Nat) (hl : pl < 256) (w : World) (hC : Hid (SlAt w.heap.size w 1 IsIk (.slice B cs.length cap') cs)) :
    Calls Try.prog 4 #[.int .i64 ad, .int .u8 (pl : Int), .slice none 0 0, .slice B cs.length cap'] w fun e w' => e = .returned (.bool true) ∧ Below w.heap.size w w' := by
  have RS : Hid (∀ (x : Int) W, Calls Try.prog 16 #[.int .i64 x, .int .i64 16] W fun e w' => e = .returned (.int .i64 (x % 16)) ∧ Below W.heap.size W w') := fun x W => rest_any x W
  obtain ⟨pm, hpm, hor⟩ : ∃ pm : Nat, Hid (pm = pl ||| 1) ∧ Go.bits .or .u8 (pl : Int) 1 = (pm : Int) := ⟨_, rfl, bits_or1 pl hl⟩
  have hm : pm < 256 := by rw [hpm.out]; exact or1_lt hl
  have ha0 : 0 ≤ ad % 16 := by omega
  have ha1 : ad % 16 ≤ 15 := by omega
  have HN : Hid (netV (chainD (natD (ad % 16) pm hm)) chainL = 0) := nat_netV ha0 ha1 (by rw [hpm.out]; exact or1_pos pl)
  have HA : Hid (AddrsOk (chainD (natD (ad % 16) pm hm))) := addrs_nat ha0 ha1
  have nilS : ∀ {α : Type} (W : World) (n : Nat) (R : List Value → α → Prop), SlAt W.heap.size W n R (.slice none 0 0) [] := fun W n R => ⟨none, 0, rfl, fun _ => rfl, Nat.le_refl _, Nat.zero_le _, fun h => absurd rfl h⟩
  have CH : Hid (∀ (W : World), Calls Try.prog 8 #[.agg #[.string ⟨#[]⟩, .int .i64 4, .int .i64 (ad % 16), .int .u8 (pm : Int), .slice none 0 0, .slice none 0 0, .slice none 0 0]] W fun e w' => ∃ b b', e = .returned (.agg #[.slice (some ⟨b, 0, none⟩) 3 3, .slice (some ⟨b', 0, none⟩) 2 2]) ∧ Devs w'.heap.size w' (.slice (some ⟨b, 0, none⟩) 3 3) (chainD (natD (ad % 16) pm hm)) ∧ Links w'.heap.size w' (.slice (some ⟨b', 0, none⟩) 2 2) chainL ∧ Below W.heap.size W w') := fun W => chain_any (natD (ad % 16) pm hm) (.slice none 0 0) (.slice none 0 0) (.slice none 0 0) W (nilS _ _ _) (nilS _ _ _) (nilS _ _ _)
  have NW : Hid (∀ (b b' : Nat) (W : World), Devs W.heap.size W (.slice (some ⟨b, 0, none⟩) 3 3) (chainD (natD (ad % 16) pm hm)) → Links W.heap.size W (.slice (some ⟨b', 0, none⟩) 2 2) chainL → Calls Try.prog 7 #[.agg #[.slice (some ⟨b, 0, none⟩) 3 3, .slice (some ⟨b', 0, none⟩) 2 2]] W (NewOut W (chainD (natD (ad % 16) pm hm)) chainL)) := fun b b' W h1 h2 => new_any (some ⟨b, 0, none⟩) (some ⟨b', 0, none⟩) 3 2 (chainD (natD (ad % 16) pm hm)) chainL W h1 h2
  clear ha0 ha1 nilS
  have HCC : Hid (∀ (k : Nat) (c : Int) W, Below w.heap.size w W → cs[k]? = some c → ∃ b o, B = some ⟨b, o, none⟩ ∧ W.cell? ⟨b, o + k, none⟩ = some (.int .i64 c) ∧ i64ok c) := fun k c W hb hk => by
    obtain ⟨_, _, e, _, _, _, h3⟩ := hC.out
    cases e
    obtain ⟨b, o, ea, hl, hr⟩ := h3 (fun e => by rw [e] at hk; cases hk)
    obtain ⟨cs, _, ⟨rfl, hi⟩, hc⟩ := hr k c hk
    have := hc 0 _ rfl
    rw [Nat.mul_one] at this
    exact ⟨b, o, ea, (hb.cell (p := ⟨b, _, none⟩) hl).trans this, hi⟩
  go_enter Try.func4, Try.ntmps4
  go_wp2_with fail
  refine (RS.out _ _).mono ?_
  rintro e w1 ⟨rfl, hb1⟩
  have D1 := Below.alN hb1 (.cells #[.string ⟨#[]⟩, .int .i64 4, .int .i64 (ad % 16), .int .u8 (pm : Int), .slice none 0 0, .slice none 0 0, .slice none 0 0] 43)
  have X1 := bk_new w1 #[.string ⟨#[]⟩, .int .i64 4, .int .i64 (ad % 16), .int .u8 (pm : Int), .slice none 0 0, .slice none 0 0, .slice none 0 0] 43
  have zw := hb1.size
  clear hb1 RS
  go_wp2_with fail
  refine (CH.out _).mono ?_
  rintro e w2 ⟨b1, b2, rfl, hD2, hL2, hb2⟩
  have D2 := chnN hb2 D1
  have X2' := X1.keep hb2
  generalize hN0 : w1.heap.size = N at *
  clear hb2 D1 X1 CH
  go_wp2_with fail
  refine (NW.out _ _ _ hD2 hL2).mono ?_
  rintro e w3 ⟨hb3, hN⟩
  have D3 := chnN hb3 D2
  have X3' := X2'.keep hb3
  have z2 := D2.size
  clear hb3 D2 X2' hD2 hL2 NW
  rcases hN with ⟨hne, _⟩ | ⟨_, m, rfl, hM, lo1, lo2, lo3, _⟩
  · exact absurd HN.out hne
  have lo : w.heap.size ≤ m.f ∧ w.heap.size ≤ m.o ∧ w.heap.size ≤ m.k := ⟨by omega, by omega, by omega⟩
  clear lo1 lo2 lo3
  have hmm := @run_makeMap Try.prog
  go_upto_region 6 with fail
  go_cut [42, 43, 44] (fun v42 v43 v44 wx => ∃ K : Nat, v42 = .slice none K 0 ∧ v43 = .int .i64 (K : Int) ∧ v44 = .int .i64 0 ∧ K ≤ 30 ∧ K ≤ 0 ∧ wx = w3.alloc (.map #[] 0))
  case first =>
    go_wp2_with fail
    all_goals first | (exfalso; omega) | skip
    all_goals go_meet
    all_goals exact ⟨0, rfl, rfl, rfl, by omega, by omega, rfl⟩
  case rest =>
    obtain ⟨K, rfl, rfl, rfl, hK, hKl, rfl⟩ := hcut
    have D4 := Below.alN D3 (.map #[] 0)
    have F4 := mapAt_made intE pktV w3
    have M4 := hM.alloc (.map #[] 0)
    have X4 := X3'.alloc (.map #[] 0)
    have GN : Hid (w3.heap.size ≠ m.f ∧ w3.heap.size ≠ m.o ∧ w3.heap.size ≠ m.k) := ⟨by have := hM.fl.lt; omega, by have := hM.ow.lt; omega, by have := hM.bk.lt; omega⟩
    have GL : Hid (w.heap.size ≤ w3.heap.size) := D3.size
    have LO : Hid (w.heap.size ≤ m.f ∧ w.heap.size ≤ m.o ∧ w.heap.size ≤ m.k) := lo
    have PLC : Hid (∀ (x y : Int) W, Calls Try.prog 11 #[.int .i64 x, .int .i64 y] W fun e w' => e = .returned (plA x y) ∧ Below W.heap.size W w') := fun x y W => place_any x y W
    generalize w3.heap.size = G at *
    generalize w3.alloc (.map #[] 0) = w4 at *
    generalize ad % 16 = a at *
    clear D3 X3' hM lo z2 zw  hmm hN0
    go_wp2_with fail
    go_loopw [44] (fun i wr => ∃ (k n q : Nat) (M : Mnd), i = .int .i64 (k : Int) ∧ k ≤ K ∧ n ≤ 2 * k ∧ q ≤ k ∧ MemAt wr m (chainD (natD a pm hm)) chainL n M ∧ Bk wr N #[.string ⟨#[]⟩, .int .i64 4, .int .i64 a, .int .u8 (pm : Int), .slice none 0 0, .slice none 0 0, .slice none 0 0] 43 ∧ Below w.heap.size w wr ∧ MapAt intE pktV wr G q (ownerOf M) ∧ Hid (NatM pm M)) (fun i _ => K - (intOf i).toNat)
    case atStart => exact ⟨0, 0, 0, noM, rfl, by omega, by omega, by omega, M4, X4, D4, F4, natM_no⟩
    case round =>
      clear D4 F4 M4 X4
      obtain ⟨k, n, q, M, rfl, hk, hn, hq, M1, X1, D1, F1, HM⟩ := hrel
      by_cases hlt : k < K
      rotate_left
      · have zX := X1.lt
        have hX : Hid (∀ W W', KT wr.heap.size W W' → (fun W => Bk W N #[.string ⟨#[]⟩, .int .i64 4, .int .i64 a, .int .u8 (pm : Int), .slice none 0 0, .slice none 0 0, .slice none 0 0] 43) W → (fun W => Bk W N #[.string ⟨#[]⟩, .int .i64 4, .int .i64 a, .int .u8 (pm : Int), .slice none 0 0, .slice none 0 0, .slice none 0 0] 43) W') := fun _ _ hk hx => Bk.kt hx hk zX
        have S0 : NSt w wr.heap.size (fun W => Bk W N #[.string ⟨#[]⟩, .int .i64 4, .int .i64 a, .int .u8 (pm : Int), .slice none 0 0, .slice none 0 0, .slice none 0 0] 43) m (chainD (natD a pm hm)) chainL G n M q (ownerOf M) wr := ⟨LSt.new (w := w) (X := (fun W => Bk W N #[.string ⟨#[]⟩, .int .i64 4, .int .i64 a, .int .u8 (pm : Int), .slice none 0 0, .slice none 0 0, .slice none 0 0] 43)) M1 X1 D1 LO.out, F1, GN.out⟩
        generalize hT : wr.heap.size = T at S0 hX
        clear hT zX M1 X1 D1 F1
        have KP : ∀ {n : Nat} {M : Mnd} {q : Nat} {F : Int → Option Pk} {W W' : World}, NSt w T (fun W => Bk W N #[.string ⟨#[]⟩, .int .i64 4, .int .i64 a, .int .u8 (pm : Int), .slice none 0 0, .slice none 0 0, .slice none 0 0] 43) m (chainD (natD a pm hm)) chainL G n M q F W → Below W.heap.size W W' → NSt w T (fun W => Bk W N #[.string ⟨#[]⟩, .int .i64 4, .int .i64 a, .int .u8 (pm : Int), .slice none 0 0, .slice none 0 0, .slice none 0 0] 43) m (chainD (natD a pm hm)) chainL G n M q F W' := fun h hb => h.keep hX hb
        have AL : ∀ {n : Nat} {M : Mnd} {q : Nat} {F : Int → Option Pk} {W : World} (o : Obj), NSt w T (fun W => Bk W N #[.string ⟨#[]⟩, .int .i64 4, .int .i64 a, .int .u8 (pm : Int), .slice none 0 0, .slice none 0 0, .slice none 0 0] 43) m (chainD (natD a pm hm)) chainL G n M q F W → NSt w T (fun W => Bk W N #[.string ⟨#[]⟩, .int .i64 4, .int .i64 a, .int .u8 (pm : Int), .slice none 0 0, .slice none 0 0, .slice none 0 0] 43) m (chainD (natD a pm hm)) chainL G n M q F (W.alloc o) := fun o h => h.alloc hX o
        have BE : ∀ {n : Nat} {M : Mnd} {q : Nat} {F : Int → Option Pk} {W : World}, NSt w T (fun W => Bk W N #[.string ⟨#[]⟩, .int .i64 4, .int .i64 a, .int .u8 (pm : Int), .slice none 0 0, .slice none 0 0, .slice none 0 0] 43) m (chainD (natD a pm hm)) chainL G n M q F W → Below w.heap.size w W := fun h => h.st.below
        have FS : ∀ {n : Nat} {M : Mnd} {q : Nat} {F : Int → Option Pk} {w' : World}, NSt w T (fun W => Bk W N #[.string ⟨#[]⟩, .int .i64 4, .int .i64 a, .int .u8 (pm : Int), .slice none 0 0, .slice none 0 0, .slice none 0 0] 43) m (chainD (natD a pm hm)) chainL G n M q F w' → w'.cell? ⟨N, 2, none⟩ = some (.int .i64 a) := fun h => h.st.x.at 2
        have LN : ∀ {n : Nat} {M : Mnd} {q : Nat} {F : Int → Option Pk} {W : World}, NSt w T (fun W => Bk W N #[.string ⟨#[]⟩, .int .i64 4, .int .i64 a, .int .u8 (pm : Int), .slice none 0 0, .slice none 0 0, .slice none 0 0] 43) m (chainD (natD a pm hm)) chainL G n M q F W → ∃ z : Nat, (∀ ty, (Builtin.len_ #[58] ty #[.map (some G)]).run Try.prog W = .ok (.int .i64 (z : Int)) W) ∧ ∀ x, i64ok x → (F x).isSome = true → 0 < z := fun h => h.mp.len uMi
        by_cases hall : ∀ k, ownerOf M k = none
        · have H1 : Hid (∀ W, NSt w T (fun W => Bk W N #[.string ⟨#[]⟩, .int .i64 4, .int .i64 a, .int .u8 (pm : Int), .slice none 0 0, .slice none 0 0, .slice none 0 0] 43) m (chainD (natD a pm hm)) chainL G n M q (ownerOf M) W → Calls Try.prog 10 #[.pointer (some ⟨m.B, 0, none⟩), plA 1 0, .agg #[.int .i64 0, .int .i64 0, .int .i64 0, .int .i64 0], .int .i64 0] W fun e w' => e = .returned (.tuple #[.agg #[.int .i64 2, .int .i64 0, .int .i64 a, .int .i64 0, .int .i64 0, .int .i64 0], .int .i64 0]) ∧ NSt w T (fun W => Bk W N #[.string ⟨#[]⟩, .int .i64 4, .int .i64 a, .int .u8 (pm : Int), .slice none 0 0, .slice none 0 0, .slice none 0 0] 43) m (chainD (natD a pm hm)) chainL G (n + 1) (learnP M (.own 1 0 (0, 0))) q (ownerOf M) w' ∧ CK W w') := fun W h => NSt.handle hX 1 0 zeroP 0 h (by unfold maxLen; omega) HA.out ok1 ok0 (nat_last hall (by rw [hpm.out]; exact or1_bit pl))
          clear hX hall
          generalize NSt w T (fun W => Bk W N #[.string ⟨#[]⟩, .int .i64 4, .int .i64 a, .int .u8 (pm : Int), .slice none 0 0, .slice none 0 0, .slice none 0 0] 43) m (chainD (natD a pm hm)) chainL G = L at *
          generalize learnP M (.own 1 0 (0, 0)) = M' at *
          go_wp2_with fail
          refine (PLC.out _ _ _).mono ?_
          rintro e w5 ⟨rfl, hb5⟩
          have S5 := KP S0 hb5
          go_wp2_with fail
          refine (H1.out _ S5).mono ?_
          rintro e w6 ⟨rfl, S6, _⟩
          have S7 := AL (.cells #[.int .i64 2, .int .i64 0, .int .i64 a, .int .i64 0, .int .i64 0, .int .i64 0] 47) S6
          have Y7 := bk_new w6 #[.int .i64 2, .int .i64 0, .int .i64 a, .int .i64 0, .int .i64 0, .int .i64 0] 47
          have y2 := Y7.at 2
          have d2 := FS S7
          obtain ⟨z, hz, _⟩ := LN S7
          have D7 := BE S7
          go_wp2_with fail
          all_goals
            go_ret
            exact ⟨rfl, D7⟩
        · obtain ⟨k0, hk0⟩ := Classical.not_forall.1 hall
          obtain ⟨r, hr⟩ : ∃ r, handleP (chainD (natD a pm hm)) chainL M 1 0 zeroP 0 = r := ⟨_, rfl⟩
          obtain ⟨er, ⟨t1, t2⟩, ⟨r1, r2, r3, r4⟩, M'⟩ := r
          have H1 : Hid (∀ W, NSt w T (fun W => Bk W N #[.string ⟨#[]⟩, .int .i64 4, .int .i64 a, .int .u8 (pm : Int), .slice none 0 0, .slice none 0 0, .slice none 0 0] 43) m (chainD (natD a pm hm)) chainL G n M q (ownerOf M) W → Calls Try.prog 10 #[.pointer (some ⟨m.B, 0, none⟩), plA 1 0, .agg #[.int .i64 0, .int .i64 0, .int .i64 0, .int .i64 0], .int .i64 0] W fun e w' => e = .returned (.tuple #[.agg #[.int .i64 t1, .int .i64 t2, .int .i64 r1, .int .i64 r2, .int .i64 r3, .int .i64 r4], .int .i64 er]) ∧ NSt w T (fun W => Bk W N #[.string ⟨#[]⟩, .int .i64 4, .int .i64 a, .int .u8 (pm : Int), .slice none 0 0, .slice none 0 0, .slice none 0 0] 43) m (chainD (natD a pm hm)) chainL G (n + 1) M' q (ownerOf M) w' ∧ CK W w') := fun W h => NSt.handle hX 1 0 zeroP 0 h (by unfold maxLen; omega) HA.out ok1 ok0 hr
          have hs : (ownerOf M k0).isSome = true := Option.isSome_iff_ne_none.2 hk0
          have hi : i64ok k0 := by
            unfold ownerOf at hs
            rw [Option.isSome_map] at hs
            obtain ⟨s, hs⟩ := Option.isSome_iff_exists.1 hs
            have := (HM.out _ _ hs).1
            unfold poB at this
            simp only [Bool.and_eq_true, decide_eq_true_eq] at this
            exact i64ok_of (by omega) (by omega)
          have HS : Hid ((ownerOf M k0).isSome = true ∧ i64ok k0) := ⟨hs, hi⟩
          clear hX hall hk0 hr hs hi
          generalize NSt w T (fun W => Bk W N #[.string ⟨#[]⟩, .int .i64 4, .int .i64 a, .int .u8 (pm : Int), .slice none 0 0, .slice none 0 0, .slice none 0 0] 43) m (chainD (natD a pm hm)) chainL G = L at *
          go_wp2_with fail
          refine (PLC.out _ _ _).mono ?_
          rintro e w5 ⟨rfl, hb5⟩
          have S5 := KP S0 hb5
          go_wp2_with fail
          refine (H1.out _ S5).mono ?_
          rintro e w6 ⟨rfl, S6, _⟩
          have S7 := AL (.cells #[.int .i64 t1, .int .i64 t2, .int .i64 r1, .int .i64 r2, .int .i64 r3, .int .i64 r4] 47) S6
          obtain ⟨z, hz, hzp⟩ := LN S7
          have D7 := BE S7
          have hz1 : (0 : Int) < (z : Int) := by have := hzp _ HS.out.2 HS.out.1; omega
          have hz2 : 0 < z := by omega
          clear hzp
          go_wp2_with fail
          all_goals first | (exfalso; omega) | skip
          all_goals
            go_ret
            exact ⟨rfl, D7⟩
      · exact absurd hlt (by omega)

end Go.Proofs.Ytepfckicaafilaa
