/-
  XAQ.
-/
import Derived.Test.YtmcklkkkkigflaaGreatXAP
import Derived.Test.YtmcklkkkkigflaaGreatXAE
import Derived.ProofKit
import Derived.OpenShut
import Derived.Deep.Slices
set_option maxHeartbeats 8000000
set_option maxRecDepth 100000
namespace Go.Proofs.YtmcklkkkkigflaaGreat
open Go.RowKit Go.Maps
def allRl : Rl := ⟨true, 65535, 65535, 255, 255, by omega, by omega, by omega, by omega⟩
theorem sel_allS (k first : Nat) (x : Env) : sel k (2 ^ 2 ^ k - 1) first x = true := by
 rw [sel_val, Nat.testBit_two_pow_sub_one]
 simp [val_lt]
theorem letsF_allS (x : Env) : letsF [allRl] x = true := by
 have e4 : ∀ f, sel 4 65535 f x = true := fun f => sel_allS 4 f x
 have e3 : ∀ f, sel 3 255 f x = true := fun f => sel_allS 3 f x
 show (if phi 65535 65535 255 255 x then true else letsF [] x) = true
 unfold phi
 rw [e4, e4, e3, e3]
 rfl
theorem BPost.setD {E : Prop} {base a M : Nat} {w w' : World} {ns : List Nd} {xs : List Rl} {e : Ending} (h : BPost E base a M w ns xs e w') : SPostD E base a M 40000 (letsF xs) w ns e w' := by
 obtain ⟨ns', r1, r2, r3, ⟨f, e1, e2, e3⟩ | ⟨e1, hE⟩⟩ := h
 ·exact ⟨ns', f, 0, e1, r1, r2, r3, ⟨Or.inl ⟨rfl, f, rfl, e2, e3⟩⟩⟩
 ·exact ⟨ns', 0, 6, e1, r1, r2, r3, ⟨Or.inr ⟨rfl, rfl, hE⟩⟩⟩
theorem rules_gen (A B : Option Addr) (cap cap2 : Nat) (xs ys : List Rl) (w : World) (hR : Rules w.heap.size w (.slice A xs.length cap) xs) (hS : Rules w.heap.size w (.slice B ys.length cap2) ys) :
  Calls Tryz.prog 4 #[.slice A xs.length cap, .slice B ys.length cap2, .int .i64 40000] w fun e w' => RuPost True xs.length ys.length 40000 (letsF xs) (letsF ys) e ∧ Below w.heap.size w w' :=
 rules_any A B xs.length cap ys.length cap2 xs ys 40000 w hR hS True ⟨fun _ _ _ _ h4 _ _ _ _ _ hb hA => (abuild_m hA A _ cap xs ((hR.below hb).mono hb.size) h4).mono fun _ _ h => h.set⟩ ⟨fun _ _ _ _ h4 _ _ _ _ _ hb hA => (abuild_m hA B _ cap2 ys ((hS.below hb).mono hb.size) h4).mono fun _ _ h => h.set⟩
theorem rules_const (g : Nat) (w : World) (hB : Bk w g #[.bool true, .int .u16 65535, .int .u16 65535, .int .u8 255, .int .u8 255] 36) :
  Calls Tryz.prog 4 #[.slice (some ⟨g, 0, none⟩) 1 1, .slice none 0 0, .int .i64 40000] w fun e w' => e = tri 0 0 0 0 1 0 ∧ Below w.heap.size w w' := by
 have hR : Rules w.heap.size w (.slice (some ⟨g, 0, none⟩) 1 1) [allRl] := ⟨_, _, rfl, (fun h => by cases h), (by decide), (by unfold maxLen; omega), fun _ => ⟨g, 0, rfl, hB.lt, fun j u hj => by
  have : (cellsR [allRl]) = #[Value.bool true, .int .u16 65535, .int .u16 65535, .int .u8 255, .int .u8 255].toList := rfl
  rw [this] at hj
  rw [Nat.zero_add, hB.at j]
  simpa using hj⟩⟩
 have hS : Rules w.heap.size w (.slice none 0 0) [] := ⟨_, _, rfl, (fun _ => rfl), (by decide), (by unfold maxLen; omega), fun h => absurd rfl h⟩
 refine (rules_any (some ⟨g, 0, none⟩) none 1 1 0 0 [allRl] [] 40000 w hR hS False ⟨fun mo h1 _ _ _ _ _ _ _ _ hb hA => ?_⟩ ⟨fun mo h1 _ _ _ _ _ _ _ _ hb hA => ?_⟩).mono fun e w' ⟨h1, h2⟩ => ⟨?_, h2⟩
 ·obtain rfl : mo = 40000 := by omega
  exact (abuild_const hA _ 1 1 [allRl] ((hR.below hb).mono hb.size) (by decide) true letsF_allS).mono fun _ _ h => h.setD
 ·obtain rfl : mo = 40000 := by omega
  exact (abuild_const hA _ 0 0 [] ((hS.below hb).mono hb.size) (by decide) false (fun _ => rfl)).mono fun _ _ h => h.setD
 ·unfold RuPost at h1
  rw [if_neg (by omega), if_neg (by omega)] at h1
  exact bt_const h1 letsF_allS (fun _ => rfl)
abbrev set4 (W : World) (k : Nat) (a b c d : Value) : World := (((W.setCell ⟨k, 0, none⟩ a).setCell ⟨k, 1, none⟩ b).setCell ⟨k, 2, none⟩ c).setCell ⟨k, 3, none⟩ d
section
variable {W w0 : World} {k B : Nat} {t : TypeId} {x0 x1 x2 x3 a b c d : Value}
theorem Bk.set4 (h : Bk W k #[x0, x1, x2, x3] t) : Bk (set4 W k a b c d) k #[a, b, c, d] t := by
 have := (((h.setS (j := 0) a).setS (j := 1) b).setS (j := 2) c).setS (j := 3) d
 simpa using this
theorem set4_other {i : Nat} (hi : i ≠ k) : (set4 W k a b c d).heap[i]? = W.heap[i]? :=
 (Below.heap_setCell _ ⟨k, 3, none⟩ _ i hi).trans ((Below.heap_setCell _ ⟨k, 2, none⟩ _ i hi).trans ((Below.heap_setCell _ ⟨k, 1, none⟩ _ i hi).trans (Below.heap_setCell _ ⟨k, 0, none⟩ _ i hi)))
theorem set4_below (h : Below B w0 W) (hk : B <= k) : Below B w0 (set4 W k a b c d) := below_setS (below_setS (below_setS (below_setS h hk) hk) hk) hk
end
theorem self_any (A B C D X Y : Option Addr) (cap cap' cq cq' cx cy : Nat) (da : List Dv) (la : List Lk) (db : List Dv) (lb : List Lk) (s : ByteArray) (xs ys : List Rl) (w : World) (hD : Hid (Devs w.heap.size w (.slice A da.length cap) da)) (hL : Hid (Links w.heap.size w (.slice B la.length cap') la)) (hE : Hid (Devs w.heap.size w (.slice C db.length cq) db)) (hM : Hid (Links w.heap.size w (.slice D lb.length cq') lb)) (hX : Hid (Rules w.heap.size w (.slice X xs.length cx) xs)) (hY : Hid (Rules w.heap.size w (.slice Y ys.length cy) ys)) :
  Calls Tryz.prog 3 #[.agg #[.slice A da.length cap, .slice B la.length cap'], .agg #[.slice C db.length cq, .slice D lb.length cq'], .string s, .slice X xs.length cx, .slice Y ys.length cy] w fun e w' => e = .returned (.bool true) ∧ Below w.heap.size w w' := by
 have D0 : Below w.heap.size w ((w.alloc (.cells #[.slice A da.length cap, .slice B la.length cap'] 25)).alloc (.cells #[.slice C db.length cq, .slice D lb.length cq'] 25)) := Below.alloc' (Below.alloc' (Below.refl _ _) _) _
 have N0 := (bk_new w #[.slice A da.length cap, .slice B la.length cap'] 25).alloc (.cells #[.slice C db.length cq, .slice D lb.length cq'] 25)
 have M0 := bk_new' (w.alloc (.cells #[.slice A da.length cap, .slice B la.length cap'] 25)) #[.slice C db.length cq, .slice D lb.length cq'] 25 (w.heap.size + 1) (by simp)
 have AL : Hid (∀ W, Calls Tryz.prog 5 #[.bool true] W fun e w' => e = .returned (.agg #[.bool true, .int .u16 65535, .int .u16 65535, .int .u8 255, .int .u8 255]) ∧ Below W.heap.size W w') := fun W => all_anyR true W
 have RS : Hid (∀ W, Below w.heap.size w W -> Calls Tryz.prog 4 #[.slice X xs.length cx, .slice X xs.length cx, .int .i64 40000] W fun e w' => ∃ x0 x1 x2 x3 k er : Int, e = tri x0 x1 x2 x3 k er ∧ Hid (k = 0) ∧ Below W.heap.size W w') := fun W h => (rules_gen X X cx cx xs xs W ((hX.out.below h).mono h.size) ((hX.out.below h).mono h.size)).mono fun e w' ⟨h1, h2⟩ => by
  obtain ⟨x0, x1, x2, x3, k, er, rfl⟩ := ru_parts h1
  exact ⟨x0, x1, x2, x3, k, er, rfl, ru_self h1, h2⟩
 have RXY : Hid (∀ W, Below w.heap.size w W -> Calls Tryz.prog 4 #[.slice X xs.length cx, .slice Y ys.length cy, .int .i64 40000] W fun e w' => ∃ x0 x1 x2 x3 k er : Int, e = tri x0 x1 x2 x3 k er ∧ Hid (RuPost True xs.length ys.length 40000 (letsF xs) (letsF ys) e) ∧ Below W.heap.size W w') := fun W h => (rules_gen X Y cx cy xs ys W ((hX.out.below h).mono h.size) ((hY.out.below h).mono h.size)).mono fun e w' ⟨h1, h2⟩ => by
  obtain ⟨x0, x1, x2, x3, k, er, rfl⟩ := ru_parts h1
  exact ⟨x0, x1, x2, x3, k, er, rfl, h1, h2⟩
 have RYX : Hid (∀ W, Below w.heap.size w W -> Calls Tryz.prog 4 #[.slice Y ys.length cy, .slice X xs.length cx, .int .i64 40000] W fun e w' => ∃ x0 x1 x2 x3 k er : Int, e = tri x0 x1 x2 x3 k er ∧ Hid (RuPost True ys.length xs.length 40000 (letsF ys) (letsF xs) e) ∧ Below W.heap.size W w') := fun W h => (rules_gen Y X cy cx ys xs W ((hY.out.below h).mono h.size) ((hX.out.below h).mono h.size)).mono fun e w' ⟨h1, h2⟩ => by
  obtain ⟨x0, x1, x2, x3, k, er, rfl⟩ := ru_parts h1
  exact ⟨x0, x1, x2, x3, k, er, rfl, h1, h2⟩
 have AA : Hid (∀ W, Below w.heap.size w W -> Calls Tryz.prog 6 #[.agg #[.slice A da.length cap, .slice B la.length cap'], .agg #[.slice A da.length cap, .slice B la.length cap'], .string s, .int .i64 40000] W fun e w' => ∃ x0 x1 x2 x3 k er : Int, e = tri x0 x1 x2 x3 k er ∧ Hid (k = 0) ∧ Below W.heap.size W w') := fun W h => (at_any2 A B A B cap cap' cap cap' da la da la s W ((hD.out.below h).mono h.size) ((hL.out.below h).mono h.size) ((hD.out.below h).mono h.size) ((hL.out.below h).mono h.size)).mono fun e w' ⟨h1, h2⟩ => by
  obtain ⟨x0, x1, x2, x3, k, er, rfl⟩ := at_parts h1
  exact ⟨x0, x1, x2, x3, k, er, rfl, at_self h1, h2⟩
 have AB : Hid (∀ W, Below w.heap.size w W -> Calls Tryz.prog 6 #[.agg #[.slice A da.length cap, .slice B la.length cap'], .agg #[.slice C db.length cq, .slice D lb.length cq'], .string s, .int .i64 40000] W fun e w' => ∃ x0 x1 x2 x3 k er : Int, e = tri x0 x1 x2 x3 k er ∧ Hid (AtOut da la db lb s.toList e) ∧ Below W.heap.size W w') := fun W h => (at_any2 A B C D cap cap' cq cq' da la db lb s W ((hD.out.below h).mono h.size) ((hL.out.below h).mono h.size) ((hE.out.below h).mono h.size) ((hM.out.below h).mono h.size)).mono fun e w' ⟨h1, h2⟩ => by
  obtain ⟨x0, x1, x2, x3, k, er, rfl⟩ := at_parts h1
  exact ⟨x0, x1, x2, x3, k, er, rfl, h1, h2⟩
 have BA : Hid (∀ W, Below w.heap.size w W -> Calls Tryz.prog 6 #[.agg #[.slice C db.length cq, .slice D lb.length cq'], .agg #[.slice A da.length cap, .slice B la.length cap'], .string s, .int .i64 40000] W fun e w' => ∃ x0 x1 x2 x3 k er : Int, e = tri x0 x1 x2 x3 k er ∧ Hid (AtOut db lb da la s.toList e) ∧ Below W.heap.size W w') := fun W h => (at_any2 C D A B cq cq' cap cap' db lb da la s W ((hE.out.below h).mono h.size) ((hM.out.below h).mono h.size) ((hD.out.below h).mono h.size) ((hL.out.below h).mono h.size)).mono fun e w' ⟨h1, h2⟩ => by
  obtain ⟨x0, x1, x2, x3, k, er, rfl⟩ := at_parts h1
  exact ⟨x0, x1, x2, x3, k, er, rfl, h1, h2⟩
 clear hD hL hE hM hX hY
 go_enter Tryz.func3, Tryz.ntmps3
 go_wp2_with fail
 refine (AL.out _).mono ?_
 rintro e w1 ⟨rfl, hb1⟩
 have D1 := chain hb1 D0
 have N1 := Bk.keep hb1 N0
 have M1 := Bk.keep hb1 M0
 clear hb1 D0 N0 M0 AL
 have hx : Below w1.heap.size w1 (w1.alloc (.cells #[.bool true, .int .u16 65535, .int .u16 65535, .int .u8 255, .int .u8 255] 36)) := Below.alloc' (Below.refl _ _) _
 have D2 := chain hx D1
 have N2 := Bk.keep hx N1
 have M2 := Bk.keep hx M1
 have RC := Hid.of (rules_const w1.heap.size _ (bk_new w1 #[.bool true, .int .u16 65535, .int .u16 65535, .int .u8 255, .int .u8 255] 36))
 clear hx D1 N1 M1
 go_wp2_with fail
 refine RC.out.mono ?_
 rintro e w3 ⟨rfl, hb3⟩
 have D3 := chain hb3 D2
 have N3 := Bk.keep hb3 N2
 have M3 := Bk.keep hb3 M2
 clear hb3 D2 N2 M2 RC
 have hx : Below w3.heap.size w3 (w3.alloc (.cells #[.int .i64 0, .int .i64 0, .int .i64 0, .int .i64 0] 28)) := Below.alloc' (Below.refl _ _) _
 have D4 := chain hx D3
 have N4 := Bk.keep hx N3
 have M4 := Bk.keep hx M3
 have P4 := (bk_new w3 #[.int .i64 0, .int .i64 0, .int .i64 0, .int .i64 0] 28).four
 clear hx D3 N3 M3
 go_upto_region 2 with fail
 generalize w3.alloc (.cells #[.int .i64 0, .int .i64 0, .int .i64 0, .int .i64 0] 28) = w4 at *
 generalize w3.heap.size = b3 at *
 obtain ⟨p0, p1, p2, p3, -⟩ := P4
 go_upto_region 4 with fail
 clear p0 p1 p2 p3
 go_wp2_with fail
 refine (RS.out _ D4).mono ?_
 rintro e w5 ⟨x0, x1, x2, x3, k, er, rfl, hk, hb5⟩
 obtain rfl := hk.out
 have D5 := chain hb5 D4
 have N5 := Bk.keep hb5 N4
 have M5 := Bk.keep hb5 M4
 clear hb5 D4 N4 M4 RS
 have hx : Below w5.heap.size w5 (w5.alloc (.cells #[.int .i64 x0, .int .i64 x1, .int .i64 x2, .int .i64 x3] 28)) := Below.alloc' (Below.refl _ _) _
 have D6 := chain hx D5
 have N6 := Bk.keep hx N5
 have M6 := Bk.keep hx M5
 clear hx D5 N5 M5
 go_upto_region 5 with fail
 generalize w5.alloc (.cells #[.int .i64 x0, .int .i64 x1, .int .i64 x2, .int .i64 x3] 28) = w6 at *
 go_upto_region 7 with fail
 go_wp2_with fail
 refine (RXY.out _ D6).mono ?_
 rintro e w7 ⟨y0, y1, y2, y3, k1, er1, rfl, hp1, hb7⟩
 have D7 := chain hb7 D6
 have N7 := Bk.keep hb7 N6
 have M7 := Bk.keep hb7 M6
 clear hb7 D6 N6 M6 RXY
 have hx : Below w7.heap.size w7 (w7.alloc (.cells #[.int .i64 y0, .int .i64 y1, .int .i64 y2, .int .i64 y3] 28)) := Below.alloc' (Below.refl _ _) _
 have D8 := chain hx D7
 have N8 := Bk.keep hx N7
 have M8 := Bk.keep hx M7
 have P8 := bk_new w7 #[.int .i64 y0, .int .i64 y1, .int .i64 y2, .int .i64 y3] 28
 have g7 : w.heap.size + 1 < w7.heap.size := M7.lt
 clear hx D7 N7 M7
 go_upto_region 8 with fail
 generalize w7.alloc (.cells #[.int .i64 y0, .int .i64 y1, .int .i64 y2, .int .i64 y3] 28) = w8 at *
 generalize w7.heap.size = b7 at *
 go_wp2_with fail
 refine (RYX.out _ D8).mono ?_
 rintro e w9 ⟨z0, z1, z2, z3, k2, er2, rfl, hp2, hb9⟩
 have D9 := chain hb9 D8
 have N9 := Bk.keep hb9 N8
 have M9 := Bk.keep hb9 M8
 have P9 := Bk.keep hb9 P8
 have PO := Hid.of (ru_pair hp1.out hp2.out)
 clear hb9 D8 N8 M8 P8 RYX hp1 hp2
 have hx : Below w9.heap.size w9 (w9.alloc (.cells #[.int .i64 z0, .int .i64 z1, .int .i64 z2, .int .i64 z3] 28)) := Below.alloc' (Below.refl _ _) _
 have D10 := chain hx D9
 have N10 := Bk.keep hx N9
 have M10 := Bk.keep hx M9
 have P10 := Bk.keep hx P9
 have Q10 := bk_new w9 #[.int .i64 z0, .int .i64 z1, .int .i64 z2, .int .i64 z3] 28
 have g9 : b7 < w9.heap.size := P9.lt
 clear hx D9 N9 M9 P9
 go_upto_region 9 with fail
 generalize w9.alloc (.cells #[.int .i64 z0, .int .i64 z1, .int .i64 z2, .int .i64 z3] 28) = w10 at *
 generalize w9.heap.size = b9 at *
 go_cut [93] from 71 to 93 (fun v93 wx => v93 = .bool false ∧ wx = w10)
 case first =>
  obtain ⟨p0, p1, p2, p3, -⟩ := P10.four
  obtain ⟨q0, q1, q2, q3, -⟩ := Q10.four
  have l0 := P10.lt
  have l1 := Q10.lt
  rcases PO.out with h1 | h1 | ⟨rfl, rfl, rfl, rfl, h1⟩
  ·have h1' : (er1 == 0) = false := by simpa using h1
   clear P10 Q10 PO AA AB BA
   go_wp2_with fail
   go_meet
   exact ⟨rfl, rfl⟩
  ·by_cases h2 : er1 = 0
   ·subst h2
    have h1' : (er2 == 0) = false := by simpa using h1
    clear P10 Q10 PO AA AB BA
    go_wp2_with fail
    go_meet
    exact ⟨rfl, rfl⟩
   ·have h1' : (er1 == 0) = false := by simpa using h2
    clear P10 Q10 PO AA AB BA
    go_wp2_with fail
    go_meet
    exact ⟨rfl, rfl⟩
  ·by_cases h2 : er1 = 0
   ·by_cases h3 : er2 = 0
    ·subst h2
     subst h3
     clear P10 Q10 PO AA AB BA
     rcases h1 with ⟨rfl, rfl⟩ | ⟨rfl, rfl⟩ | ⟨rfl, rfl⟩
     all_goals
      go_wp2_with fail
      go_meet
      exact ⟨rfl, rfl⟩
    ·subst h2
     have h1' : (er2 == 0) = false := by simpa using h3
     clear P10 Q10 PO AA AB BA h1
     go_wp2_with fail
     go_meet
     exact ⟨rfl, rfl⟩
   ·have h1' : (er1 == 0) = false := by simpa using h2
    clear P10 Q10 PO AA AB BA h1
    go_wp2_with fail
    go_meet
    exact ⟨rfl, rfl⟩
 case rest =>
  obtain ⟨rfl, rfl⟩ := hcut
  clear PO
  obtain ⟨n0, n1⟩ := N10.two
  have ln := N10.lt
  go_upto_region 11 with fail
  go_wp2_with fail
  refine (AA.out _ D10).mono ?_
  rintro e w11 ⟨u0, u1', u2', u3', k, er, rfl, hk, hb11⟩
  obtain rfl := hk.out
  have D11 := chain hb11 D10
  have N11 := Bk.keep hb11 N10
  have M11 := Bk.keep hb11 M10
  have P11 := Bk.keep hb11 P10
  have Q11 := Bk.keep hb11 Q10
  clear hb11 D10 N10 M10 P10 Q10 AA n0 n1 ln
  have hx : Below w11.heap.size w11 (w11.alloc (.cells #[.int .i64 u0, .int .i64 u1', .int .i64 u2', .int .i64 u3'] 28)) := Below.alloc' (Below.refl _ _) _
  have D12 := chain hx D11
  have N12 := Bk.keep hx N11
  have M12 := Bk.keep hx M11
  have P12 := Bk.keep hx P11
  have Q12 := Bk.keep hx Q11
  clear hx D11 N11 M11 P11 Q11
  go_upto_region 12 with fail
  generalize w11.alloc (.cells #[.int .i64 u0, .int .i64 u1', .int .i64 u2', .int .i64 u3'] 28) = w12 at *
  go_upto_region 14 with fail
  obtain ⟨n0, n1⟩ := N12.two
  obtain ⟨m0, m1⟩ := M12.two
  have ln := N12.lt
  have lm := M12.lt
  go_wp2_with fail
  refine (AB.out _ D12).mono ?_
  rintro e w13 ⟨y0, y1, y2, y3, k1, er1, rfl, hp1, hb13⟩
  have D13 := chain hb13 D12
  have N13 := Bk.keep hb13 N12
  have M13 := Bk.keep hb13 M12
  have P13 := Bk.keep hb13 P12
  have Q13 := Bk.keep hb13 Q12
  clear hb13 D12 N12 M12 P12 Q12 AB n0 n1 ln m0 m1 lm
  obtain ⟨p0, p1, p2, p3, f0, f1, f2, f3⟩ := P13.four
  have l0 := P13.lt
  have P14 : Bk ((((w13.setCell ⟨b7, 0, none⟩ (.int .i64 y0)).setCell ⟨b7, 1, none⟩ (.int .i64 y1)).setCell ⟨b7, 2, none⟩ (.int .i64 y2)).setCell ⟨b7, 3, none⟩ (.int .i64 y3)) b7 #[.int .i64 y0, .int .i64 y1, .int .i64 y2, .int .i64 y3] 28 := P13.set4
  have N14 : Bk ((((w13.setCell ⟨b7, 0, none⟩ (.int .i64 y0)).setCell ⟨b7, 1, none⟩ (.int .i64 y1)).setCell ⟨b7, 2, none⟩ (.int .i64 y2)).setCell ⟨b7, 3, none⟩ (.int .i64 y3)) w.heap.size #[.slice A da.length cap, .slice B la.length cap'] 25 := (set4_other (by omega)).trans N13
  have M14 : Bk ((((w13.setCell ⟨b7, 0, none⟩ (.int .i64 y0)).setCell ⟨b7, 1, none⟩ (.int .i64 y1)).setCell ⟨b7, 2, none⟩ (.int .i64 y2)).setCell ⟨b7, 3, none⟩ (.int .i64 y3)) (w.heap.size + 1) #[.slice C db.length cq, .slice D lb.length cq'] 25 := (set4_other (by omega)).trans M13
  have Q14 : Bk ((((w13.setCell ⟨b7, 0, none⟩ (.int .i64 y0)).setCell ⟨b7, 1, none⟩ (.int .i64 y1)).setCell ⟨b7, 2, none⟩ (.int .i64 y2)).setCell ⟨b7, 3, none⟩ (.int .i64 y3)) b9 #[.int .i64 z0, .int .i64 z1, .int .i64 z2, .int .i64 z3] 28 := (set4_other (by omega)).trans Q13
  have D14 : Below w.heap.size w ((((w13.setCell ⟨b7, 0, none⟩ (.int .i64 y0)).setCell ⟨b7, 1, none⟩ (.int .i64 y1)).setCell ⟨b7, 2, none⟩ (.int .i64 y2)).setCell ⟨b7, 3, none⟩ (.int .i64 y3)) := set4_below D13 (by omega)
  clear P13 N13 M13 Q13 D13
  go_upto_region 15 with fail
  clear p0 p1 p2 p3 f0 f1 f2 f3 l0
  generalize ((((w13.setCell ⟨b7, 0, none⟩ (.int .i64 y0)).setCell ⟨b7, 1, none⟩ (.int .i64 y1)).setCell ⟨b7, 2, none⟩ (.int .i64 y2)).setCell ⟨b7, 3, none⟩ (.int .i64 y3)) = w14 at *
  obtain ⟨n0, n1⟩ := N14.two
  obtain ⟨m0, m1⟩ := M14.two
  have ln := N14.lt
  have lm := M14.lt
  go_wp2_with fail
  refine (BA.out _ D14).mono ?_
  rintro e w15 ⟨v0, v1, v2, v3, k2, er2, rfl, hp2, hb15⟩
  have D15 := chain hb15 D14
  have P15 := Bk.keep hb15 P14
  have Q15 := Bk.keep hb15 Q14
  have PO := Hid.of (at_pair hp1.out hp2.out)
  clear hb15 D14 N14 M14 P14 Q14 BA n0 n1 ln m0 m1 lm hp1 hp2
  obtain ⟨p0, p1, p2, p3, f0, f1, f2, f3⟩ := Q15.four
  have l0 := Q15.lt
  have Q16 : Bk ((((w15.setCell ⟨b9, 0, none⟩ (.int .i64 v0)).setCell ⟨b9, 1, none⟩ (.int .i64 v1)).setCell ⟨b9, 2, none⟩ (.int .i64 v2)).setCell ⟨b9, 3, none⟩ (.int .i64 v3)) b9 #[.int .i64 v0, .int .i64 v1, .int .i64 v2, .int .i64 v3] 28 := Q15.set4
  have P16 : Bk ((((w15.setCell ⟨b9, 0, none⟩ (.int .i64 v0)).setCell ⟨b9, 1, none⟩ (.int .i64 v1)).setCell ⟨b9, 2, none⟩ (.int .i64 v2)).setCell ⟨b9, 3, none⟩ (.int .i64 v3)) b7 #[.int .i64 y0, .int .i64 y1, .int .i64 y2, .int .i64 y3] 28 := (set4_other (by omega)).trans P15
  have D16 : Below w.heap.size w ((((w15.setCell ⟨b9, 0, none⟩ (.int .i64 v0)).setCell ⟨b9, 1, none⟩ (.int .i64 v1)).setCell ⟨b9, 2, none⟩ (.int .i64 v2)).setCell ⟨b9, 3, none⟩ (.int .i64 v3)) := set4_below D15 (by omega)
  clear P15 Q15 D15
  go_upto_region 16 with fail
  clear p0 p1 p2 p3 f0 f1 f2 f3 l0
  generalize ((((w15.setCell ⟨b9, 0, none⟩ (.int .i64 v0)).setCell ⟨b9, 1, none⟩ (.int .i64 v1)).setCell ⟨b9, 2, none⟩ (.int .i64 v2)).setCell ⟨b9, 3, none⟩ (.int .i64 v3)) = w16 at *
  obtain ⟨p0, p1, p2, p3, -⟩ := P16.four
  obtain ⟨q0, q1, q2, q3, -⟩ := Q16.four
  have l0 := P16.lt
  have l1 := Q16.lt
  rcases PO.out with h1 | h1 | ⟨rfl, rfl, rfl, rfl, h1⟩
  ·have h1' : (er1 != 0) = true := by simpa using h1
   clear P16 Q16 PO
   go_wp2_with fail
   go_ret
   exact ⟨rfl, D16⟩
  ·by_cases h2 : er1 = 0
   ·subst h2
    have h1' : (er2 != 0) = true := by simpa using h1
    clear P16 Q16 PO
    go_wp2_with fail
    go_ret
    exact ⟨rfl, D16⟩
   ·have h1' : (er1 != 0) = true := by simpa using h2
    clear P16 Q16 PO
    go_wp2_with fail
    go_ret
    exact ⟨rfl, D16⟩
  ·by_cases h2 : er1 = 0
   ·by_cases h3 : er2 = 0
    ·subst h2
     subst h3
     clear P16 Q16 PO
     rcases h1 with ⟨rfl, rfl⟩ | ⟨rfl, rfl⟩ | ⟨rfl, rfl⟩
     all_goals
      go_wp2_with fail
      go_ret
      exact ⟨rfl, D16⟩
    ·subst h2
     have h1' : (er2 != 0) = true := by simpa using h3
     clear P16 Q16 PO h1
     go_wp2_with fail
     go_ret
     exact ⟨rfl, D16⟩
   ·have h1' : (er1 != 0) = true := by simpa using h2
    clear P16 Q16 PO h1
    go_wp2_with fail
    go_ret
    exact ⟨rfl, D16⟩
end Go.Proofs.YtmcklkkkkigflaaGreat
namespace Go.Proofs.YtmcklkkkkigflaaGreat
open Go.ChangeShapes Go.WideShapes Go.RowKit Go.Deep
theorem cellsRule : Tryz.prog.cellsOf 36 = 5 := by kernel_rfl
theorem cellsMatch : Tryz.prog.cellsOf 34 = 4 := by kernel_rfl
theorem cellsBool : Tryz.prog.cellsOf 4 = 1 := by kernel_rfl
theorem cellsU16 : Tryz.prog.cellsOf 32 = 1 := by kernel_rfl
theorem cellsU8 : Tryz.prog.cellsOf 5 = 1 := by kernel_rfl
theorem nat_of {x : Int} {n : Nat} (h0 : 0 <= x) (h1 : x <= (n : Int)) : ∃ k : Nat, x = (k : Int) ∧ k < n + 1 := ⟨x.toNat, by omega, by omega⟩
theorem spot_none {w : World} {a : Addr} {v : Value} (h : w.cell? a = some v) : a.spot = none := by
 unfold World.cell? at h
 split at h
 ·split at h
  ·cases h
  ·rename_i hs
   cases hp : a.spot
   ·rfl
   ·rw [hp] at hs; simp at hs
 ·cases h
theorem choose_lt' {n : Nat} {p : Nat -> Rl -> Prop} (h : ∀ i, i < n -> ∃ x, p i x) : ∃ f : Nat -> Rl, ∀ i, i < n -> p i (f i) := by
 haveI : Inhabited Rl := ⟨allR false⟩
 exact choose_lt h
theorem cellsR_split : ∀ (xs : List Rl) (k : Nat) (r : Rl), xs[k]? = some r -> ∀ j, j < 5 -> (cellsR xs)[k * 5 + j]? = (rcells r)[j]? := by
 intro xs k r h j hj
 obtain ⟨h0, h1, h2, h3, h4⟩ := cellsR_at xs k r h
 match j, hj with
 | 0, _ => exact h0
 | 1, _ => exact h1
 | 2, _ => exact h2
 | 3, _ => exact h3
 | 4, _ => exact h4
section
variable {H : Type} {enc : TypeId × Value -> H} {W : World} {sp : Nat -> Bool} {held : Bool}
theorem rule_cells {fuel : Nat} {cs : List Value} {x : DataW H × List MemPlace} (hl : cs.length = 5) (h : DataW.trod enc Tryz.prog W 0 sp held fuel 36 cs = some x) : ∃ r : Rl, cs = rcells r := by
 obtain ⟨xs, k, hk, hxy, _, hxl, hf⟩ := DataW.trod_struct Tryz.underlying36 h
 match xs, hxl, cs, hl with
 | [y0, y1], _, [v0, v1, v2, v3, v4], _ =>
   have g0 := hf 0 _ rfl
   have g1 := hf 1 _ rfl
   simp [cellsBool, cellsMatch] at g0 g1
   obtain ⟨ok, q0, _⟩ := DataW.trod_bool Tryz.underlying4 g0
   obtain ⟨xs, k, hk, hxy, _, hxl, hf⟩ := DataW.trod_struct Tryz.underlying34 g1
   match xs, hxl with
   | [z0, z1, z2, z3], _ =>
     have g0 := hf 0 _ rfl
     have g1 := hf 1 _ rfl
     have g2 := hf 2 _ rfl
     have g3 := hf 3 _ rfl
     simp [cellsU16, cellsU8] at g0 g1 g2 g3
     obtain ⟨x0, e0, _, w0⟩ := DataW.trod_int Tryz.underlying32 g0
     obtain ⟨x1, e1, _, w1⟩ := DataW.trod_int Tryz.underlying32 g1
     obtain ⟨x2, e2, _, w2⟩ := DataW.trod_int Tryz.underlying5 g2
     obtain ⟨x3, e3, _, w3⟩ := DataW.trod_int Tryz.underlying5 g3
     simp only [List.cons.injEq, and_true] at q0 e0 e1 e2 e3
     subst q0 e0 e1 e2 e3
     obtain ⟨na, rfl, la⟩ := nat_of (n := 65535) (bounds_u16 w0).1 (bounds_u16 w0).2
     obtain ⟨nb, rfl, lb⟩ := nat_of (n := 65535) (bounds_u16 w1).1 (bounds_u16 w1).2
     obtain ⟨nc, rfl, lc⟩ := nat_of (n := 255) (bounds_u8 w2).1 (bounds_u8 w2).2
     obtain ⟨nd', rfl, ld⟩ := nat_of (n := 255) (bounds_u8 w3).1 (bounds_u8 w3).2
     exact ⟨⟨ok, na, nb, nc, nd', by omega, by omega, by omega, by omega⟩, rfl⟩
theorem rules_open {v : Value} {d : DataW H} {ps : List MemPlace} (h : DataW.Trod enc Tryz.prog W 0 sp held 26 v d ps) (hv : v.cells.toList = [v]) :
  ∃ xs : List Rl, Rules W.heap.size W v xs ∧ ((d = .nil ∧ xs = []) ∨ ∃ es spare, d = .slice es spare ∧ es.length = xs.length) := by
 obtain ⟨fuel, h⟩ := h
 rw [hv] at h
 rcases open_slice Tryz.underlying26 h with ⟨h0, h00⟩ | ⟨a, len, cap, m, n, D, Pl, h0, _, hl, hm, hmm, hd, hx⟩
 ·obtain rfl : v = .slice none 0 0 := by simpa using h0
  exact ⟨[], ⟨none, 0, rfl, fun _ => rfl, Nat.le_refl _, Nat.zero_le _, fun hn => absurd rfl hn⟩, .inl ⟨(Prod.mk.inj h00).1, rfl⟩⟩
 ·obtain rfl : v = .slice (some a) len cap := by simpa using h0
  have hlm : len <= m := by rw [hmm]; split <;> omega
  obtain ⟨hd1, _⟩ := Prod.mk.inj hd
  by_cases h00 : len = 0
  ·subst h00
   exact ⟨[], ⟨some a, cap, rfl, (fun e => by cases e), hl, hm, fun hn => absurd rfl hn⟩, .inr ⟨_, _, hd1, by simp⟩⟩
  ·have each : ∀ i, i < len -> ∃ r : Rl, ∀ j u, (rcells r)[j]? = some u -> W.cell? ((a.add (i * 5)).add j) = some u := by
    intro i hi
    obtain ⟨cs', h1, h2⟩ := hx i (by omega)
    rw [cellsRule] at h1
    obtain ⟨_, hlen, hcell⟩ := World.cells?_some h1
    obtain ⟨r, rfl⟩ := rule_cells hlen h2
    refine ⟨r, fun j u hj => ?_⟩
    have hj5 : j < 5 := by
     have := (List.getElem?_eq_some_iff.1 hj).1
     simpa using this
    have := hcell j hj5
    rw [hj] at this
    exact this
   have hsp : a.spot = none := by
    obtain ⟨r, e0⟩ := each 0 (by omega)
    have := e0 0 _ rfl
    exact spot_none (a := a) (by simpa [Addr.add] using this)
   obtain ⟨b, o, sp'⟩ := a
   simp only [] at hsp
   subst hsp
   obtain ⟨f, hf⟩ := choose_lt' each
   have hlb : b < W.heap.size := by
    have := hf 0 (by omega) 0 _ rfl
    rw [Addr.add_lit, Addr.add_lit] at this
    exact World.block_lt_of_cell? W _ this
   have hlen : ((List.range len).map f).length = len := by simp
   refine ⟨(List.range len).map f, ⟨some ⟨b, o, none⟩, cap, by rw [hlen], (fun e => by cases e), by rw [hlen]; exact hl, hm, fun _ => ⟨b, o, rfl, hlb, fun j u hj => ?_⟩⟩, .inr ⟨_, _, hd1, by simp⟩⟩
   have hjl : j < len * 5 := by
    have := (List.getElem?_eq_some_iff.1 hj).1
    rw [cellsR_length, hlen] at this
    exact this
   have hk : ((List.range len).map f)[j / 5]? = some (f (j / 5)) := by
    rw [List.getElem?_map, List.getElem?_range (by omega)]
    rfl
   have hsplit := cellsR_split _ _ _ hk (j % 5) (Nat.mod_lt _ (by omega))
   rw [show j / 5 * 5 + j % 5 = j by omega, hj] at hsplit
   have := hf (j / 5) (by omega) (j % 5) u hsplit.symm
   rw [Addr.add_lit, Addr.add_lit, show o + j / 5 * 5 + j % 5 = o + j by omega] at this
   exact this
end
end Go.Proofs.YtmcklkkkkigflaaGreat
