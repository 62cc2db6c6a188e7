/-
  StepPins: it returns true.
-/
import Derived.Test.YtecdepgcklgfbaaSf1
import Derived.Test.YtecdepgcklgfbaaSd3
namespace Go.Proofs.Ytecdepgcklgfbaa
open Go.RowKit Go.Maps

/-- A packet and a device that a law holds. -/
def X3 (N : Nat) (p : Pk) (c : Array Value) (W : World) : Prop := Bk W N #[.int .i64 p.s, .int .i64 p.d, .int .i64 p.sp, .int .i64 p.dp] 24 ∧ Bk W (N + 1 + 1) c 43
theorem x3_kt {T N : Nat} {p : Pk} {c : Array Value} (h : N + 1 + 1 < T) : ∀ W W', KT T W W' → X3 N p c W → X3 N p c W' := fun _ _ hk hx => ⟨hx.1.kt hk (by omega), hx.2.kt hk (by omega)⟩
theorem arr_ne_self (x y : Int) (a : Pk) (w : World) : (binOp .neq 47 (.agg #[.int .i64 x, .int .i64 y, .int .i64 a.s, .int .i64 a.d, .int .i64 a.sp, .int .i64 a.dp]) (.agg #[.int .i64 x, .int .i64 y, .int .i64 a.s, .int .i64 a.d, .int .i64 a.sp, .int .i64 a.dp])).run Try.prog w = .ok (.bool false) w := by
  obtain ⟨s, d, sp, dp⟩ := a
  simp [go_sem, Try.underlying47, Try.underlying45, Try.underlying24, Try.underlying3]
set_option maxHeartbeats 8000000 in
set_option maxRecDepth 100000 in
theorem pins_try (A : Option Addr) (cap : Nat) (bs : List Int) (ad s dd sp dp a b : Int) (ha : Hid (i64ok a)) (hb : Hid (i64ok b)) (w : World) (hR : Hid (SlAt w.heap.size w 1 IsI (.slice A bs.length cap) bs)) :
    Calls Try.prog 5 #[.int .i64 ad, .slice A bs.length cap, .agg #[.int .i64 s, .int .i64 dd, .int .i64 sp, .int .i64 dp], .int .i64 a, .int .i64 b] w fun e w' => e = .returned (.bool true) ∧ Below w.heap.size w w' := by
  have nilS : ∀ {α : Type} (W : World) (n : Nat) (R : List Value → α → Prop), SlAt W.heap.size W n R (.slice none 0 0) [] := fun W n R => ⟨none, 0, rfl, fun _ => rfl, Nat.le_refl _, Nat.zero_le _, fun h => absurd rfl h⟩
  have CH : Hid (∀ (x : Int) (l : List Int) (vb : Value) (W : World), SlAt W.heap.size W 1 IsI vb l → Calls Try.prog 8 #[.agg #[.string ⟨#[]⟩, .int .i64 5, .int .i64 x, .int .u8 0, vb, .slice none 0 0, .slice none 0 0]] W fun e w' => ∃ b b', e = .returned (.agg #[.slice (some ⟨b, 0, none⟩) 3 3, .slice (some ⟨b', 0, none⟩) 2 2]) ∧ Devs w'.heap.size w' (.slice (some ⟨b, 0, none⟩) 3 3) (chainD (pinsD x l)) ∧ Links w'.heap.size w' (.slice (some ⟨b', 0, none⟩) 2 2) chainL ∧ Below W.heap.size W w') := fun x l vb W h => chain_any (pinsD x l) vb (.slice none 0 0) (.slice none 0 0) W h (nilS _ _ _) (nilS _ _ _)
  have NW : Hid (∀ (x : Int) (l : List Int) (b b' : Nat) (W : World), Devs W.heap.size W (.slice (some ⟨b, 0, none⟩) 3 3) (chainD (pinsD x l)) → Links W.heap.size W (.slice (some ⟨b', 0, none⟩) 2 2) chainL → Calls Try.prog 7 #[.agg #[.slice (some ⟨b, 0, none⟩) 3 3, .slice (some ⟨b', 0, none⟩) 2 2]] W (NewDeep W (chainD (pinsD x l)) chainL)) := fun x l b b' W h1 h2 => new_deep (some ⟨b, 0, none⟩) (some ⟨b', 0, none⟩) 3 2 (chainD (pinsD x l)) chainL W h1 h2
  have PLC : Hid (∀ (x y : Int) W, Calls Try.prog 11 #[.int .i64 x, .int .i64 y] W fun e w' => e = .returned (plA x y) ∧ Below W.heap.size W w') := fun x y W => place_any x y W
  have D0 := Below.alN (Below.alN (Below.alN (Below.refl w.heap.size w) (pkC ⟨s, dd, sp, dp⟩)) (.cells #[.int .i64 6, .int .i64 7] 3)) (.cells #[.string ⟨#[]⟩, .int .i64 5, .int .i64 5, .int .u8 0, .slice (some ⟨w.heap.size + 1, 0, none⟩) 2 2, .slice none 0 0, .slice none 0 0] 43)
  have X0 : X3 w.heap.size ⟨s, dd, sp, dp⟩ #[.string ⟨#[]⟩, .int .i64 5, .int .i64 5, .int .u8 0, .slice (some ⟨w.heap.size + 1, 0, none⟩) 2 2, .slice none 0 0, .slice none 0 0] (((w.alloc (pkC ⟨s, dd, sp, dp⟩)).alloc (.cells #[.int .i64 6, .int .i64 7] 3)).alloc (.cells #[.string ⟨#[]⟩, .int .i64 5, .int .i64 5, .int .u8 0, .slice (some ⟨w.heap.size + 1, 0, none⟩) 2 2, .slice none 0 0, .slice none 0 0] 43)) := ⟨((bk_new w _ _).alloc _).alloc _, bk_new' _ _ _ _ (by simp)⟩
  have I0 := (bk_new' (w.alloc (pkC ⟨s, dd, sp, dp⟩)) #[.int .i64 6, .int .i64 7] 3 (w.heap.size + 1) (by simp)).alloc (.cells #[.string ⟨#[]⟩, .int .i64 5, .int .i64 5, .int .u8 0, .slice (some ⟨w.heap.size + 1, 0, none⟩) 2 2, .slice none 0 0, .slice none 0 0] 43)
  obtain ⟨d0, d1, d2, d3, d4, d5, d6⟩ := X0.2.seven
  have R0 : SlAt (((w.alloc (pkC ⟨s, dd, sp, dp⟩)).alloc (.cells #[.int .i64 6, .int .i64 7] 3)).alloc (.cells #[.string ⟨#[]⟩, .int .i64 5, .int .i64 5, .int .u8 0, .slice (some ⟨w.heap.size + 1, 0, none⟩) 2 2, .slice none 0 0, .slice none 0 0] 43)).heap.size (((w.alloc (pkC ⟨s, dd, sp, dp⟩)).alloc (.cells #[.int .i64 6, .int .i64 7] 3)).alloc (.cells #[.string ⟨#[]⟩, .int .i64 5, .int .i64 5, .int .u8 0, .slice (some ⟨w.heap.size + 1, 0, none⟩) 2 2, .slice none 0 0, .slice none 0 0] 43)) 1 IsI (.slice (some ⟨w.heap.size + 1, 0, none⟩) 2 2) [6, 7] := by
    refine ⟨_, 2, rfl, (fun e => by cases e), Nat.le_refl _, by decide, fun _ => ⟨w.heap.size + 1, 0, rfl, I0.lt, fun k x hx => ?_⟩⟩
    match k, hx with
    | 0, hx =>
      obtain rfl := Option.some.inj hx
      exact ⟨[.int .i64 6], rfl, rfl, fun j u hj => by
        match j, hj with
        | 0, hj => exact (I0.at 0).trans hj⟩
    | 1, hx =>
      obtain rfl := Option.some.inj hx
      exact ⟨[.int .i64 7], rfl, rfl, fun j u hj => by
        match j, hj with
        | 0, hj => exact (I0.at 1).trans hj⟩
  clear I0
  go_enter Try.func5, Try.ntmps5
  go_wp2_with fail
  refine (CH.out _ _ _ _ R0).mono ?_
  rintro e w2 ⟨b1, b2, rfl, hD2, hL2, hb2⟩
  have D2 := chnN hb2 D0
  have X2' : X3 w.heap.size ⟨s, dd, sp, dp⟩ #[.string ⟨#[]⟩, .int .i64 5, .int .i64 5, .int .u8 0, .slice (some ⟨w.heap.size + 1, 0, none⟩) 2 2, .slice none 0 0, .slice none 0 0] w2 := ⟨X0.1.keep hb2, X0.2.keep hb2⟩
  clear hb2 D0 X0 R0 d0 d1 d2 d3 d4 d5 d6
  go_wp2_with fail
  refine (NW.out _ _ _ _ _ hD2 hL2).mono ?_
  rintro e w3 ⟨hb3, hN⟩
  have D3 := chnN hb3 D2
  have X3' : X3 w.heap.size ⟨s, dd, sp, dp⟩ #[.string ⟨#[]⟩, .int .i64 5, .int .i64 5, .int .u8 0, .slice (some ⟨w.heap.size + 1, 0, none⟩) 2 2, .slice none 0 0, .slice none 0 0] w3 := ⟨X2'.1.keep hb3, X2'.2.keep hb3⟩
  have z2 := D2.size
  clear hb3 D2 X2' hD2 hL2
  rcases hN with ⟨hne, _⟩ | ⟨_, m, rfl, hM, MH⟩
  · exact absurd pins_67 hne
  have zX := X3'.2.lt
  have hX : Hid (∀ W W', KT w3.heap.size W W' → X3 w.heap.size ⟨s, dd, sp, dp⟩ #[.string ⟨#[]⟩, .int .i64 5, .int .i64 5, .int .u8 0, .slice (some ⟨w.heap.size + 1, 0, none⟩) 2 2, .slice none 0 0, .slice none 0 0] W → X3 w.heap.size ⟨s, dd, sp, dp⟩ #[.string ⟨#[]⟩, .int .i64 5, .int .i64 5, .int .u8 0, .slice (some ⟨w.heap.size + 1, 0, none⟩) 2 2, .slice none 0 0, .slice none 0 0] W') := x3_kt zX
  have S3 := LSt.new (w := w) hM X3' D3 ⟨by have := MH.f; omega, by have := MH.o; omega, by have := MH.k; omega⟩
  have HD1 : Hid (∀ W, LSt w w3.heap.size (X3 w.heap.size ⟨s, dd, sp, dp⟩ #[.string ⟨#[]⟩, .int .i64 5, .int .i64 5, .int .u8 0, .slice (some ⟨w.heap.size + 1, 0, none⟩) 2 2, .slice none 0 0, .slice none 0 0]) m (chainD (pinsD 5 [6, 7])) chainL 0 noM W → Calls Try.prog 10 #[.pointer (some ⟨m.B, 0, none⟩), plA 1 0, .agg #[.int .i64 1, .int .i64 5, .int .i64 0, .int .i64 0], .int .i64 1] W fun e w' => e = .returned (.tuple #[.agg #[.int .i64 2, .int .i64 0, .int .i64 1, .int .i64 7, .int .i64 0, .int .i64 0], .int .i64 0]) ∧ LSt w w3.heap.size (X3 w.heap.size ⟨s, dd, sp, dp⟩ #[.string ⟨#[]⟩, .int .i64 5, .int .i64 5, .int .u8 0, .slice (some ⟨w.heap.size + 1, 0, none⟩) 2 2, .slice none 0 0, .slice none 0 0]) m (chainD (pinsD 5 [6, 7])) chainL 1 (learnP noM (.back 1 ⟨1, 5, 0, 0⟩ 7)) w' ∧ CK W w') := fun W h => handle_l hX 1 0 ⟨1, 5, 0, 0⟩ 1 h (by decide) (addrs_pins (by omega)) ok1 ok1 (pins_new (by decide) rfl rfl (by decide) (by decide))
  clear D3 X3' hM MH
  go_wp2_with fail
  refine (PLC.out _ _ _).mono ?_
  rintro e w4 ⟨rfl, hb4⟩
  have S4 := S3.keep hX hb4
  clear hb4 S3
  go_wp2_with fail
  refine (HD1.out _ S4).mono ?_
  rintro e w5 ⟨rfl, S5, _⟩
  have S6 := S5.alloc hX (.cells #[.int .i64 2, .int .i64 0, .int .i64 1, .int .i64 7, .int .i64 0, .int .i64 0] 47)
  have Y6 := bk_new w5 #[.int .i64 2, .int .i64 0, .int .i64 1, .int .i64 7, .int .i64 0, .int .i64 0] 47
  have y3 := Y6.at 3
  have D6 := S6.below
  have X6 := S6.x
  clear S4 HD1 S5 S6 hX
  have x2 := X6.2.at 2
  have x4 := X6.2.at 4
  have f2 := X6.2.fz 2
  have f4 := X6.2.fz 4
  have X7 : X3 w.heap.size ⟨s, dd, sp, dp⟩ #[.string ⟨#[]⟩, .int .i64 5, .int .i64 ad, .int .u8 0, .slice A bs.length cap, .slice none 0 0, .slice none 0 0] (((w5.alloc (.cells #[.int .i64 2, .int .i64 0, .int .i64 1, .int .i64 7, .int .i64 0, .int .i64 0] 47)).setCell ⟨w.heap.size + 1 + 1, 2, none⟩ (.int .i64 ad)).setCell ⟨w.heap.size + 1 + 1, 4, none⟩ (.slice A bs.length cap)) := ⟨(X6.1.setO (by omega) _).setO (by omega) _, by have := (X6.2.setS (j := 2) (.int .i64 ad)).setS (j := 4) (.slice A bs.length cap); simpa using this⟩
  have D7 := (D6.setCell (p := ⟨w.heap.size + 1 + 1, 2, none⟩) (by simp; omega) (.int .i64 ad)).setCell (p := ⟨w.heap.size + 1 + 1, 4, none⟩) (by simp; omega) (.slice A bs.length cap)
  clear D6 X6 Y6
  go_upto_region 9 with fail
  generalize (((w5.alloc (.cells #[.int .i64 2, .int .i64 0, .int .i64 1, .int .i64 7, .int .i64 0, .int .i64 0] 47)).setCell ⟨w.heap.size + 1 + 1, 2, none⟩ (.int .i64 ad)).setCell ⟨w.heap.size + 1 + 1, 4, none⟩ (.slice A bs.length cap)) = w7 at *
  clear x2 x4 f2 f4 y3 zX z2
  obtain ⟨d0, d1, d2, d3, d4, d5, d6⟩ := X7.2.seven
  have R7 := SlAt.mono (SlAt.below hR.out D7 (fun _ _ _ h => h)) D7.size (fun _ _ _ h => h)
  go_wp2_with fail
  refine (CH.out _ _ _ _ R7).mono ?_
  rintro e w8 ⟨b8, b9, rfl, hD8, hL8, hb8⟩
  have D8 := chnN hb8 D7
  have X8 := X7.1.keep hb8
  clear hb8 D7 X7 R7 d0 d1 d2 d3 d4 d5 d6
  go_wp2_with fail
  refine (NW.out _ _ _ _ _ hD8 hL8).mono ?_
  rintro e w9 ⟨hb9, hN⟩
  have D9 := chnN hb9 D8
  have X9 := X8.keep hb9
  have z8 := X8.lt
  have z9 := D8.size
  clear hb9 D8 X8 hD8 hL8 CH NW
  have PCp : Hid (∀ W, Calls Try.prog 12 #[.agg #[.int .i64 s, .int .i64 dd, .int .i64 sp, .int .i64 dp]] W fun e w' => e = .returned (.int .i64 (if pkOk ⟨s, dd, sp, dp⟩ then 0 else 1)) ∧ Below W.heap.size W w') := fun W => pcheck_any ⟨s, dd, sp, dp⟩ W
  rcases hN with ⟨hne, rfl⟩ | ⟨hz, m, rfl, hM, MH⟩
  · have hz1 : (netV (chainD (pinsD ad bs)) chainL == 0) = false := by simpa using hne
    generalize netV (chainD (pinsD ad bs)) chainL = nv at *
    have HNZ : Hid (¬ nv = 0) := hne
    clear PCp hne
    go_wp2_with fail
    all_goals first | exact absurd (by assumption) HNZ.out | (go_ret; exact ⟨rfl, D9⟩)
  obtain ⟨gad, gbs⟩ := pins_good hz
  obtain ⟨p0, p1, p2, p3, _⟩ := X9.four
  cases hpo : pkOk ⟨s, dd, sp, dp⟩
  · rw [hpo] at PCp
    simp only [Bool.false_eq_true, if_false] at PCp
    clear hM MH
    go_wp2_with fail
    refine (PCp.out _).mono ?_
    rintro e wa ⟨rfl, hba⟩
    have Da := chnN hba D9
    go_wp2_with fail
    go_ret
    exact ⟨rfl, Da⟩
  rw [hpo] at PCp
  simp only [if_true] at PCp
  have hp : Hid (pkOk ⟨s, ad, sp, dp⟩ = true) := by
    unfold pkOk adB at *
    simp only [Bool.and_eq_true, decide_eq_true_eq] at *
    exact ⟨⟨⟨hpo.1.1.1, by omega, by omega⟩, hpo.1.2⟩, hpo.2⟩
  have HZ : Hid (netV (chainD (pinsD ad bs)) chainL = 0) := hz
  have GA : Hid (0 ≤ ad ∧ ad ≤ 15) := gad
  have GB : Hid (∀ (j : Nat) (x : Int), bs[j]? = some x → 0 ≤ x ∧ x ≤ 15) := gbs
  clear hpo hz gad gbs
  go_wp2_with fail
  refine (PCp.out _).mono ?_
  rintro e wa ⟨rfl, hba⟩
  have Da := chnN hba D9
  have Xa := X9.keep hba
  have Ma := hM.below hba
  have Ha := MH.below hM hba
  clear hba D9 X9 hM MH p0 p1 p2 p3 PCp
  have p1 := Xa.at 1
  have f1 := Xa.fz 1
  have Mb : MemAt (wa.setCell ⟨w.heap.size, 1, none⟩ (.int .i64 ad)) m _ _ 0 noM := Ma.low Ha z8
  have Xb : Bk (wa.setCell ⟨w.heap.size, 1, none⟩ (.int .i64 ad)) w.heap.size #[.int .i64 s, .int .i64 ad, .int .i64 sp, .int .i64 dp] 24 := by have := Xa.setS (j := 1) (.int .i64 ad); simpa using this
  have Db := Da.setCell (p := ⟨w.heap.size, 1, none⟩) (by simp) (.int .i64 ad)
  have lo : w.heap.size ≤ m.f ∧ w.heap.size ≤ m.o ∧ w.heap.size ≤ m.k := ⟨by have := Ha.f; omega, by have := Ha.o; omega, by have := Ha.k; omega⟩
  clear Da Xa Ma Ha z8 z9
  go_upto_region 13 with fail
  generalize wa.setCell ⟨w.heap.size, 1, none⟩ (.int .i64 ad) = wb at *
  clear p1 f1
  have zX := Xb.lt
  have hX : Hid (∀ W W', KT wb.heap.size W W' → (fun W => Bk W w.heap.size #[.int .i64 s, .int .i64 ad, .int .i64 sp, .int .i64 dp] 24) W → (fun W => Bk W w.heap.size #[.int .i64 s, .int .i64 ad, .int .i64 sp, .int .i64 dp] 24) W') := fun _ _ hk hx => Bk.kt hx hk zX
  have S0 := LSt.new (w := w) (X := (fun W => Bk W w.heap.size #[.int .i64 s, .int .i64 ad, .int .i64 sp, .int .i64 dp] 24)) Mb Xb Db lo
  have TL : w.heap.size ≤ wb.heap.size := S0.T_le
  generalize hT : wb.heap.size = T at S0 TL hX
  clear hT zX Mb Xb Db lo
  have KP : ∀ {n : Nat} {M : Mnd} {W W' : World}, LSt w T (fun W => Bk W w.heap.size #[.int .i64 s, .int .i64 ad, .int .i64 sp, .int .i64 dp] 24) m (chainD (pinsD ad bs)) chainL n M W → Below W.heap.size W W' → LSt w T (fun W => Bk W w.heap.size #[.int .i64 s, .int .i64 ad, .int .i64 sp, .int .i64 dp] 24) m (chainD (pinsD ad bs)) chainL n M W' := fun h hb => h.keep hX hb
  have AL : ∀ {n : Nat} {M : Mnd} {W : World} (o : Obj), LSt w T (fun W => Bk W w.heap.size #[.int .i64 s, .int .i64 ad, .int .i64 sp, .int .i64 dp] 24) m (chainD (pinsD ad bs)) chainL n M W → LSt w T (fun W => Bk W w.heap.size #[.int .i64 s, .int .i64 ad, .int .i64 sp, .int .i64 dp] 24) m (chainD (pinsD ad bs)) chainL n M (W.alloc o) := fun o h => h.alloc hX o
  have DR : ∀ {n : Nat} {M : Mnd} {W : World}, LSt w T (fun W => Bk W w.heap.size #[.int .i64 s, .int .i64 ad, .int .i64 sp, .int .i64 dp] 24) m (chainD (pinsD ad bs)) chainL n M W → LSt w T (fun W => Bk W w.heap.size #[.int .i64 s, .int .i64 ad, .int .i64 sp, .int .i64 dp] 24) m (chainD (pinsD ad bs)) chainL n M W.drew := fun h => h.drew hX
  have S6 : ∀ {n : Nat} {M : Mnd} {W : World} {k : Nat}, LSt w T (fun W => Bk W w.heap.size #[.int .i64 s, .int .i64 ad, .int .i64 sp, .int .i64 dp] 24) m (chainD (pinsD ad bs)) chainL n M W → ZB T k W → ∀ u0 u1 u2 u3 u4 u5 : Value, LSt w T (fun W => Bk W w.heap.size #[.int .i64 s, .int .i64 ad, .int .i64 sp, .int .i64 dp] 24) m (chainD (pinsD ad bs)) chainL n M ((((((W.setCell ⟨k, 0, none⟩ u0).setCell ⟨k, 1, none⟩ u1).setCell ⟨k, 2, none⟩ u2).setCell ⟨k, 3, none⟩ u3).setCell ⟨k, 4, none⟩ u4).setCell ⟨k, 5, none⟩ u5) := fun h z u0 u1 u2 u3 u4 u5 => LSt.set6 hX h z.2 (Nat.le_trans TL z.2) u0 u1 u2 u3 u4 u5
  have BE : ∀ {n : Nat} {M : Mnd} {W : World}, LSt w T (fun W => Bk W w.heap.size #[.int .i64 s, .int .i64 ad, .int .i64 sp, .int .i64 dp] 24) m (chainD (pinsD ad bs)) chainL n M W → Below w.heap.size w W := fun h => h.below
  have TW : ∀ {n : Nat} {M : Mnd} {W : World}, LSt w T (fun W => Bk W w.heap.size #[.int .i64 s, .int .i64 ad, .int .i64 sp, .int .i64 dp] 24) m (chainD (pinsD ad bs)) chainL n M W → T ≤ W.heap.size := fun h => h.tW
  have ZN : ∀ {W : World}, T ≤ W.heap.size → ZB T W.heap.size (W.alloc arZ) := fun h => zb_new h
  have ZBK : ∀ {k : Nat} {W W' : World}, ZB T k W → Below W.heap.size W W' → ZB T k W' := fun h hb => h.keep hb
  have ZBD : ∀ {k : Nat} {W : World}, ZB T k W → ZB T k W.drew := fun h => h.drew
  have ZBC : ∀ {k : Nat} {W W' : World}, ZB T k W → CK W W' → ZB T k W' := fun h hc => h.ck hc
  have UN : Hid (∀ {n : Nat} {M : Mnd} {W : World}, LSt w T (fun W => Bk W w.heap.size #[.int .i64 s, .int .i64 ad, .int .i64 sp, .int .i64 dp] 24) m (chainD (pinsD ad bs)) chainL n M W → MemAt W m (chainD (pinsD ad bs)) chainL n M ∧ (fun W => Bk W w.heap.size #[.int .i64 s, .int .i64 ad, .int .i64 sp, .int .i64 dp] 24) W ∧ Below w.heap.size w W ∧ (w.heap.size ≤ m.f ∧ w.heap.size ≤ m.o ∧ w.heap.size ≤ m.k)) := fun h => ⟨h.mem, h.x, h.below, h.lo⟩
  have FS : ∀ {n : Nat} {M : Mnd} {w' : World}, LSt w T (fun W => Bk W w.heap.size #[.int .i64 s, .int .i64 ad, .int .i64 sp, .int .i64 dp] 24) m (chainD (pinsD ad bs)) chainL n M w' → (w'.cell? ⟨w.heap.size, 0, none⟩ = some (.int .i64 s) ∧ w'.cell? ⟨w.heap.size, 1, none⟩ = some (.int .i64 ad) ∧ w'.cell? ⟨w.heap.size, 2, none⟩ = some (.int .i64 sp) ∧ w'.cell? ⟨w.heap.size, 3, none⟩ = some (.int .i64 dp)) := fun h => ⟨h.x.at 0, h.x.at 1, h.x.at 2, h.x.at 3⟩
  by_cases hra : 0 ≤ a ∧ a < (bs.length : Int)
  rotate_left
  · have H1 : Hid (∀ W, LSt w T (fun W => Bk W w.heap.size #[.int .i64 s, .int .i64 ad, .int .i64 sp, .int .i64 dp] 24) m (chainD (pinsD ad bs)) chainL 0 noM W → Calls Try.prog 10 #[.pointer (some ⟨m.B, 0, none⟩), plA 1 0, .agg #[.int .i64 s, .int .i64 ad, .int .i64 sp, .int .i64 dp], .int .i64 a] W fun e w' => e = .returned (.tuple #[.agg #[.int .i64 0, .int .i64 0, .int .i64 0, .int .i64 0, .int .i64 0, .int .i64 0], .int .i64 1]) ∧ LSt w T (fun W => Bk W w.heap.size #[.int .i64 s, .int .i64 ad, .int .i64 sp, .int .i64 dp] 24) m (chainD (pinsD ad bs)) chainL 1 noM w' ∧ CK W w') := fun W h => handle_l hX 1 0 ⟨s, ad, sp, dp⟩ a h (by decide) (addrs_pins GA.out) ok1 ha.out (pins_none hp.out rfl rfl hra)
    clear hX TL GB HZ GA
    generalize LSt w T (fun W => Bk W w.heap.size #[.int .i64 s, .int .i64 ad, .int .i64 sp, .int .i64 dp] 24) m (chainD (pinsD ad bs)) chainL = L at KP AL DR S6 BE TW UN FS S0 H1
    have HRA : Hid (¬ (0 ≤ a ∧ a < (bs.length : Int))) := hra
    clear hra
    have S0d := DR S0
    have S0a := DR (AL arZ S0)
    have Z0a := ZBD (ZN (TW S0))
    obtain ⟨c0, c1, c2, c3⟩ := FS S0
    go_cut [13] (fun vE wx => vE = .int .i64 1 ∧ L 1 noM wx)
    case first =>
      go_region_held3 (fun w' => w'.cell? ⟨w.heap.size, 0, none⟩ = some (.int .i64 s) ∧ w'.cell? ⟨w.heap.size, 1, none⟩ = some (.int .i64 ad) ∧ w'.cell? ⟨w.heap.size, 2, none⟩ = some (.int .i64 sp) ∧ w'.cell? ⟨w.heap.size, 3, none⟩ = some (.int .i64 dp)) (exact FS (by first | with_reducible exact Sh | with_reducible exact AL _ Sh | with_reducible exact S6 Sh Zh _ _ _ _ _ _ | with_reducible exact Sf | with_reducible exact AL _ Sf | with_reducible exact Sp | with_reducible exact AL _ Sp | with_reducible exact S0a | with_reducible exact S0d)) (first | (go_at_call 11; (with_reducible refine (PLC.out _ _ _).mono ?_); rintro e wp ⟨rfl, hbp⟩; have Sp := KP S0d hbp) | (go_at_call 11; (with_reducible refine (PLC.out _ _ _).mono ?_); rintro e wp ⟨rfl, hbp⟩; have Sp := KP S0a hbp; have Zp := ZBK Z0a hbp) | (go_at_call 10; (with_reducible refine (H1.out _ Sp).mono ?_); rintro e wh ⟨rfl, Sh, Ch⟩; have Zh := ZBC Zp Ch; obtain ⟨⟨zz0, zz1, zz2, zz3, zz4, zz5⟩, ⟨zf0, zf1, zf2, zf3, zf4, zf5⟩⟩ := Zh.1.six) | (go_at_call 10; (with_reducible refine (H1.out _ Sp).mono ?_); rintro e wh ⟨rfl, Sh, Ch⟩; skip) | (go_at_call 10; (with_reducible refine (H1.out _ (AL arZ Sp)).mono ?_); rintro e wh ⟨rfl, Sh, Ch⟩; have Zh := ZBC (ZN (TW Sp)) Ch; obtain ⟨⟨zz0, zz1, zz2, zz3, zz4, zz5⟩, ⟨zf0, zf1, zf2, zf3, zf4, zf5⟩⟩ := Zh.1.six))
      all_goals
        go_wp2_with fail
        go_meet
        first
          | exact ⟨rfl, S6 Sh Zh _ _ _ _ _ _⟩
          | exact ⟨rfl, AL _ Sh⟩
    case rest =>
      clear H1 S0 S0d S0a Z0a c0 c1 c2 c3
      obtain ⟨rfl, S0⟩ := hcut
      have D9 := BE S0
      clear KP AL DR S6 BE TW UN FS S0
      by_cases u : a < 0
      · have u0 : decide (a < 0) = true := by simpa using u
        go_wp2_with fail
        go_ret
        exact ⟨rfl, D9⟩
      · have u0 : decide (a < 0) = false := by simpa using u
        have u1 : decide ((bs.length : Int) ≤ a) = true := by have := HRA.out; simp; omega
        go_wp2_with fail
        go_ret
        exact ⟨rfl, D9⟩
  · obtain ⟨b0, hb0⟩ : ∃ b0, bs[a.toNat]? = some b0 := ⟨_, List.getElem?_eq_getElem (by omega)⟩
    have gd : bs.getD a.toNat 0 = b0 := by rw [List.getD_eq_getElem?_getD, hb0]; rfl
    have gB := GB.out _ _ hb0
    have HQ : Hid (pkOk (flipP ⟨s, b0, sp, dp⟩) = true) := flipP_ok (by
      have := hp.out
      unfold pkOk adB at *
      simp only [Bool.and_eq_true, decide_eq_true_eq] at *
      exact ⟨⟨⟨this.1.1.1, by omega, by omega⟩, this.1.2⟩, this.2⟩)
    have CT : Hid (∀ W, Below w.heap.size w W → Calls Try.prog 17 #[.slice A bs.length cap, .int .i64 b0] W fun e w' => e = .returned (.bool true) ∧ w' = W) := fun W h => (containsI_any A bs.length cap bs b0 w.heap.size W (SlAt.below hR.out h (fun _ _ _ h => h))).mono fun e w' ⟨h1, h2⟩ => ⟨by rw [h1, show bs.any (fun y => y == b0) = true from List.any_eq_true.2 ⟨b0, List.mem_of_getElem? hb0, by simp⟩], h2⟩
    have PN : handleP (chainD (pinsD ad bs)) chainL noM 1 0 ⟨s, ad, sp, dp⟩ a = ⟨0, (2, 0), ⟨s, b0, sp, dp⟩, learnP noM (.back 1 ⟨s, ad, sp, dp⟩ b0)⟩ := by
      rw [← gd]
      exact pins_new (a := ad) (bs := bs) (M := noM) (p := ⟨s, ad, sp, dp⟩) hp.out rfl rfl hra.1 hra.2
    have H1 : Hid (∀ W, LSt w T (fun W => Bk W w.heap.size #[.int .i64 s, .int .i64 ad, .int .i64 sp, .int .i64 dp] 24) m (chainD (pinsD ad bs)) chainL 0 noM W → Calls Try.prog 10 #[.pointer (some ⟨m.B, 0, none⟩), plA 1 0, .agg #[.int .i64 s, .int .i64 ad, .int .i64 sp, .int .i64 dp], .int .i64 a] W fun e w' => e = .returned (.tuple #[.agg #[.int .i64 2, .int .i64 0, .int .i64 s, .int .i64 b0, .int .i64 sp, .int .i64 dp], .int .i64 0]) ∧ LSt w T (fun W => Bk W w.heap.size #[.int .i64 s, .int .i64 ad, .int .i64 sp, .int .i64 dp] 24) m (chainD (pinsD ad bs)) chainL 1 (learnP noM (.back 1 ⟨s, ad, sp, dp⟩ b0)) w' ∧ CK W w') := fun W h => handle_l hX 1 0 ⟨s, ad, sp, dp⟩ a h (by decide) (addrs_pins GA.out) ok1 ha.out (PN)
    clear hX TL hra hb0 gd gB GB HZ PN
    generalize LSt w T (fun W => Bk W w.heap.size #[.int .i64 s, .int .i64 ad, .int .i64 sp, .int .i64 dp] 24) m (chainD (pinsD ad bs)) chainL = L at KP AL DR S6 BE TW UN FS S0 H1
    have S0d := DR S0
    have S0a := DR (AL arZ S0)
    have Z0a := ZBD (ZN (TW S0))
    obtain ⟨c0, c1, c2, c3⟩ := FS S0
    go_cut [16, 13] (fun v1 v2 wx => ∃ g, v1 = .pointer (some ⟨g, 0, none⟩) ∧ v2 = .int .i64 0 ∧ Bk wx g #[.int .i64 2, .int .i64 0, .int .i64 s, .int .i64 b0, .int .i64 sp, .int .i64 dp] 47 ∧ L 1 (learnP noM (.back 1 ⟨s, ad, sp, dp⟩ b0)) wx)
    case first =>
      go_region_held3 (fun w' => w'.cell? ⟨w.heap.size, 0, none⟩ = some (.int .i64 s) ∧ w'.cell? ⟨w.heap.size, 1, none⟩ = some (.int .i64 ad) ∧ w'.cell? ⟨w.heap.size, 2, none⟩ = some (.int .i64 sp) ∧ w'.cell? ⟨w.heap.size, 3, none⟩ = some (.int .i64 dp)) (exact FS (by first | with_reducible exact Sh | with_reducible exact AL _ Sh | with_reducible exact S6 Sh Zh _ _ _ _ _ _ | with_reducible exact Sf | with_reducible exact AL _ Sf | with_reducible exact Sp | with_reducible exact AL _ Sp | with_reducible exact S0a | with_reducible exact S0d)) (first | (go_at_call 11; (with_reducible refine (PLC.out _ _ _).mono ?_); rintro e wp ⟨rfl, hbp⟩; have Sp := KP S0d hbp) | (go_at_call 11; (with_reducible refine (PLC.out _ _ _).mono ?_); rintro e wp ⟨rfl, hbp⟩; have Sp := KP S0a hbp; have Zp := ZBK Z0a hbp) | (go_at_call 10; (with_reducible refine (H1.out _ Sp).mono ?_); rintro e wh ⟨rfl, Sh, Ch⟩; have Zh := ZBC Zp Ch; obtain ⟨⟨zz0, zz1, zz2, zz3, zz4, zz5⟩, ⟨zf0, zf1, zf2, zf3, zf4, zf5⟩⟩ := Zh.1.six) | (go_at_call 10; (with_reducible refine (H1.out _ Sp).mono ?_); rintro e wh ⟨rfl, Sh, Ch⟩; skip) | (go_at_call 10; (with_reducible refine (H1.out _ (AL arZ Sp)).mono ?_); rintro e wh ⟨rfl, Sh, Ch⟩; have Zh := ZBC (ZN (TW Sp)) Ch; obtain ⟨⟨zz0, zz1, zz2, zz3, zz4, zz5⟩, ⟨zf0, zf1, zf2, zf3, zf4, zf5⟩⟩ := Zh.1.six))
      all_goals
        go_wp2_with fail
        go_meet
        first
          | exact ⟨_, rfl, rfl, (by have := (((((Zh.1.setS (j := 0) (.int .i64 2)).setS (j := 1) (.int .i64 0)).setS (j := 2) (.int .i64 s)).setS (j := 3) (.int .i64 b0)).setS (j := 4) (.int .i64 sp)).setS (j := 5) (.int .i64 dp); simpa using this), S6 Sh Zh _ _ _ _ _ _⟩
          | exact ⟨_, rfl, rfl, bk_new _ _ _, AL _ Sh⟩
    case rest =>
      clear H1 S0d S0a Z0a c0 c1 c2 c3 S0
      obtain ⟨g, rfl, rfl, G0, S0⟩ := hcut
      obtain ⟨Mb, Xb, Db, lo⟩ := UN.out S0
      clear KP AL DR S6 BE TW ZN ZBK ZBD ZBC UN FS S0 L
      have z1 := Xb.lt
      have z2 := G0.lt
      have hX : Hid (∀ W W', KT wc.heap.size W W' → (fun W => Bk W w.heap.size #[.int .i64 s, .int .i64 ad, .int .i64 sp, .int .i64 dp] 24 ∧ Bk W g #[.int .i64 2, .int .i64 0, .int .i64 s, .int .i64 b0, .int .i64 sp, .int .i64 dp] 47) W → (fun W => Bk W w.heap.size #[.int .i64 s, .int .i64 ad, .int .i64 sp, .int .i64 dp] 24 ∧ Bk W g #[.int .i64 2, .int .i64 0, .int .i64 s, .int .i64 b0, .int .i64 sp, .int .i64 dp] 47) W') := fun _ _ hk hx => ⟨hx.1.kt hk z1, hx.2.kt hk z2⟩
      have S0 := LSt.new (w := w) (X := (fun W => Bk W w.heap.size #[.int .i64 s, .int .i64 ad, .int .i64 sp, .int .i64 dp] 24 ∧ Bk W g #[.int .i64 2, .int .i64 0, .int .i64 s, .int .i64 b0, .int .i64 sp, .int .i64 dp] 47)) Mb ⟨Xb, G0⟩ Db lo
      have TL : w.heap.size ≤ wc.heap.size := S0.T_le
      generalize hT : wc.heap.size = T at S0 TL hX
      clear hT z1 z2 Mb Xb Db lo G0
      have KP : ∀ {n : Nat} {M : Mnd} {W W' : World}, LSt w T (fun W => Bk W w.heap.size #[.int .i64 s, .int .i64 ad, .int .i64 sp, .int .i64 dp] 24 ∧ Bk W g #[.int .i64 2, .int .i64 0, .int .i64 s, .int .i64 b0, .int .i64 sp, .int .i64 dp] 47) m (chainD (pinsD ad bs)) chainL n M W → Below W.heap.size W W' → LSt w T (fun W => Bk W w.heap.size #[.int .i64 s, .int .i64 ad, .int .i64 sp, .int .i64 dp] 24 ∧ Bk W g #[.int .i64 2, .int .i64 0, .int .i64 s, .int .i64 b0, .int .i64 sp, .int .i64 dp] 47) m (chainD (pinsD ad bs)) chainL n M W' := fun h hb => h.keep hX hb
      have AL : ∀ {n : Nat} {M : Mnd} {W : World} (o : Obj), LSt w T (fun W => Bk W w.heap.size #[.int .i64 s, .int .i64 ad, .int .i64 sp, .int .i64 dp] 24 ∧ Bk W g #[.int .i64 2, .int .i64 0, .int .i64 s, .int .i64 b0, .int .i64 sp, .int .i64 dp] 47) m (chainD (pinsD ad bs)) chainL n M W → LSt w T (fun W => Bk W w.heap.size #[.int .i64 s, .int .i64 ad, .int .i64 sp, .int .i64 dp] 24 ∧ Bk W g #[.int .i64 2, .int .i64 0, .int .i64 s, .int .i64 b0, .int .i64 sp, .int .i64 dp] 47) m (chainD (pinsD ad bs)) chainL n M (W.alloc o) := fun o h => h.alloc hX o
      have DR : ∀ {n : Nat} {M : Mnd} {W : World}, LSt w T (fun W => Bk W w.heap.size #[.int .i64 s, .int .i64 ad, .int .i64 sp, .int .i64 dp] 24 ∧ Bk W g #[.int .i64 2, .int .i64 0, .int .i64 s, .int .i64 b0, .int .i64 sp, .int .i64 dp] 47) m (chainD (pinsD ad bs)) chainL n M W → LSt w T (fun W => Bk W w.heap.size #[.int .i64 s, .int .i64 ad, .int .i64 sp, .int .i64 dp] 24 ∧ Bk W g #[.int .i64 2, .int .i64 0, .int .i64 s, .int .i64 b0, .int .i64 sp, .int .i64 dp] 47) m (chainD (pinsD ad bs)) chainL n M W.drew := fun h => h.drew hX
      have S6 : ∀ {n : Nat} {M : Mnd} {W : World} {k : Nat}, LSt w T (fun W => Bk W w.heap.size #[.int .i64 s, .int .i64 ad, .int .i64 sp, .int .i64 dp] 24 ∧ Bk W g #[.int .i64 2, .int .i64 0, .int .i64 s, .int .i64 b0, .int .i64 sp, .int .i64 dp] 47) m (chainD (pinsD ad bs)) chainL n M W → ZB T k W → ∀ u0 u1 u2 u3 u4 u5 : Value, LSt w T (fun W => Bk W w.heap.size #[.int .i64 s, .int .i64 ad, .int .i64 sp, .int .i64 dp] 24 ∧ Bk W g #[.int .i64 2, .int .i64 0, .int .i64 s, .int .i64 b0, .int .i64 sp, .int .i64 dp] 47) m (chainD (pinsD ad bs)) chainL n M ((((((W.setCell ⟨k, 0, none⟩ u0).setCell ⟨k, 1, none⟩ u1).setCell ⟨k, 2, none⟩ u2).setCell ⟨k, 3, none⟩ u3).setCell ⟨k, 4, none⟩ u4).setCell ⟨k, 5, none⟩ u5) := fun h z u0 u1 u2 u3 u4 u5 => LSt.set6 hX h z.2 (Nat.le_trans TL z.2) u0 u1 u2 u3 u4 u5
      have BE : ∀ {n : Nat} {M : Mnd} {W : World}, LSt w T (fun W => Bk W w.heap.size #[.int .i64 s, .int .i64 ad, .int .i64 sp, .int .i64 dp] 24 ∧ Bk W g #[.int .i64 2, .int .i64 0, .int .i64 s, .int .i64 b0, .int .i64 sp, .int .i64 dp] 47) m (chainD (pinsD ad bs)) chainL n M W → Below w.heap.size w W := fun h => h.below
      have TW : ∀ {n : Nat} {M : Mnd} {W : World}, LSt w T (fun W => Bk W w.heap.size #[.int .i64 s, .int .i64 ad, .int .i64 sp, .int .i64 dp] 24 ∧ Bk W g #[.int .i64 2, .int .i64 0, .int .i64 s, .int .i64 b0, .int .i64 sp, .int .i64 dp] 47) m (chainD (pinsD ad bs)) chainL n M W → T ≤ W.heap.size := fun h => h.tW
      have ZN : ∀ {W : World}, T ≤ W.heap.size → ZB T W.heap.size (W.alloc arZ) := fun h => zb_new h
      have ZBK : ∀ {k : Nat} {W W' : World}, ZB T k W → Below W.heap.size W W' → ZB T k W' := fun h hb => h.keep hb
      have ZBD : ∀ {k : Nat} {W : World}, ZB T k W → ZB T k W.drew := fun h => h.drew
      have ZBC : ∀ {k : Nat} {W W' : World}, ZB T k W → CK W W' → ZB T k W' := fun h hc => h.ck hc
      have UN : Hid (∀ {n : Nat} {M : Mnd} {W : World}, LSt w T (fun W => Bk W w.heap.size #[.int .i64 s, .int .i64 ad, .int .i64 sp, .int .i64 dp] 24 ∧ Bk W g #[.int .i64 2, .int .i64 0, .int .i64 s, .int .i64 b0, .int .i64 sp, .int .i64 dp] 47) m (chainD (pinsD ad bs)) chainL n M W → MemAt W m (chainD (pinsD ad bs)) chainL n M ∧ (fun W => Bk W w.heap.size #[.int .i64 s, .int .i64 ad, .int .i64 sp, .int .i64 dp] 24 ∧ Bk W g #[.int .i64 2, .int .i64 0, .int .i64 s, .int .i64 b0, .int .i64 sp, .int .i64 dp] 47) W ∧ Below w.heap.size w W ∧ (w.heap.size ≤ m.f ∧ w.heap.size ≤ m.o ∧ w.heap.size ≤ m.k)) := fun h => ⟨h.mem, h.x, h.below, h.lo⟩
      have FS : ∀ {n : Nat} {M : Mnd} {w' : World}, LSt w T (fun W => Bk W w.heap.size #[.int .i64 s, .int .i64 ad, .int .i64 sp, .int .i64 dp] 24 ∧ Bk W g #[.int .i64 2, .int .i64 0, .int .i64 s, .int .i64 b0, .int .i64 sp, .int .i64 dp] 47) m (chainD (pinsD ad bs)) chainL n M w' → (w'.cell? ⟨w.heap.size, 0, none⟩ = some (.int .i64 s) ∧ w'.cell? ⟨w.heap.size, 1, none⟩ = some (.int .i64 ad) ∧ w'.cell? ⟨w.heap.size, 2, none⟩ = some (.int .i64 sp) ∧ w'.cell? ⟨w.heap.size, 3, none⟩ = some (.int .i64 dp) ∧ w'.cell? ⟨g, 0, none⟩ = some (.int .i64 2) ∧ w'.cell? ⟨g, 1, none⟩ = some (.int .i64 0) ∧ w'.cell? ⟨g, 2, none⟩ = some (.int .i64 s) ∧ w'.cell? ⟨g, 3, none⟩ = some (.int .i64 b0) ∧ w'.cell? ⟨g, 4, none⟩ = some (.int .i64 sp) ∧ w'.cell? ⟨g, 5, none⟩ = some (.int .i64 dp)) := fun h => ⟨h.x.1.at 0, h.x.1.at 1, h.x.1.at 2, h.x.1.at 3, h.x.2.at 0, h.x.2.at 1, h.x.2.at 2, h.x.2.at 3, h.x.2.at 4, h.x.2.at 5⟩
      have H2 : Hid (∀ W, LSt w T (fun W => Bk W w.heap.size #[.int .i64 s, .int .i64 ad, .int .i64 sp, .int .i64 dp] 24 ∧ Bk W g #[.int .i64 2, .int .i64 0, .int .i64 s, .int .i64 b0, .int .i64 sp, .int .i64 dp] 47) m (chainD (pinsD ad bs)) chainL 1 (learnP noM (.back 1 ⟨s, ad, sp, dp⟩ b0)) W → Calls Try.prog 10 #[.pointer (some ⟨m.B, 0, none⟩), plA 1 0, .agg #[.int .i64 s, .int .i64 ad, .int .i64 sp, .int .i64 dp], .int .i64 b] W fun e w' => e = .returned (.tuple #[.agg #[.int .i64 2, .int .i64 0, .int .i64 s, .int .i64 b0, .int .i64 sp, .int .i64 dp], .int .i64 0]) ∧ LSt w T (fun W => Bk W w.heap.size #[.int .i64 s, .int .i64 ad, .int .i64 sp, .int .i64 dp] 24 ∧ Bk W g #[.int .i64 2, .int .i64 0, .int .i64 s, .int .i64 b0, .int .i64 sp, .int .i64 dp] 47) m (chainD (pinsD ad bs)) chainL 2 (learnP (learnP noM (.back 1 ⟨s, ad, sp, dp⟩ b0)) (.back 1 ⟨s, ad, sp, dp⟩ b0)) w' ∧ CK W w') := fun W h => handle_l hX 1 0 ⟨s, ad, sp, dp⟩ b h (by decide) (addrs_pins GA.out) ok1 hb.out (pins_old hp.out rfl (by simp [learnP, putF_same]))
      have H3 : Hid (∀ W, LSt w T (fun W => Bk W w.heap.size #[.int .i64 s, .int .i64 ad, .int .i64 sp, .int .i64 dp] 24 ∧ Bk W g #[.int .i64 2, .int .i64 0, .int .i64 s, .int .i64 b0, .int .i64 sp, .int .i64 dp] 47) m (chainD (pinsD ad bs)) chainL 2 (learnP (learnP noM (.back 1 ⟨s, ad, sp, dp⟩ b0)) (.back 1 ⟨s, ad, sp, dp⟩ b0)) W → Calls Try.prog 10 #[.pointer (some ⟨m.B, 0, none⟩), plA 1 1, .agg #[.int .i64 b0, .int .i64 s, .int .i64 dp, .int .i64 sp], .int .i64 b] W fun e w' => e = .returned (.tuple #[.agg #[.int .i64 0, .int .i64 0, .int .i64 ad, .int .i64 s, .int .i64 dp, .int .i64 sp], .int .i64 0]) ∧ LSt w T (fun W => Bk W w.heap.size #[.int .i64 s, .int .i64 ad, .int .i64 sp, .int .i64 dp] 24 ∧ Bk W g #[.int .i64 2, .int .i64 0, .int .i64 s, .int .i64 b0, .int .i64 sp, .int .i64 dp] 47) m (chainD (pinsD ad bs)) chainL 3 (learnP (learnP noM (.back 1 ⟨s, ad, sp, dp⟩ b0)) (.back 1 ⟨s, ad, sp, dp⟩ b0)) w' ∧ CK W w') := fun W h => handle_l hX 1 1 (flipP ⟨s, b0, sp, dp⟩) b h (by decide) (addrs_pins GA.out) ok1 hb.out (pins_back (p := ⟨s, ad, sp, dp⟩) rfl HQ.out (by simp [learnP, putF_same]))
      have ANE := fun w => arr_ne_self 2 0 ⟨s, b0, sp, dp⟩ w
      have FLP : Hid (∀ W, Calls Try.prog 13 #[.agg #[.int .i64 s, .int .i64 b0, .int .i64 sp, .int .i64 dp]] W fun e w' => e = .returned (.agg #[.int .i64 b0, .int .i64 s, .int .i64 dp, .int .i64 sp]) ∧ Below W.heap.size W w') := fun W => pflip_any ⟨s, b0, sp, dp⟩ W
      clear hX TL HQ
      generalize LSt w T (fun W => Bk W w.heap.size #[.int .i64 s, .int .i64 ad, .int .i64 sp, .int .i64 dp] 24 ∧ Bk W g #[.int .i64 2, .int .i64 0, .int .i64 s, .int .i64 b0, .int .i64 sp, .int .i64 dp] 47) m (chainD (pinsD ad bs)) chainL = L at KP AL DR S6 BE TW UN FS S0 H2 H3
      generalize hM2 : (learnP (learnP noM (.back 1 ⟨s, ad, sp, dp⟩ b0)) (.back 1 ⟨s, ad, sp, dp⟩ b0)) = M2 at H2 H3
      go_upto_region 16 with fail
      have S0d := DR S0
      have S0a := DR (AL arZ S0)
      have Z0a := ZBD (ZN (TW S0))
      obtain ⟨c0, c1, c2, c3, c4, c5, c6, c7, c8, c9⟩ := FS S0
      go_cut [17, 18] (fun v1 v2 wx => ∃ g, v1 = .pointer (some ⟨g, 0, none⟩) ∧ v2 = .int .i64 0 ∧ Bk wx g #[.int .i64 2, .int .i64 0, .int .i64 s, .int .i64 b0, .int .i64 sp, .int .i64 dp] 47 ∧ L 2 M2 wx)
      case first =>
        go_region_held3 (fun w' => w'.cell? ⟨w.heap.size, 0, none⟩ = some (.int .i64 s) ∧ w'.cell? ⟨w.heap.size, 1, none⟩ = some (.int .i64 ad) ∧ w'.cell? ⟨w.heap.size, 2, none⟩ = some (.int .i64 sp) ∧ w'.cell? ⟨w.heap.size, 3, none⟩ = some (.int .i64 dp) ∧ w'.cell? ⟨g, 0, none⟩ = some (.int .i64 2) ∧ w'.cell? ⟨g, 1, none⟩ = some (.int .i64 0) ∧ w'.cell? ⟨g, 2, none⟩ = some (.int .i64 s) ∧ w'.cell? ⟨g, 3, none⟩ = some (.int .i64 b0) ∧ w'.cell? ⟨g, 4, none⟩ = some (.int .i64 sp) ∧ w'.cell? ⟨g, 5, none⟩ = some (.int .i64 dp)) (exact FS (by first | with_reducible exact Sh | with_reducible exact AL _ Sh | with_reducible exact S6 Sh Zh _ _ _ _ _ _ | with_reducible exact Sf | with_reducible exact AL _ Sf | with_reducible exact Sp | with_reducible exact AL _ Sp | with_reducible exact S0a | with_reducible exact S0d)) (first | (go_at_call 11; (with_reducible refine (PLC.out _ _ _).mono ?_); rintro e wp ⟨rfl, hbp⟩; have Sp := KP S0d hbp) | (go_at_call 11; (with_reducible refine (PLC.out _ _ _).mono ?_); rintro e wp ⟨rfl, hbp⟩; have Sp := KP S0a hbp; have Zp := ZBK Z0a hbp) | (go_at_call 10; (with_reducible refine (H2.out _ Sp).mono ?_); rintro e wh ⟨rfl, Sh, Ch⟩; have Zh := ZBC Zp Ch; obtain ⟨⟨zz0, zz1, zz2, zz3, zz4, zz5⟩, ⟨zf0, zf1, zf2, zf3, zf4, zf5⟩⟩ := Zh.1.six) | (go_at_call 10; (with_reducible refine (H2.out _ Sp).mono ?_); rintro e wh ⟨rfl, Sh, Ch⟩; skip) | (go_at_call 10; (with_reducible refine (H2.out _ (AL arZ Sp)).mono ?_); rintro e wh ⟨rfl, Sh, Ch⟩; have Zh := ZBC (ZN (TW Sp)) Ch; obtain ⟨⟨zz0, zz1, zz2, zz3, zz4, zz5⟩, ⟨zf0, zf1, zf2, zf3, zf4, zf5⟩⟩ := Zh.1.six))
        all_goals
          go_wp2_with fail
          go_meet
          first
            | exact ⟨_, rfl, rfl, (by have := (((((Zh.1.setS (j := 0) (.int .i64 2)).setS (j := 1) (.int .i64 0)).setS (j := 2) (.int .i64 s)).setS (j := 3) (.int .i64 b0)).setS (j := 4) (.int .i64 sp)).setS (j := 5) (.int .i64 dp); simpa using this), S6 Sh Zh _ _ _ _ _ _⟩
            | exact ⟨_, rfl, rfl, bk_new _ _ _, AL _ Sh⟩
      case rest =>
        clear H2 S0 S0d S0a Z0a c0 c1 c2 c3 c4 c5 c6 c7 c8 c9
        obtain ⟨g2, rfl, rfl, G2, S0⟩ := hcut
        obtain ⟨c0, c1, c2, c3, c4, c5, c6, c7, c8, c9⟩ := FS S0
        obtain ⟨⟨g0, g1, g2', g3, g4, g5⟩, _⟩ := G2.six
        go_wp2_with fail
        refine (CT.out _ (BE S0)).mono ?_
        rintro e wk ⟨rfl, rfl⟩
        go_upto_region 19 with fail
        clear c0 c1 c2 c3 c4 c5 c6 c7 c8 c9 g0 g1 g2' g3 g4 g5 G2 CT ANE
        have S0d := DR S0
        have S0a := DR (AL arZ S0)
        have Z0a := ZBD (ZN (TW S0))
        obtain ⟨c0, c1, c2, c3, c4, c5, c6, c7, c8, c9⟩ := FS S0
        go_cut [19, 18] (fun v1 v2 wx => ∃ g, v1 = .pointer (some ⟨g, 0, none⟩) ∧ v2 = .int .i64 0 ∧ Bk wx g #[.int .i64 0, .int .i64 0, .int .i64 ad, .int .i64 s, .int .i64 dp, .int .i64 sp] 47 ∧ L 3 M2 wx)
        case first =>
          go_region_held3 (fun w' => w'.cell? ⟨w.heap.size, 0, none⟩ = some (.int .i64 s) ∧ w'.cell? ⟨w.heap.size, 1, none⟩ = some (.int .i64 ad) ∧ w'.cell? ⟨w.heap.size, 2, none⟩ = some (.int .i64 sp) ∧ w'.cell? ⟨w.heap.size, 3, none⟩ = some (.int .i64 dp) ∧ w'.cell? ⟨g, 0, none⟩ = some (.int .i64 2) ∧ w'.cell? ⟨g, 1, none⟩ = some (.int .i64 0) ∧ w'.cell? ⟨g, 2, none⟩ = some (.int .i64 s) ∧ w'.cell? ⟨g, 3, none⟩ = some (.int .i64 b0) ∧ w'.cell? ⟨g, 4, none⟩ = some (.int .i64 sp) ∧ w'.cell? ⟨g, 5, none⟩ = some (.int .i64 dp)) (exact FS (by first | with_reducible exact Sh | with_reducible exact AL _ Sh | with_reducible exact S6 Sh Zh _ _ _ _ _ _ | with_reducible exact Sf | with_reducible exact AL _ Sf | with_reducible exact Sp | with_reducible exact AL _ Sp | with_reducible exact S0a | with_reducible exact S0d)) (first | (go_at_call 11; (with_reducible refine (PLC.out _ _ _).mono ?_); rintro e wp ⟨rfl, hbp⟩; have Sp := KP S0d hbp) | (go_at_call 11; (with_reducible refine (PLC.out _ _ _).mono ?_); rintro e wp ⟨rfl, hbp⟩; have Sp := KP S0a hbp; have Zp := ZBK Z0a hbp) | (go_at_call 13; (with_reducible refine (FLP.out _).mono ?_); rintro e wf ⟨rfl, hbf⟩; have Sf := KP Sp hbf; have Zf := ZBK Zp hbf) | (go_at_call 13; (with_reducible refine (FLP.out _).mono ?_); rintro e wf ⟨rfl, hbf⟩; have Sf := KP Sp hbf) | (go_at_call 13; (with_reducible refine (FLP.out _).mono ?_); rintro e wf ⟨rfl, hbf⟩; have Sf := KP (AL arZ Sp) hbf; have Zf := ZBK (ZN (TW Sp)) hbf) | (go_at_call 10; (with_reducible refine (H3.out _ Sf).mono ?_); rintro e wh ⟨rfl, Sh, Ch⟩; have Zh := ZBC Zf Ch; obtain ⟨⟨zz0, zz1, zz2, zz3, zz4, zz5⟩, ⟨zf0, zf1, zf2, zf3, zf4, zf5⟩⟩ := Zh.1.six) | (go_at_call 10; (with_reducible refine (H3.out _ Sf).mono ?_); rintro e wh ⟨rfl, Sh, Ch⟩; skip) | (go_at_call 10; (with_reducible refine (H3.out _ (AL arZ Sf)).mono ?_); rintro e wh ⟨rfl, Sh, Ch⟩; have Zh := ZBC (ZN (TW Sf)) Ch; obtain ⟨⟨zz0, zz1, zz2, zz3, zz4, zz5⟩, ⟨zf0, zf1, zf2, zf3, zf4, zf5⟩⟩ := Zh.1.six))
          all_goals
            go_wp2_with fail
            go_meet
            first
              | exact ⟨_, rfl, rfl, (by have := (((((Zh.1.setS (j := 0) (.int .i64 0)).setS (j := 1) (.int .i64 0)).setS (j := 2) (.int .i64 ad)).setS (j := 3) (.int .i64 s)).setS (j := 4) (.int .i64 dp)).setS (j := 5) (.int .i64 sp); simpa using this), S6 Sh Zh _ _ _ _ _ _⟩
              | exact ⟨_, rfl, rfl, bk_new _ _ _, AL _ Sh⟩
        case rest =>
          clear H3 S0d S0a Z0a c0 c1 c2 c3 c4 c5 c6 c7 c8 c9 S0 FLP
          obtain ⟨g3, rfl, rfl, G0, S0⟩ := hcut
          obtain ⟨Mb, Xb, Db, lo⟩ := UN.out S0
          clear KP AL DR S6 BE TW ZN ZBK ZBD ZBC UN FS S0 L
          subst hM2
          have z1 := Xb.1.lt
          have z2 := G0.lt
          have hX : Hid (∀ W W', KT wc.heap.size W W' → (fun W => Bk W w.heap.size #[.int .i64 s, .int .i64 ad, .int .i64 sp, .int .i64 dp] 24 ∧ Bk W g3 #[.int .i64 0, .int .i64 0, .int .i64 ad, .int .i64 s, .int .i64 dp, .int .i64 sp] 47) W → (fun W => Bk W w.heap.size #[.int .i64 s, .int .i64 ad, .int .i64 sp, .int .i64 dp] 24 ∧ Bk W g3 #[.int .i64 0, .int .i64 0, .int .i64 ad, .int .i64 s, .int .i64 dp, .int .i64 sp] 47) W') := fun _ _ hk hx => ⟨hx.1.kt hk z1, hx.2.kt hk z2⟩
          have S0 := LSt.new (w := w) (X := (fun W => Bk W w.heap.size #[.int .i64 s, .int .i64 ad, .int .i64 sp, .int .i64 dp] 24 ∧ Bk W g3 #[.int .i64 0, .int .i64 0, .int .i64 ad, .int .i64 s, .int .i64 dp, .int .i64 sp] 47)) Mb ⟨Xb.1, G0⟩ Db lo
          have TL : w.heap.size ≤ wc.heap.size := S0.T_le
          generalize hT : wc.heap.size = T at S0 TL hX
          clear hT z1 z2 Mb Xb Db lo G0
          have KP : ∀ {n : Nat} {M : Mnd} {W W' : World}, LSt w T (fun W => Bk W w.heap.size #[.int .i64 s, .int .i64 ad, .int .i64 sp, .int .i64 dp] 24 ∧ Bk W g3 #[.int .i64 0, .int .i64 0, .int .i64 ad, .int .i64 s, .int .i64 dp, .int .i64 sp] 47) m (chainD (pinsD ad bs)) chainL n M W → Below W.heap.size W W' → LSt w T (fun W => Bk W w.heap.size #[.int .i64 s, .int .i64 ad, .int .i64 sp, .int .i64 dp] 24 ∧ Bk W g3 #[.int .i64 0, .int .i64 0, .int .i64 ad, .int .i64 s, .int .i64 dp, .int .i64 sp] 47) m (chainD (pinsD ad bs)) chainL n M W' := fun h hb => h.keep hX hb
          have AL : ∀ {n : Nat} {M : Mnd} {W : World} (o : Obj), LSt w T (fun W => Bk W w.heap.size #[.int .i64 s, .int .i64 ad, .int .i64 sp, .int .i64 dp] 24 ∧ Bk W g3 #[.int .i64 0, .int .i64 0, .int .i64 ad, .int .i64 s, .int .i64 dp, .int .i64 sp] 47) m (chainD (pinsD ad bs)) chainL n M W → LSt w T (fun W => Bk W w.heap.size #[.int .i64 s, .int .i64 ad, .int .i64 sp, .int .i64 dp] 24 ∧ Bk W g3 #[.int .i64 0, .int .i64 0, .int .i64 ad, .int .i64 s, .int .i64 dp, .int .i64 sp] 47) m (chainD (pinsD ad bs)) chainL n M (W.alloc o) := fun o h => h.alloc hX o
          have DR : ∀ {n : Nat} {M : Mnd} {W : World}, LSt w T (fun W => Bk W w.heap.size #[.int .i64 s, .int .i64 ad, .int .i64 sp, .int .i64 dp] 24 ∧ Bk W g3 #[.int .i64 0, .int .i64 0, .int .i64 ad, .int .i64 s, .int .i64 dp, .int .i64 sp] 47) m (chainD (pinsD ad bs)) chainL n M W → LSt w T (fun W => Bk W w.heap.size #[.int .i64 s, .int .i64 ad, .int .i64 sp, .int .i64 dp] 24 ∧ Bk W g3 #[.int .i64 0, .int .i64 0, .int .i64 ad, .int .i64 s, .int .i64 dp, .int .i64 sp] 47) m (chainD (pinsD ad bs)) chainL n M W.drew := fun h => h.drew hX
          have S6 : ∀ {n : Nat} {M : Mnd} {W : World} {k : Nat}, LSt w T (fun W => Bk W w.heap.size #[.int .i64 s, .int .i64 ad, .int .i64 sp, .int .i64 dp] 24 ∧ Bk W g3 #[.int .i64 0, .int .i64 0, .int .i64 ad, .int .i64 s, .int .i64 dp, .int .i64 sp] 47) m (chainD (pinsD ad bs)) chainL n M W → ZB T k W → ∀ u0 u1 u2 u3 u4 u5 : Value, LSt w T (fun W => Bk W w.heap.size #[.int .i64 s, .int .i64 ad, .int .i64 sp, .int .i64 dp] 24 ∧ Bk W g3 #[.int .i64 0, .int .i64 0, .int .i64 ad, .int .i64 s, .int .i64 dp, .int .i64 sp] 47) m (chainD (pinsD ad bs)) chainL n M ((((((W.setCell ⟨k, 0, none⟩ u0).setCell ⟨k, 1, none⟩ u1).setCell ⟨k, 2, none⟩ u2).setCell ⟨k, 3, none⟩ u3).setCell ⟨k, 4, none⟩ u4).setCell ⟨k, 5, none⟩ u5) := fun h z u0 u1 u2 u3 u4 u5 => LSt.set6 hX h z.2 (Nat.le_trans TL z.2) u0 u1 u2 u3 u4 u5
          have BE : ∀ {n : Nat} {M : Mnd} {W : World}, LSt w T (fun W => Bk W w.heap.size #[.int .i64 s, .int .i64 ad, .int .i64 sp, .int .i64 dp] 24 ∧ Bk W g3 #[.int .i64 0, .int .i64 0, .int .i64 ad, .int .i64 s, .int .i64 dp, .int .i64 sp] 47) m (chainD (pinsD ad bs)) chainL n M W → Below w.heap.size w W := fun h => h.below
          have TW : ∀ {n : Nat} {M : Mnd} {W : World}, LSt w T (fun W => Bk W w.heap.size #[.int .i64 s, .int .i64 ad, .int .i64 sp, .int .i64 dp] 24 ∧ Bk W g3 #[.int .i64 0, .int .i64 0, .int .i64 ad, .int .i64 s, .int .i64 dp, .int .i64 sp] 47) m (chainD (pinsD ad bs)) chainL n M W → T ≤ W.heap.size := fun h => h.tW
          have ZN : ∀ {W : World}, T ≤ W.heap.size → ZB T W.heap.size (W.alloc arZ) := fun h => zb_new h
          have ZBK : ∀ {k : Nat} {W W' : World}, ZB T k W → Below W.heap.size W W' → ZB T k W' := fun h hb => h.keep hb
          have ZBD : ∀ {k : Nat} {W : World}, ZB T k W → ZB T k W.drew := fun h => h.drew
          have ZBC : ∀ {k : Nat} {W W' : World}, ZB T k W → CK W W' → ZB T k W' := fun h hc => h.ck hc
          have UN : Hid (∀ {n : Nat} {M : Mnd} {W : World}, LSt w T (fun W => Bk W w.heap.size #[.int .i64 s, .int .i64 ad, .int .i64 sp, .int .i64 dp] 24 ∧ Bk W g3 #[.int .i64 0, .int .i64 0, .int .i64 ad, .int .i64 s, .int .i64 dp, .int .i64 sp] 47) m (chainD (pinsD ad bs)) chainL n M W → MemAt W m (chainD (pinsD ad bs)) chainL n M ∧ (fun W => Bk W w.heap.size #[.int .i64 s, .int .i64 ad, .int .i64 sp, .int .i64 dp] 24 ∧ Bk W g3 #[.int .i64 0, .int .i64 0, .int .i64 ad, .int .i64 s, .int .i64 dp, .int .i64 sp] 47) W ∧ Below w.heap.size w W ∧ (w.heap.size ≤ m.f ∧ w.heap.size ≤ m.o ∧ w.heap.size ≤ m.k)) := fun h => ⟨h.mem, h.x, h.below, h.lo⟩
          have FS : ∀ {n : Nat} {M : Mnd} {w' : World}, LSt w T (fun W => Bk W w.heap.size #[.int .i64 s, .int .i64 ad, .int .i64 sp, .int .i64 dp] 24 ∧ Bk W g3 #[.int .i64 0, .int .i64 0, .int .i64 ad, .int .i64 s, .int .i64 dp, .int .i64 sp] 47) m (chainD (pinsD ad bs)) chainL n M w' → (w'.cell? ⟨w.heap.size, 0, none⟩ = some (.int .i64 s) ∧ w'.cell? ⟨w.heap.size, 1, none⟩ = some (.int .i64 ad) ∧ w'.cell? ⟨w.heap.size, 2, none⟩ = some (.int .i64 sp) ∧ w'.cell? ⟨w.heap.size, 3, none⟩ = some (.int .i64 dp) ∧ w'.cell? ⟨g3, 0, none⟩ = some (.int .i64 0) ∧ w'.cell? ⟨g3, 1, none⟩ = some (.int .i64 0) ∧ w'.cell? ⟨g3, 2, none⟩ = some (.int .i64 ad) ∧ w'.cell? ⟨g3, 3, none⟩ = some (.int .i64 s) ∧ w'.cell? ⟨g3, 4, none⟩ = some (.int .i64 dp) ∧ w'.cell? ⟨g3, 5, none⟩ = some (.int .i64 sp)) := fun h => ⟨h.x.1.at 0, h.x.1.at 1, h.x.1.at 2, h.x.1.at 3, h.x.2.at 0, h.x.2.at 1, h.x.2.at 2, h.x.2.at 3, h.x.2.at 4, h.x.2.at 5⟩
          have F1 : Hid (∀ W, LSt w T (fun W => Bk W w.heap.size #[.int .i64 s, .int .i64 ad, .int .i64 sp, .int .i64 dp] 24 ∧ Bk W g3 #[.int .i64 0, .int .i64 0, .int .i64 ad, .int .i64 s, .int .i64 dp, .int .i64 sp] 47) m (chainD (pinsD ad bs)) chainL 3 (learnP (learnP noM (.back 1 ⟨s, ad, sp, dp⟩ b0)) (.back 1 ⟨s, ad, sp, dp⟩ b0)) W → Calls Try.prog 15 #[.pointer (some ⟨m.B, 0, none⟩), .int .i64 1, .agg #[.int .i64 s, .int .i64 ad, .int .i64 sp, .int .i64 dp], .int .i64 0] W fun e w' => e = .returned (.int .i64 0) ∧ LSt w T (fun W => Bk W w.heap.size #[.int .i64 s, .int .i64 ad, .int .i64 sp, .int .i64 dp] 24 ∧ Bk W g3 #[.int .i64 0, .int .i64 0, .int .i64 ad, .int .i64 s, .int .i64 dp, .int .i64 sp] 47) m (chainD (pinsD ad bs)) chainL 3 { (learnP (learnP noM (.back 1 ⟨s, ad, sp, dp⟩ b0)) (.back 1 ⟨s, ad, sp, dp⟩ b0)) with bk := delF (learnP (learnP noM (.back 1 ⟨s, ad, sp, dp⟩ b0)) (.back 1 ⟨s, ad, sp, dp⟩ b0)).bk (1, ⟨s, ad, sp, dp⟩) } w' ∧ CK W w') := fun W h => forget_l hX 1 ⟨s, ad, sp, dp⟩ 0 h ok1 (pkOk_ok hp.out) ok0 (r := ⟨0, { (learnP (learnP noM (.back 1 ⟨s, ad, sp, dp⟩ b0)) (.back 1 ⟨s, ad, sp, dp⟩ b0)) with bk := delF (learnP (learnP noM (.back 1 ⟨s, ad, sp, dp⟩ b0)) (.back 1 ⟨s, ad, sp, dp⟩ b0)).bk (1, ⟨s, ad, sp, dp⟩) }⟩) (by rw [pins_forget]; rw [if_pos (by simp [learnP, putF_same])])
          have F2 : Hid (∀ W, LSt w T (fun W => Bk W w.heap.size #[.int .i64 s, .int .i64 ad, .int .i64 sp, .int .i64 dp] 24 ∧ Bk W g3 #[.int .i64 0, .int .i64 0, .int .i64 ad, .int .i64 s, .int .i64 dp, .int .i64 sp] 47) m (chainD (pinsD ad bs)) chainL 3 { (learnP (learnP noM (.back 1 ⟨s, ad, sp, dp⟩ b0)) (.back 1 ⟨s, ad, sp, dp⟩ b0)) with bk := delF (learnP (learnP noM (.back 1 ⟨s, ad, sp, dp⟩ b0)) (.back 1 ⟨s, ad, sp, dp⟩ b0)).bk (1, ⟨s, ad, sp, dp⟩) } W → Calls Try.prog 15 #[.pointer (some ⟨m.B, 0, none⟩), .int .i64 1, .agg #[.int .i64 s, .int .i64 ad, .int .i64 sp, .int .i64 dp], .int .i64 0] W fun e w' => e = .returned (.int .i64 7) ∧ LSt w T (fun W => Bk W w.heap.size #[.int .i64 s, .int .i64 ad, .int .i64 sp, .int .i64 dp] 24 ∧ Bk W g3 #[.int .i64 0, .int .i64 0, .int .i64 ad, .int .i64 s, .int .i64 dp, .int .i64 sp] 47) m (chainD (pinsD ad bs)) chainL 3 { (learnP (learnP noM (.back 1 ⟨s, ad, sp, dp⟩ b0)) (.back 1 ⟨s, ad, sp, dp⟩ b0)) with bk := delF (learnP (learnP noM (.back 1 ⟨s, ad, sp, dp⟩ b0)) (.back 1 ⟨s, ad, sp, dp⟩ b0)).bk (1, ⟨s, ad, sp, dp⟩) } w' ∧ CK W w') := fun W h => forget_l hX 1 ⟨s, ad, sp, dp⟩ 0 h ok1 (pkOk_ok hp.out) ok0 (r := ⟨7, { (learnP (learnP noM (.back 1 ⟨s, ad, sp, dp⟩ b0)) (.back 1 ⟨s, ad, sp, dp⟩ b0)) with bk := delF (learnP (learnP noM (.back 1 ⟨s, ad, sp, dp⟩ b0)) (.back 1 ⟨s, ad, sp, dp⟩ b0)).bk (1, ⟨s, ad, sp, dp⟩) }⟩) (by rw [pins_forget]; rw [if_neg (by simp [delF_same])])
          have FLP : Hid (∀ W, Calls Try.prog 13 #[.agg #[.int .i64 s, .int .i64 ad, .int .i64 sp, .int .i64 dp]] W fun e w' => e = .returned (.agg #[.int .i64 ad, .int .i64 s, .int .i64 dp, .int .i64 sp]) ∧ Below W.heap.size W w') := fun W => pflip_any ⟨s, ad, sp, dp⟩ W
          have PEQ : ∀ w, (binOp .eql 24 (.agg #[.int .i64 ad, .int .i64 s, .int .i64 dp, .int .i64 sp]) (.agg #[.int .i64 ad, .int .i64 s, .int .i64 dp, .int .i64 sp])).run Try.prog w = .ok (.bool true) w := fun w => by
            have := packet_eq (flipP ⟨s, ad, sp, dp⟩) (flipP ⟨s, ad, sp, dp⟩) w
            rw [(pk_eqB _ _).2 rfl] at this
            exact this
          clear hX TL hp
          generalize LSt w T (fun W => Bk W w.heap.size #[.int .i64 s, .int .i64 ad, .int .i64 sp, .int .i64 dp] 24 ∧ Bk W g3 #[.int .i64 0, .int .i64 0, .int .i64 ad, .int .i64 s, .int .i64 dp, .int .i64 sp] 47) m (chainD (pinsD ad bs)) chainL = L at KP AL DR S6 BE TW UN FS S0 F1 F2
          generalize ({ (learnP (learnP noM (.back 1 ⟨s, ad, sp, dp⟩ b0)) (.back 1 ⟨s, ad, sp, dp⟩ b0)) with bk := delF (learnP (learnP noM (.back 1 ⟨s, ad, sp, dp⟩ b0)) (.back 1 ⟨s, ad, sp, dp⟩ b0)).bk (1, ⟨s, ad, sp, dp⟩) } : Mnd) = M3 at F1 F2
          generalize (learnP (learnP noM (.back 1 ⟨s, ad, sp, dp⟩ b0)) (.back 1 ⟨s, ad, sp, dp⟩ b0)) = M2 at F1 S0
          have S0d := DR S0
          obtain ⟨c0, c1, c2, c3, c4, c5, c6, c7, c8, c9⟩ := FS S0
          go_wp2_with fail
          go_region_held3 (fun w' => w'.cell? ⟨w.heap.size, 0, none⟩ = some (.int .i64 s) ∧ w'.cell? ⟨w.heap.size, 1, none⟩ = some (.int .i64 ad) ∧ w'.cell? ⟨w.heap.size, 2, none⟩ = some (.int .i64 sp) ∧ w'.cell? ⟨w.heap.size, 3, none⟩ = some (.int .i64 dp) ∧ w'.cell? ⟨g3, 0, none⟩ = some (.int .i64 0) ∧ w'.cell? ⟨g3, 1, none⟩ = some (.int .i64 0) ∧ w'.cell? ⟨g3, 2, none⟩ = some (.int .i64 ad) ∧ w'.cell? ⟨g3, 3, none⟩ = some (.int .i64 s) ∧ w'.cell? ⟨g3, 4, none⟩ = some (.int .i64 dp) ∧ w'.cell? ⟨g3, 5, none⟩ = some (.int .i64 sp)) (exact FS (by first | with_reducible exact S9 | with_reducible exact S8 | with_reducible exact Sf | with_reducible exact S0d)) (first | (go_at_call 13; (with_reducible refine (FLP.out _).mono ?_); rintro e wf ⟨rfl, hbf⟩; have Sf := KP S0d hbf) | (go_at_call 15; (with_reducible refine (F1.out _ Sf).mono ?_); rintro e w8' ⟨rfl, S8, _⟩) | (go_at_call 15; (with_reducible refine (F2.out _ S8).mono ?_); rintro e w9' ⟨rfl, S9, _⟩))
          go_wp2_with fail
          go_ret
          exact ⟨rfl, BE S9⟩

end Go.Proofs.Ytecdepgcklgfbaa
