/-
  RingEnds: its own net, a router with a link to itself.
-/
import Derived.Test.YthioedgnambomaaRg5
namespace Go.Proofs.Ythioedgnambomaa
open Go.RowKit Go.Maps

def exR : NRule := ⟨true, 65535, 65535, 255, 255, by omega, by omega, by omega, by omega⟩
def exD : Dv := ⟨⟨#[114]⟩, 2, 0, 0, [], [exR], [⟨0, 0, 1⟩], by omega, by decide⟩
def exL : Lk := ⟨0, 0, 0, 1⟩
theorem ex_dev : devC exD = 0 := by
  have h : checkV (exD.routes.map rtOf) = 0 := by
    show checkV [⟨0, 0, 1⟩] = 0
    unfold checkV
    rw [if_neg (by simp), checkFrom_at (r := ⟨0, 0, 1⟩) rfl]
    have e : wrongAt [⟨0, 0, 1⟩] 0 ⟨0, 0, 1⟩ = 0 := by decide
    rw [if_pos e, checkFrom_end (by simp)]
  have hb : backsFrom [] 0 0 = 0 := by
    unfold backsFrom
    simp
  unfold devC
  rw [h]
  show devV 2 0 0 [] 1 1 0 = 0
  unfold devV
  rw [hb]
  decide
theorem ex_netV : netV [exD] [exL] = 0 := by
  unfold netV
  rw [if_neg (by simp)]
  have e0 : devWrong [exD] 0 exD = 0 := by
    unfold devWrong
    rw [if_pos (by decide), if_neg (by simp), ex_dev]
  rw [devsFrom_at (d := exD) rfl, if_pos e0, devsFrom_end (by simp), if_pos rfl]
  have l0 : linkWrong [exD] [exL] 0 exL = 0 := by decide
  rw [linksFrom_at (l := exL) rfl, if_pos l0, linksFrom_end (by simp)]
theorem ex_ring : ringV [exD] [exL] = 0 := by
  unfold ringV
  rw [if_pos ex_netV]
  decide
theorem ex_err : rwErr [exD] [exL] (0, 2) zeroP = 0 := by
  unfold rwErr
  rw [if_pos ex_ring]
  decide
theorem ex_send (q : Int) : sendP exD noM 0 q zeroP 0 = passR 1 zeroP := by
  unfold sendP
  rw [if_pos (show exD.kind = 2 from rfl)]
  unfold routeP
  rw [if_pos (by decide)]
  have : outN (routesOf exD) zeroP.d = 1 := by decide
  rw [this]
theorem ex_nx (q : Int) (h : isPl [exD] 0 q = true) : nxF [exD] [exL] zeroP (0, q) = some (0, 0) := by
  have e : handleP [exD] [exL] noM 0 q zeroP 0 = ⟨0, (0, 0), zeroP, noM⟩ := by
    unfold handleP
    rw [if_pos h, if_pos (by decide)]
    have hg : ([exD] : List Dv).getD (0 : Int).toNat default = exD := rfl
    rw [hg, ex_send q]
    rfl
  unfold nxF
  rw [if_pos (by rw [e]), e]
theorem ex_way : wayP [exD] [exL] zeroP (0, 2) = ([(0, 2), (0, 0)], true) := by
  unfold wayP
  rw [goW_on (by simp) (ex_nx 2 (by decide)), goW_on (by simp) (ex_nx 0 (by decide)), goW_in (by simp)]
  rfl
/-- One element's cells, in a block of their own. -/
theorem slAt_one {α : Type} {n : Nat} {R : List Value → α → Prop} {w : World} {b : Nat} {cs : List Value} {t : TypeId} {x : α} (hl : cs.length = n) (hR : R cs x) (h : Bk w b cs.toArray t) : SlAt w.heap.size w n R (.slice (some ⟨b, 0, none⟩) 1 1) [x] := by
  refine ⟨some ⟨b, 0, none⟩, 1, rfl, (fun e => by cases e), Nat.le_refl _, by decide, fun _ => ⟨b, 0, rfl, h.lt, fun k y hy => ?_⟩⟩
  have hk : k = 0 := by
    have := (List.getElem?_eq_some_iff.1 hy).1
    simp at this
    exact this
  subst hk
  obtain rfl := Option.some.inj hy
  refine ⟨cs, hl, hR, fun j u hj => ?_⟩
  rw [show 0 + 0 * n + j = j by omega, h.at]
  simpa using hj
theorem slAt_two {w : World} {b : Nat} {x y : Plc} {t : TypeId} (h : Bk w b #[.int .i64 x.1, .int .i64 x.2, .int .i64 y.1, .int .i64 y.2] t) : SlAt w.heap.size w 2 IsPlc (.slice (some ⟨b, 0, none⟩) 2 2) [x, y] := by
  refine ⟨some ⟨b, 0, none⟩, 2, rfl, (fun e => by cases e), Nat.le_refl _, by decide, fun _ => ⟨b, 0, rfl, h.lt, fun k z hz => ?_⟩⟩
  match k, hz with
  | 0, hz =>
    obtain rfl := Option.some.inj hz
    refine ⟨plC x, rfl, rfl, fun j u hj => ?_⟩
    have hj7 : j < 2 := (List.getElem?_eq_some_iff.1 hj).1
    rw [show 0 + 0 * 2 + j = j by omega, h.at]
    match j, hj7, hj with
    | 0, _, hj => exact hj
    | 1, _, hj => exact hj
  | 1, hz =>
    obtain rfl := Option.some.inj hz
    refine ⟨plC y, rfl, rfl, fun j u hj => ?_⟩
    have hj7 : j < 2 := (List.getElem?_eq_some_iff.1 hj).1
    rw [show 0 + 1 * 2 + j = 2 + j by omega, h.at]
    match j, hj7, hj with
    | 0, _, hj => exact hj
    | 1, _, hj => exact hj
abbrev exW (w : World) : World := ((((w.alloc (.cells #[.bool true, .int .u16 65535, .int .u16 65535, .int .u8 255, .int .u8 255] 34)).alloc (.cells #[.int .i64 0, .int .i64 0, .int .i64 1] 38)).alloc (.cells #[.string ⟨#[114]⟩, .int .i64 2, .int .i64 0, .int .u8 0, .slice none 0 0, .slice (some ⟨w.heap.size, 0, none⟩) 1 1, .slice (some ⟨w.heap.size + 1, 0, none⟩) 1 1] 42)).alloc (.cells #[.int .i64 0, .int .i64 0, .int .i64 0, .int .i64 1] 44)).alloc (.cells #[.slice (some ⟨w.heap.size + 1 + 1, 0, none⟩) 1 1, .slice (some ⟨w.heap.size + 1 + 1 + 1, 0, none⟩) 1 1] 25)
theorem ex_net (w : World) : Devs (exW w).heap.size (exW w) (.slice (some ⟨w.heap.size + 1 + 1, 0, none⟩) 1 1) [exD] ∧ Links (exW w).heap.size (exW w) (.slice (some ⟨w.heap.size + 1 + 1 + 1, 0, none⟩) 1 1) [exL] ∧ Bk (exW w) (w.heap.size + 1 + 1 + 1 + 1) #[.slice (some ⟨w.heap.size + 1 + 1, 0, none⟩) 1 1, .slice (some ⟨w.heap.size + 1 + 1 + 1, 0, none⟩) 1 1] 25 := by
  have k0 : Bk (exW w) w.heap.size #[.bool true, .int .u16 65535, .int .u16 65535, .int .u8 255, .int .u8 255] 34 := ((((bk_new w _ _).alloc _).alloc _).alloc _).alloc _
  have k1 : Bk (exW w) (w.heap.size + 1) #[.int .i64 0, .int .i64 0, .int .i64 1] 38 := (((bk_new' (w.alloc _) _ _ _ (by simp)).alloc _).alloc _).alloc _
  have k2 : Bk (exW w) (w.heap.size + 1 + 1) #[.string ⟨#[114]⟩, .int .i64 2, .int .i64 0, .int .u8 0, .slice none 0 0, .slice (some ⟨w.heap.size, 0, none⟩) 1 1, .slice (some ⟨w.heap.size + 1, 0, none⟩) 1 1] 42 := ((bk_new' ((w.alloc _).alloc _) _ _ _ (by simp)).alloc _).alloc _
  have k3 : Bk (exW w) (w.heap.size + 1 + 1 + 1) #[.int .i64 0, .int .i64 0, .int .i64 0, .int .i64 1] 44 := (bk_new' (((w.alloc _).alloc _).alloc _) _ _ _ (by simp)).alloc _
  have k4 : Bk (exW w) (w.heap.size + 1 + 1 + 1 + 1) #[.slice (some ⟨w.heap.size + 1 + 1, 0, none⟩) 1 1, .slice (some ⟨w.heap.size + 1 + 1 + 1, 0, none⟩) 1 1] 25 := bk_new' ((((w.alloc _).alloc _).alloc _).alloc _) _ _ _ (by simp)
  have nil : SlAt (exW w).heap.size (exW w) 1 IsI (.slice none 0 0) [] := ⟨none, 0, rfl, fun _ => rfl, Nat.le_refl _, Nat.zero_le _, fun h => absurd rfl h⟩
  have hr : SlAt (exW w).heap.size (exW w) 5 IsRule (.slice (some ⟨w.heap.size, 0, none⟩) 1 1) [exR] := slAt_one (cs := [.bool true, .int .u16 65535, .int .u16 65535, .int .u8 255, .int .u8 255]) rfl rfl k0
  have ht : SlAt (exW w).heap.size (exW w) 3 IsRoute (.slice (some ⟨w.heap.size + 1, 0, none⟩) 1 1) [⟨0, 0, 1⟩] := slAt_one (cs := [.int .i64 0, .int .i64 0, .int .i64 1]) rfl rfl k1
  exact ⟨slAt_one (cs := [.string ⟨#[114]⟩, .int .i64 2, .int .i64 0, .int .u8 0, .slice none 0 0, .slice (some ⟨w.heap.size, 0, none⟩) 1 1, .slice (some ⟨w.heap.size + 1, 0, none⟩) 1 1]) rfl ⟨_, _, _, rfl, nil, hr, ht⟩ k2, slAt_one (cs := [.int .i64 0, .int .i64 0, .int .i64 0, .int .i64 1]) rfl rfl k3, k4⟩
theorem exWalk_any (A B : Option Addr) (w : World) (hD : Devs w.heap.size w (.slice A 1 1) [exD]) (hL : Links w.heap.size w (.slice B 1 1) [exL]) :
    Calls Try.prog 5 #[.agg #[.slice A 1 1, .slice B 1 1], .agg #[.int .i64 0, .int .i64 2], .agg #[.int .i64 0, .int .i64 0, .int .i64 0, .int .i64 0]] w fun e w' => ∃ A c, e = .returned (.tuple #[.slice A 2 c, .bool true, .int .i64 0]) ∧ Hid (SlAt w'.heap.size w' 2 IsPlc (.slice A 2 c) [(0, 2), (0, 0)]) ∧ Below w.heap.size w w' := by
  refine (ringWalk_any A B 1 1 [exD] [exL] (0, 2) zeroP w hD hL).mono fun e w' ⟨hb, h⟩ => ?_
  rcases h with ⟨h, _⟩ | ⟨_, A', c, h1, h2, _⟩
  · exact absurd ex_err h
  · rw [ex_way] at h1 h2
    exact ⟨A', c, h1, h2, hb⟩
set_option maxHeartbeats 1000000 in
theorem placeK_any (x y : Int) (w : World) : Calls Try.prog 6 #[.int .i64 x, .int .i64 y] w fun e w' => e = .returned (plA x y) ∧ Below w.heap.size w w' := by
  go_enter Try.func6, Try.ntmps6
  go_wp2_with fail
  refine bodyPost_ret (v := plA x y) (by simp [results, Try.results6, go_sem]) rfl ⟨rfl, ?_⟩
  exact Below.alN (Below.refl _ _) _
set_option maxHeartbeats 1000000 in
theorem mAll_any (w : World) : Calls Try.prog 11 #[] w fun e w' => e = .returned (.agg #[.int .u16 65535, .int .u16 65535, .int .u8 255, .int .u8 255]) ∧ Below w.heap.size w w' := by
  go_enter Try.func11, Try.ntmps11
  go_wp2_with fail
  refine bodyPost_ret (v := .agg #[.int .u16 65535, .int .u16 65535, .int .u8 255, .int .u8 255]) (by simp [results, Try.results11, go_sem]) rfl ⟨rfl, ?_⟩
  exact Below.alN (Below.refl _ _) _
set_option maxHeartbeats 1000000 in
theorem allR_any (ok : Bool) (w : World) : Calls Try.prog 4 #[.bool ok] w fun e w' => e = .returned (.agg #[.bool ok, .int .u16 65535, .int .u16 65535, .int .u8 255, .int .u8 255]) ∧ Below w.heap.size w w' := by
  have R1 := bk_new w #[.bool false, .int .u16 0, .int .u16 0, .int .u8 0, .int .u8 0] 34
  have D1 := Below.alN (Below.refl w.heap.size w) (.cells #[.bool false, .int .u16 0, .int .u16 0, .int .u8 0, .int .u8 0] 34)
  go_enter Try.func4, Try.ntmps4
  go_wp2_with fail
  refine (mAll_any _).mono ?_
  rintro e w2 ⟨rfl, hb2⟩
  have R2 := R1.keep hb2
  have D2 := chnN hb2 D1
  obtain ⟨r0, r1, r2, r3, r4⟩ := R2.five
  have f0 := R2.fz 0
  have f1 := R2.fz 1
  have f2 := R2.fz 2
  have f3 := R2.fz 3
  have f4 := R2.fz 4
  go_wp2_with fail
  refine bodyPost_ret (v := .agg #[.bool ok, .int .u16 65535, .int .u16 65535, .int .u8 255, .int .u8 255]) (by simp [results, Try.results4, go_sem, r0, r1, r2, r3, r4]) rfl ⟨rfl, ?_⟩
  go_grown
end Go.Proofs.Ythioedgnambomaa
