/-
  Package net: the other end of a link.
-/
import Derived.Test.YthioedgnambomaaNA
namespace Go.Proofs.Ythioedgnambomaa
open Go.RowKit

theorem place_eq (a b c d : Int) (w : World) : (binOp .eql 27 (plA a b) (plA c d)).run Try.prog w = .ok (.bool ((a == c) && (b == d))) w := by
  cases h1 : (a == c) <;> cases h2 : (b == d)
  all_goals simp [go_sem, Try.underlying27, Try.underlying3, h1, h2]
theorem place_ne (a b c d : Int) (w : World) : (binOp .neq 27 (plA a b) (plA c d)).run Try.prog w = .ok (.bool (!((a == c) && (b == d)))) w := by
  cases h1 : (a == c) <;> cases h2 : (b == d)
  all_goals simp [go_sem, Try.underlying27, Try.underlying3, h1, h2]
theorem Box2.drew {w : World} {n : Nat} {x y : Value} (h : Box2 w n x y) : Box2 w.drew n x y := h
/-- A link's cells in a block of a call's own. -/
def Lk4 (w : World) (n : Nat) (a b c d : Value) : Prop := n < w.heap.size ∧ w.cell? ⟨n, 0, none⟩ = some a ∧ w.cell? ⟨n, 1, none⟩ = some b ∧ w.cell? ⟨n, 2, none⟩ = some c ∧ w.cell? ⟨n, 3, none⟩ = some d
theorem lk4_new (w : World) (a b c d : Value) (t : TypeId) : Lk4 (w.alloc (.cells #[a, b, c, d] t)) w.heap.size a b c d := ⟨by simp, by simp [go_sem], by simp [go_sem], by simp [go_sem], by simp [go_sem]⟩
theorem Lk4.below {B : Nat} {W w' : World} {n : Nat} {a b c d : Value} (h : Lk4 W n a b c d) (hb : Below B W w') (hB : n < B) : Lk4 w' n a b c d := by
  obtain ⟨h0, h1, h2, h3, h4⟩ := h
  exact ⟨Nat.lt_of_lt_of_le h0 hb.size, (hb.cell (p := ⟨n, 0, none⟩) hB).trans h1, (hb.cell (p := ⟨n, 1, none⟩) hB).trans h2, (hb.cell (p := ⟨n, 2, none⟩) hB).trans h3, (hb.cell (p := ⟨n, 3, none⟩) hB).trans h4⟩
theorem Lk4.alloc {w : World} {n : Nat} {a b c d : Value} (h : Lk4 w n a b c d) (o : Obj) : Lk4 (w.alloc o) n a b c d := h.below ((Below.refl _ _).alloc (Nat.le_refl _) o) h.1
theorem Lk4.drew {w : World} {n : Nat} {a b c d : Value} (h : Lk4 w n a b c d) : Lk4 w.drew n a b c d := h

set_option maxHeartbeats 4000000 in
set_option maxRecDepth 100000 in
/-- Peer. -/
theorem peer_any (vd : Value) (A : Option Addr) (n cap : Nat) (ls : List Lk) (d p : Int) (w : World) (hL : Hid (Links w.heap.size w (.slice A n cap) ls)) :
    Calls Try.prog 19 #[.agg #[vd, .slice A n cap], plA d p] w fun e w' => e = .returned (.tuple #[placeV (peerF ls d p), .bool (peerF ls d p).isSome]) ∧ Below w.heap.size w w' := by
  obtain ⟨rfl, hc, hm⟩ := hL.out.len
  unfold maxLen at hm
  have D1 := Below.alN (Below.refl w.heap.size w) (.cells #[vd, .slice A ls.length cap] 25)
  have D2 := Below.alN D1 (.cells #[.int .i64 d, .int .i64 p] 27)
  have D3 := Below.alN D2 (.cells #[.int .i64 0, .int .i64 0] 27)
  have B1 := ((box2_new w vd (.slice A ls.length cap) 25).alloc (.cells #[.int .i64 d, .int .i64 p] 27)).alloc (.cells #[.int .i64 0, .int .i64 0] 27)
  have B2 := (box2_new (w.alloc (.cells #[vd, .slice A ls.length cap] 25)) (.int .i64 d) (.int .i64 p) 27).alloc (.cells #[.int .i64 0, .int .i64 0] 27)
  have B3 := box2_new ((w.alloc (.cells #[vd, .slice A ls.length cap] 25)).alloc (.cells #[.int .i64 d, .int .i64 p] 27)) (.int .i64 0) (.int .i64 0) 27
  simp only [World.size_alloc] at B2 B3
  go_enter Try.func19, Try.ntmps19
  go_wp2_with fail
  go_loopw [11] (fun i wr => ∃ k : Nat, i = .int .i64 (k : Int) ∧ k ≤ ls.length ∧ Below w.heap.size w wr ∧ Box2 wr w.heap.size vd (.slice A ls.length cap) ∧ Box2 wr (w.heap.size + 1) (.int .i64 d) (.int .i64 p) ∧ Box2 wr (w.heap.size + 1 + 1) (.int .i64 0) (.int .i64 0) ∧ Hid (peerF ls d p = peerF (ls.drop k) d p)) (fun i _ => ls.length - (intOf i).toNat)
  case atStart => exact ⟨0, rfl, by omega, D3, B1, B2, B3, rfl⟩
  case round =>
    clear B1 B2 B3 D1 D2 D3
    obtain ⟨k, rfl, hk, D1, B1, B2, B3, hl⟩ := hrel
    obtain ⟨n1, e0, e1, _⟩ := id B1
    by_cases hlt : k < ls.length
    · obtain ⟨l, hlk⟩ : ∃ l, ls[k]? = some l := ⟨_, List.getElem?_eq_getElem hlt⟩
      obtain ⟨b, o, rfl, hb, c0, c1, c2, c3⟩ := (hL.out.below D1).at hlk
      have Hd : Hid (peerF (ls.drop k) d p = (endOf l d p).or (peerF (ls.drop (k + 1)) d p)) := peerF_drop hlk d p
      have D2 := Below.alN D1 (.cells #[.int .i64 l.a, .int .i64 l.p, .int .i64 l.b, .int .i64 l.q] 44)
      have E1 := B1.alloc (.cells #[.int .i64 l.a, .int .i64 l.p, .int .i64 l.b, .int .i64 l.q] 44)
      have E2 := B2.alloc (.cells #[.int .i64 l.a, .int .i64 l.p, .int .i64 l.b, .int .i64 l.q] 44)
      have E3 := B3.alloc (.cells #[.int .i64 l.a, .int .i64 l.p, .int .i64 l.b, .int .i64 l.q] 44)
      have k1 : (0 : Int) ≤ (k : Int) := by omega
      have k2 : (k : Int) < (ls.length : Int) := by omega
      have lw := D1.size
      have FR : Hid (∀ w, Calls Try.prog 41 #[lkA l.a l.p l.b l.q] w fun e w' => e = .returned (plA l.a l.p) ∧ Below w.heap.size w w') := fun w => from_any _ _ _ _ w
      have TO : Hid (∀ w, Calls Try.prog 42 #[lkA l.a l.p l.b l.q] w fun e w' => e = .returned (plA l.b l.q) ∧ Below w.heap.size w w') := fun w => to_any _ _ _ _ w
      unfold endOf at Hd
      clear hlk hL
      generalize l.a = la at *
      generalize l.p = lp at *
      generalize l.b = lb at *
      generalize l.q = lq at *
      have L0 := lk4_new wr (.int .i64 la) (.int .i64 lp) (.int .i64 lb) (.int .i64 lq) 44
      obtain ⟨n2, f0, f1, f2, f3⟩ := id E2
      have P1 := fun w => place_eq la lp d p w
      have P2 := fun w => place_eq lb lq d p w
      generalize ((la == d) && (lp == p)) = x0 at *
      generalize ((lb == d) && (lq == p)) = x1 at *
      go_wp2_with fail
      go_region_held3 (fun w' => w'.cell? ⟨wr.heap.size, 0, none⟩ = some (.int .i64 la) ∧ w'.cell? ⟨wr.heap.size, 1, none⟩ = some (.int .i64 lp) ∧ w'.cell? ⟨wr.heap.size, 2, none⟩ = some (.int .i64 lb) ∧ w'.cell? ⟨wr.heap.size, 3, none⟩ = some (.int .i64 lq) ∧ w'.cell? ⟨w.heap.size + 1, 0, none⟩ = some (.int .i64 d) ∧ w'.cell? ⟨w.heap.size + 1, 1, none⟩ = some (.int .i64 p)) (go_keep) ((go_at_call 41; refine (FR.out _).mono ?_; rintro e w2 ⟨rfl, hb2⟩; have D3 := chnN hb2 D2.drew; have G1 := E1.drew.below hb2 E1.1; have G2 := E2.drew.below hb2 E2.1; have G3 := E3.drew.below hb2 E3.1; have G4 := L0.drew.below hb2 L0.1; obtain ⟨_, g0, g1, _⟩ := id G2; obtain ⟨_, g2, g3, g4, g5⟩ := id G4))
      clear E1 E2 E3 L0 f0 f1 f2 f3 c0 c1 c2 c3 e0 e1
      cases x0
      · go_wp2_with fail
        go_region_held3 (fun w' => w'.cell? ⟨wr.heap.size, 0, none⟩ = some (.int .i64 la) ∧ w'.cell? ⟨wr.heap.size, 1, none⟩ = some (.int .i64 lp) ∧ w'.cell? ⟨wr.heap.size, 2, none⟩ = some (.int .i64 lb) ∧ w'.cell? ⟨wr.heap.size, 3, none⟩ = some (.int .i64 lq) ∧ w'.cell? ⟨w.heap.size + 1, 0, none⟩ = some (.int .i64 d) ∧ w'.cell? ⟨w.heap.size + 1, 1, none⟩ = some (.int .i64 p)) (go_keep) ((go_at_call 42; refine (TO.out _).mono ?_; rintro e w3 ⟨rfl, hb3⟩; have D4 := chnN hb3 D3.drew; have J1 := G1.drew.below hb3 G1.1; have J2 := G2.drew.below hb3 G2.1; have J3 := G3.drew.below hb3 G3.1; have J4 := G4.drew.below hb3 G4.1; obtain ⟨_, j0, j1, _⟩ := id J2; obtain ⟨_, j2, j3, j4, j5⟩ := id J4))
        clear g0 g1 g2 g3 g4 g5 G1 G2 G3 G4
        cases x1
        · have Hn : Hid (peerF ls d p = peerF (ls.drop (k + 1)) d p) := by show _ = _; rw [hl.out, Hd.out]; rfl
          go_wp2_with fail
          go_roundw
          case rel => exact ⟨k + 1, by go_num, by omega, D4, J1, J2, J3, Hn⟩
          case measure => simp [intOf]; omega
        · have Hn : Hid (peerF ls d p = some (la, lp)) := by show _ = _; rw [hl.out, Hd.out]; rfl
          clear hl Hd
          go_wp2_with fail
          refine (FR.out _).mono ?_
          rintro e w4 ⟨rfl, hb4⟩
          have D5 := chnN hb4 D4
          have K3 := J3.below hb4 J3.1
          obtain ⟨n3, g0, g1, g2, g3⟩ := id K3
          clear J1 J2 J3 J4 hb4
          go_wp2_with fail
          refine bodyPost_ret (v := .tuple #[.agg #[.int .i64 la, .int .i64 lp], .bool true]) (by simp [results, Try.results19, go_sem, g0, g1]) rfl ⟨by rw [Hn.out]; rfl, ?_⟩
          exact (D5.setCell (by simp; omega) _).setCell (by simp; omega) _
      · have Hn : Hid (peerF ls d p = some (lb, lq)) := by show _ = _; rw [hl.out, Hd.out]; rfl
        clear hl Hd
        go_wp2_with fail
        refine (TO.out _).mono ?_
        rintro e w4 ⟨rfl, hb4⟩
        have D5 := chnN hb4 D3
        have K3 := G3.below hb4 G3.1
        clear g0 g1 g2 g3 g4 g5 G1 G2 G3 G4 hb4
        obtain ⟨n3, g0, g1, g2, g3⟩ := id K3
        go_wp2_with fail
        refine bodyPost_ret (v := .tuple #[.agg #[.int .i64 lb, .int .i64 lq], .bool true]) (by simp [results, Try.results19, go_sem, g0, g1]) rfl ⟨by rw [Hn.out]; rfl, ?_⟩
        exact (D5.setCell (by simp; omega) _).setCell (by simp; omega) _
    · have Hn : Hid (peerF ls d p = none) := by show _ = _; rw [hl.out, List.drop_eq_nil_of_le (by omega)]; rfl
      obtain ⟨n3, g0, g1, g2, g3⟩ := id B3
      go_wp2_with fail
      refine bodyPost_ret (v := .tuple #[.agg #[.int .i64 0, .int .i64 0], .bool false]) (by simp [results, Try.results19, go_sem, g0, g1]) rfl ⟨by rw [Hn.out]; rfl, ?_⟩
      exact (D1.setCell (by simp; omega) _).setCell (by simp; omega) _
end Go.Proofs.Ythioedgnambomaa
