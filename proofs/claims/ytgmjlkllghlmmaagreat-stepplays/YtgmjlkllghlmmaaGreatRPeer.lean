/-
  The document's answer on nets: In, Ports, Peer.
-/
import Derived.Test.YtgmjlkllghlmmaaGreatNp
namespace Go.Proofs.YtgmjlkllghlmmaaGreat
open Go.RowKit

theorem inN (n lo hi : Int) (w : World) : Calls Tryz.prog 23 #[.int .i64 n, .int .i64 lo, .int .i64 hi] w fun e w' => e = .returned (.bool (decide (lo ≤ n) && decide (n ≤ hi))) ∧ w' = w := by
  by_cases h : lo ≤ n
  · go_enter Tryz.func23, Tryz.ntmps23
    go_wp2_with fail
    go_ret
    exact ⟨by simp [h], rfl⟩
  · have h' : decide (lo ≤ n) = false := by simp; omega
    go_enter Tryz.func23, Tryz.ntmps23
    go_wp2_with fail
    go_ret
    exact ⟨by simp, rfl⟩
set_option maxHeartbeats 1000000 in
theorem rports_any (k : Int) (w : World) : Calls Tryz.prog 25 #[.int .i64 k] w fun e w' => e = .returned (.int .i64 (portsV k)) ∧ Below w.heap.size w w' := by
  have IN : Hid (∀ w, Calls Tryz.prog 23 #[.int .i64 k, .int .i64 1, .int .i64 5] w fun e w' => e = .returned (.bool (decide (1 ≤ k) && decide (k ≤ 5))) ∧ w' = w) := fun w => inN k 1 5 w
  by_cases h : 1 ≤ k ∧ k ≤ 5
  · rw [show (decide (1 ≤ k) && decide (k ≤ 5)) = true by simp [h]] at IN
    have hk : k = 1 ∨ k = 2 ∨ k = 3 ∨ k = 4 ∨ k = 5 := by omega
    clear h
    rcases hk with rfl | rfl | rfl | rfl | rfl
    all_goals
      go_enter Tryz.func25, Tryz.ntmps25
      go_wp2_with fail
      refine (IN.out _).mono ?_
      rintro e w1 ⟨rfl, rfl⟩
      go_wp2_with fail
      go_ret
      exact ⟨rfl, Below.alN (Below.refl _ _) _⟩
  · rw [show (decide (1 ≤ k) && decide (k ≤ 5)) = false by
      rw [Bool.eq_false_iff]
      simp only [ne_eq, Bool.and_eq_true, decide_eq_true_eq]
      exact h] at IN
    have e : portsV k = 0 := by
      unfold portsV
      rw [if_neg (by omega), if_neg (by omega), if_neg (by omega)]
    rw [e]
    clear h e
    go_enter Tryz.func25, Tryz.ntmps25
    go_wp2_with fail
    refine (IN.out _).mono ?_
    rintro e w1 ⟨rfl, rfl⟩
    go_wp2_with fail
    go_ret
    exact ⟨rfl, Below.refl _ _⟩

set_option maxHeartbeats 4000000 in
set_option maxRecDepth 100000 in
theorem rpeer_any (vd : Value) (A : Option Addr) (n cap : Nat) (ls : List Lk) (d p : Int) (w : World) (hL : Hid (Links w.heap.size w (.slice A n cap) ls)) :
    Calls Tryz.prog 43 #[.agg #[vd, .slice A n cap], .agg #[.int .i64 d, .int .i64 p]] w fun e w' => e = .returned (.tuple #[placeV (peerF ls d p), .bool (peerF ls d p).isSome]) ∧ Below w.heap.size w w' := by
  obtain ⟨rfl, hc, hm⟩ := hL.out.len
  unfold maxLen at hm
  have D1 := Below.alN (Below.refl w.heap.size w) (.cells #[vd, .slice A ls.length cap] 25)
  have D2 := Below.alN D1 (.cells #[.int .i64 d, .int .i64 p] 37)
  have D3 := Below.alN D2 (.cells #[.int .i64 0, .int .i64 0] 37)
  have B1 := ((box2_new w vd (.slice A ls.length cap) 25).alloc (.cells #[.int .i64 d, .int .i64 p] 37)).alloc (.cells #[.int .i64 0, .int .i64 0] 37)
  have B2 := (box2_new (w.alloc (.cells #[vd, .slice A ls.length cap] 25)) (.int .i64 d) (.int .i64 p) 37).alloc (.cells #[.int .i64 0, .int .i64 0] 37)
  have B3 := box2_new ((w.alloc (.cells #[vd, .slice A ls.length cap] 25)).alloc (.cells #[.int .i64 d, .int .i64 p] 37)) (.int .i64 0) (.int .i64 0) 37
  simp only [World.size_alloc] at B2 B3
  go_enter Tryz.func43, Tryz.ntmps43
  go_wp2_with fail
  go_loopw [6] (fun i wr => ∃ k : Nat, i = .int .i64 (k : Int) ∧ k ≤ ls.length ∧ Below w.heap.size w wr ∧ Box2 wr w.heap.size vd (.slice A ls.length cap) ∧ Box2 wr (w.heap.size + 1) (.int .i64 d) (.int .i64 p) ∧ Box2 wr (w.heap.size + 1 + 1) (.int .i64 0) (.int .i64 0) ∧ Hid (peerF ls d p = peerF (ls.drop k) d p)) (fun i _ => ls.length - (intOf i).toNat)
  case atStart => exact ⟨0, rfl, by omega, D3, B1, B2, B3, rfl⟩
  case round =>
    clear B1 B2 B3 D1 D2 D3
    obtain ⟨k, rfl, hk, D1, B1, B2, B3, hl⟩ := hrel
    obtain ⟨n1, e0, e1, _⟩ := id B1
    by_cases hlt : k < ls.length
    · obtain ⟨l, hlk⟩ : ∃ l, ls[k]? = some l := ⟨_, List.getElem?_eq_getElem hlt⟩
      obtain ⟨b, o, rfl, hb, c0, c1, c2, c3⟩ := (hL.out.below D1).at hlk
      have Hd : Hid (peerF (ls.drop k) d p = (endOf l d p).or (peerF (ls.drop (k + 1)) d p)) := peerF_drop hlk d p
      have D2 := Below.alN D1 (.cells #[.int .i64 l.a, .int .i64 l.p, .int .i64 l.b, .int .i64 l.q] 83)
      have E1 := B1.alloc (.cells #[.int .i64 l.a, .int .i64 l.p, .int .i64 l.b, .int .i64 l.q] 83)
      have E2 := B2.alloc (.cells #[.int .i64 l.a, .int .i64 l.p, .int .i64 l.b, .int .i64 l.q] 83)
      have E3 := B3.alloc (.cells #[.int .i64 l.a, .int .i64 l.p, .int .i64 l.b, .int .i64 l.q] 83)
      have k1 : (0 : Int) ≤ (k : Int) := by omega
      have k2 : (k : Int) < (ls.length : Int) := by omega
      have lw := D1.size
      unfold endOf at Hd
      clear hlk hL
      generalize l.a = la at *
      generalize l.p = lp at *
      generalize l.b = lb at *
      generalize l.q = lq at *
      obtain ⟨n2, f0, f1, f2, f3⟩ := id E2
      obtain ⟨n3, g0, g1, g2, g3⟩ := id E3
      obtain ⟨m2, h0, h1, _⟩ := id B2
      cases x0 : ((la == d) && (lp == p))
      · cases x1 : ((lb == d) && (lq == p))
        · have Hn : Hid (peerF ls d p = peerF (ls.drop (k + 1)) d p) := by show _ = _; rw [hl.out, Hd.out, x0, x1]; rfl
          clear hl Hd
          cases y0 : (la == d)
          · cases y1 : (lb == d)
            · clear x0 x1
              go_wp2_with fail
              go_roundw
              case rel => exact ⟨k + 1, by go_num, by omega, D2, E1, E2, E3, Hn⟩
              case measure => simp [intOf]; omega
            · have y2 : (lq == p) = false := by rw [y1] at x1; simpa using x1
              clear x0 x1
              go_wp2_with fail
              go_roundw
              case rel => exact ⟨k + 1, by go_num, by omega, D2, E1, E2, E3, Hn⟩
              case measure => simp [intOf]; omega
          · have y3 : (lp == p) = false := by rw [y0] at x0; simpa using x0
            cases y1 : (lb == d)
            · clear x0 x1
              go_wp2_with fail
              go_roundw
              case rel => exact ⟨k + 1, by go_num, by omega, D2, E1, E2, E3, Hn⟩
              case measure => simp [intOf]; omega
            · have y2 : (lq == p) = false := by rw [y1] at x1; simpa using x1
              clear x0 x1
              go_wp2_with fail
              go_roundw
              case rel => exact ⟨k + 1, by go_num, by omega, D2, E1, E2, E3, Hn⟩
              case measure => simp [intOf]; omega
        · have Hn : Hid (peerF ls d p = some (la, lp)) := by show _ = _; rw [hl.out, Hd.out, x0, x1]; rfl
          clear hl Hd
          obtain ⟨y1, y2⟩ : (lb == d) = true ∧ (lq == p) = true := by simpa using x1
          cases y0 : (la == d)
          · clear x0 x1
            go_wp2_with fail
            refine bodyPost_ret (v := .tuple #[.agg #[.int .i64 la, .int .i64 lp], .bool true]) (by simp [results, Tryz.results43, go_sem, g0, g1]) rfl ⟨by rw [Hn.out]; rfl, ?_⟩
            exact (D2.setCell (by simp; omega) _).setCell (by simp; omega) _
          · have y3 : (lp == p) = false := by rw [y0] at x0; simpa using x0
            clear x0 x1
            go_wp2_with fail
            refine bodyPost_ret (v := .tuple #[.agg #[.int .i64 la, .int .i64 lp], .bool true]) (by simp [results, Tryz.results43, go_sem, g0, g1]) rfl ⟨by rw [Hn.out]; rfl, ?_⟩
            exact (D2.setCell (by simp; omega) _).setCell (by simp; omega) _
      · have Hn : Hid (peerF ls d p = some (lb, lq)) := by show _ = _; rw [hl.out, Hd.out, x0]; rfl
        clear hl Hd
        obtain ⟨y1, y2⟩ : (la == d) = true ∧ (lp == p) = true := by simpa using x0
        clear x0
        go_wp2_with fail
        refine bodyPost_ret (v := .tuple #[.agg #[.int .i64 lb, .int .i64 lq], .bool true]) (by simp [results, Tryz.results43, go_sem, g0, g1]) rfl ⟨by rw [Hn.out]; rfl, ?_⟩
        exact (D2.setCell (by simp; omega) _).setCell (by simp; omega) _
    · have Hn : Hid (peerF ls d p = none) := by show _ = _; rw [hl.out, List.drop_eq_nil_of_le (by omega)]; rfl
      obtain ⟨n3, g0, g1, g2, g3⟩ := id B3
      go_wp2_with fail
      refine bodyPost_ret (v := .tuple #[.agg #[.int .i64 0, .int .i64 0], .bool false]) (by simp [results, Tryz.results43, go_sem, g0, g1]) rfl ⟨by rw [Hn.out]; rfl, ?_⟩
      exact (D1.setCell (by simp; omega) _).setCell (by simp; omega) _
end Go.Proofs.YtgmjlkllghlmmaaGreat
