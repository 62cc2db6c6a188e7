/-
  NetPeers: it returns true.
-/
import Derived.Test.YthofdiacncgbkaaNK
namespace Go.Proofs.Ythofdiacncgbkaa
open Go.RowKit

theorem links_one (W : World) (b : Nat) (hb : b < W.heap.size) (c0 : W.cell? ⟨b, 0, none⟩ = some (.int .i64 0)) (c1 : W.cell? ⟨b, 1, none⟩ = some (.int .i64 0)) (c2 : W.cell? ⟨b, 2, none⟩ = some (.int .i64 1)) (c3 : W.cell? ⟨b, 3, none⟩ = some (.int .i64 0)) : Links W.heap.size W (.slice (some ⟨b, 0, none⟩) 1 1) [⟨0, 0, 1, 0⟩] := by
  refine ⟨_, 1, rfl, (fun e => by cases e), by simp, by simp [maxLen], fun _ => ⟨b, 0, rfl, hb, fun k x hx => ?_⟩⟩
  match k, hx with
  | 0, hx =>
    obtain rfl := Option.some.inj hx
    refine ⟨_, rfl, rfl, fun j u hj => ?_⟩
    match j, hj with
    | 0, hj => obtain rfl := Option.some.inj hj; exact c0
    | 1, hj => obtain rfl := Option.some.inj hj; exact c1
    | 2, hj => obtain rfl := Option.some.inj hj; exact c2
    | 3, hj => obtain rfl := Option.some.inj hj; exact c3
theorem peer_one (vd : Value) (W : World) (b : Nat) (hb : b < W.heap.size) (c0 : W.cell? ⟨b, 0, none⟩ = some (.int .i64 0)) (c1 : W.cell? ⟨b, 1, none⟩ = some (.int .i64 0)) (c2 : W.cell? ⟨b, 2, none⟩ = some (.int .i64 1)) (c3 : W.cell? ⟨b, 3, none⟩ = some (.int .i64 0)) :
    Calls Try.prog 4 #[.agg #[vd, .slice (some ⟨b, 0, none⟩) 1 1], plA 1 0] W fun e w' => e = .returned (.tuple #[plA 0 0, .bool true]) ∧ Below W.heap.size W w' := by
  have := peer_any vd _ 1 1 [⟨0, 0, 1, 0⟩] 1 0 W (links_one W b hb c0 c1 c2 c3)
  rw [show peerF [⟨0, 0, 1, 0⟩] 1 0 = some (0, 0) by rfl] at this
  exact this
set_option maxHeartbeats 8000000 in
set_option maxRecDepth 100000 in
theorem peers_any (A B : Option Addr) (cap cap' : Nat) (ds : List Dv) (ls : List Lk) (w : World) (hD : Hid (Devs w.heap.size w (.slice A ds.length cap) ds)) (hL : Hid (Links w.heap.size w (.slice B ls.length cap') ls)) :
    Calls Try.prog 3 #[.agg #[.slice A ds.length cap, .slice B ls.length cap']] w fun e w' => e = .returned (.bool true) ∧ Below w.heap.size w w' := by
  have CK : Hid (∀ W, Below w.heap.size w W → Calls Try.prog 5 #[.agg #[.slice A ds.length cap, .slice B ls.length cap']] W fun e w' => e = .returned (.int .i64 (netV ds ls)) ∧ Below W.heap.size W w') := fun W h => net_any _ _ ds ls W ((hD.out.below h).mono h.size) ((hL.out.below h).mono h.size)
  have PE : Hid (∀ W d p, Below w.heap.size w W → Calls Try.prog 4 #[.agg #[.slice A ds.length cap, .slice B ls.length cap'], plA d p] W fun e w' => e = .returned (.tuple #[placeV (peerF ls d p), .bool (peerF ls d p).isSome]) ∧ Below W.heap.size W w') := fun W d p h => peer_any _ _ _ _ ls d p W ((hL.out.below h).mono h.size)
  have PX : Hid (∀ (vd : Value) (W : World) (b : Nat), b < W.heap.size → W.cell? ⟨b, 0, none⟩ = some (.int .i64 0) → W.cell? ⟨b, 1, none⟩ = some (.int .i64 0) → W.cell? ⟨b, 2, none⟩ = some (.int .i64 1) → W.cell? ⟨b, 3, none⟩ = some (.int .i64 0) → Calls Try.prog 4 #[.agg #[vd, .slice (some ⟨b, 0, none⟩) 1 1], plA 1 0] W fun e w' => e = .returned (.tuple #[plA 0 0, .bool true]) ∧ Below W.heap.size W w') := peer_one
  obtain ⟨_, hc, hm⟩ := hD.out.len
  obtain ⟨_, hc', hm'⟩ := hL.out.len
  unfold maxLen at hm hm'
  have HZ : Hid (netV ds ls = 0 → ds.length ≤ 10 ∧ ls.length ≤ 15 ∧ Apart ls ∧ linkedAll (portsL ds) ls ds.length = 2 * ls.length) := fun h => ⟨(netV_links h).1, (netV_links h).2.1, (netV_links h).2.2.1, linkedAll_net h⟩
  generalize netV ds ls = nv at *
  go_enter Try.func3, Try.ntmps3
  go_wp2_with fail
  refine (PX.out _ _ _ (by simp) (by simp [go_sem]) (by simp [go_sem]) (by simp [go_sem]) (by simp [go_sem])).mono ?_
  rintro e w1 ⟨rfl, hb1⟩
  have D1 : Below w.heap.size w w1 := chnN hb1 (Below.alN (Below.alN (Below.alN (Below.alN (Below.refl _ _) _) _) _) _)
  have B1 : Box2 w1 w.heap.size (.slice A ds.length cap) (.slice B ls.length cap') := Box2.below ((((box2_new w _ _ 25).alloc _).alloc _).alloc _) hb1 (by simp; omega)
  clear hb1 PX
  have D2 := Below.alN D1 (.cells #[.int .i64 0, .int .i64 0] 34)
  have B2 := B1.alloc (.cells #[.int .i64 0, .int .i64 0] 34)
  obtain ⟨_, q0, q1, _⟩ := id B2
  have P0 := fun w => place_ne 0 0 0 0 w
  go_wp2_with fail
  refine (CK.out _ D2).mono ?_
  rintro e w3 ⟨rfl, hb3⟩
  have D3 := chnN hb3 D2
  have B3 := B2.below hb3 B2.1
  clear hb3 D1 D2 B1 B2 q0 q1 CK P0
  obtain ⟨_, q0, q1, _⟩ := id B3
  by_cases hz : nv = 0
  rotate_left
  · have hz1 : (nv == 0) = false := by simpa using hz
    clear PE hz
    go_wp2_with fail
    go_ret
    exact ⟨rfl, D3⟩
  subst hz
  obtain ⟨l10, l15, hA, hT⟩ := HZ.out rfl
  have HA : Hid (Apart ls) := hA
  have HT : Hid (linkedAll (portsL ds) ls ds.length = 2 * ls.length) := hT
  clear hA hT HZ
  go_wp2_with fail
  go_loopw [6, 40] (fun c i wr => ∃ k n : Nat, i = .int .i64 (k : Int) ∧ c = .int .i64 (n : Int) ∧ k ≤ ds.length ∧ n ≤ 4 * k ∧ Below w.heap.size w wr ∧ Box2 wr w.heap.size (.slice A ds.length cap) (.slice B ls.length cap') ∧ Hid (n = linkedAll (portsL ds) ls k)) (fun _ i _ => ds.length - (intOf i).toNat)
  case atStart => exact ⟨0, 0, rfl, rfl, by omega, by omega, D3, B3, rfl⟩
  case round =>
    clear D3 B3 q0 q1
    obtain ⟨k, n, rfl, rfl, hk, hn, D1, B1, HN⟩ := hrel
    by_cases hlt : k < ds.length
    · obtain ⟨d, hxk⟩ : ∃ d, ds[k]? = some d := ⟨_, List.getElem?_eq_getElem hlt⟩
      obtain ⟨b, o, vb, vr, vt, rfl, hb, z1, z2, z3, c0, c1, c2, c3, c4, c5, c6⟩ := (hD.out.below D1).at hxk
      obtain ⟨Ab, cb, rfl, _, _, _, _⟩ := z1
      obtain ⟨Ar, cr, rfl, _, _, _, _⟩ := z2
      obtain ⟨At, ct, rfl, _, _, _, _⟩ := z3
      have PO : Hid (∀ w, Calls Try.prog 6 #[.int .i64 d.kind] w fun e w' => e = .returned (.int .i64 (portsV d.kind)) ∧ w' = w) := fun w => nports_any d.kind w
      obtain ⟨pk, hpk, hp4⟩ := portsV_nat d.kind
      have HP : Hid (linkedAll (portsL ds) ls (k + 1) = linkedAll (portsL ds) ls k + linked ls k pk) := by
        show _ = _
        rw [linkedAll_succ, portsL_at hxk, hpk]
        rfl
      rw [hpk] at PO
      have k1 : (0 : Int) ≤ (k : Int) := by omega
      have k2 : (k : Int) < (ds.length : Int) := by omega
      have lw := D1.size
      clear hxk hpk
      generalize d.backs.length = nb at *
      generalize d.rules.length = nr at *
      generalize d.routes.length = nt at *
      generalize d.name = nm at *
      generalize d.kind = kd at *
      generalize d.addr = ad at *
      generalize d.pool = pl at *
      have D2 := Below.alN D1 (.cells #[.string nm, .int .i64 kd, .int .i64 ad, .int .u8 (pl : Int), .slice Ab nb cb, .slice Ar nr cr, .slice At nt ct] 30)
      have B2 := B1.alloc (.cells #[.string nm, .int .i64 kd, .int .i64 ad, .int .u8 (pl : Int), .slice Ab nb cb, .slice Ar nr cr, .slice At nt ct] 30)
      go_wp2_with fail
      refine (PO.out _).mono ?_
      rintro e w2 ⟨rfl, rfl⟩
      clear c0 c1 c2 c3 c4 c5 c6 PO
      go_wp2_with fail
      go_loopw [6, 48] (fun c i wr => ∃ j m : Nat, i = .int .i64 (j : Int) ∧ c = .int .i64 (m : Int) ∧ j ≤ pk ∧ m ≤ 4 * k + j ∧ Below w.heap.size w wr ∧ Box2 wr w.heap.size (.slice (some ⟨b, o, none⟩) ds.length cap) (.slice B ls.length cap') ∧ Hid (m = linkedAll (portsL ds) ls k + linked ls k j)) (fun _ i _ => pk - (intOf i).toNat)
      case atStart => exact ⟨0, n, rfl, rfl, by omega, by omega, D2, B2, by show _ = _; rw [linked_zero]; exact HN.out⟩
      case round =>
        clear D1 D2 B1 B2 HN
        obtain ⟨j, m, rfl, rfl, hj, hmm, D1, B1, HN⟩ := hrel
        by_cases hjl : j < pk
        · have k3 : decide ((j : Int) < (pk : Int)) = true := by simp; omega
          have D2 := Below.alN D1 (.cells #[.int .i64 (k : Int), .int .i64 (j : Int)] 34)
          have B2 := B1.alloc (.cells #[.int .i64 (k : Int), .int .i64 (j : Int)] 34)
          have X2 := box2_new wr (.int .i64 (k : Int)) (.int .i64 (j : Int)) 34
          have HS : Hid (linked ls k (j + 1) = linked ls k j + if (peerF ls k j).isSome then 1 else 0) := linked_succ ls k j
          have PE1 : Hid (∀ W, Below w.heap.size w W → Calls Try.prog 4 #[.agg #[.slice (some ⟨b, o, none⟩) ds.length cap, .slice B ls.length cap'], plA (k : Int) (j : Int)] W fun e w' => e = .returned (.tuple #[placeV (peerF ls k j), .bool (peerF ls k j).isSome]) ∧ Below W.heap.size W w') := fun W h => PE.out W k j h
          obtain ⟨_, p0, p1, _⟩ := id B2
          obtain ⟨_, p2, p3, _⟩ := id X2
          cases hpf : peerF ls (k : Int) (j : Int)
          · rw [hpf] at HS PE1
            have HV : Hid (m = linkedAll (portsL ds) ls k + linked ls k (j + 1)) := by
              show _ = _
              rw [HS.out, HN.out]
              rfl
            clear HS HN hpf
            go_wp2_with fail
            refine (PE1.out _ D2).mono ?_
            rintro e w3 ⟨rfl, hb3⟩
            have D3 := chnN hb3 D2
            have B3 := B2.below hb3 B2.1
            have D4 := Below.alN D3 (.cells #[.int .i64 0, .int .i64 0] 34)
            have B4 := B3.alloc (.cells #[.int .i64 0, .int .i64 0] 34)
            clear hb3 PE1 PE
            go_wp2_with fail
            go_roundw
            case rel => exact ⟨j + 1, m, by go_num, rfl, by omega, by omega, D4, B4, HV⟩
            case measure => simp [intOf]; omega
          · rename_i x
            obtain ⟨tb, tq⟩ := x
            have hback := peerF_back HA.out hpf
            simp only at hback
            rw [hpf] at HS PE1
            have PE2 : Hid (∀ W, Below w.heap.size w W → Calls Try.prog 4 #[.agg #[.slice (some ⟨b, o, none⟩) ds.length cap, .slice B ls.length cap'], plA tb tq] W fun e w' => e = .returned (.tuple #[plA (k : Int) (j : Int), .bool true]) ∧ Below W.heap.size W w') := fun W h => by
              have := PE.out W tb tq h
              rw [hback] at this
              exact this
            have HV : Hid (m + 1 = linkedAll (portsL ds) ls k + linked ls k (j + 1)) := by
              show _ = _
              rw [HS.out, HN.out]
              rfl
            clear HS HN hpf hback PE
            go_wp2_with fail
            refine (PE1.out _ D2).mono ?_
            rintro e w3 ⟨rfl, hb3⟩
            have D3 := chnN hb3 D2
            have B3 := B2.below hb3 B2.1
            have X3 := X2.below hb3 X2.1
            have D4 := Below.alN D3 (.cells #[.int .i64 tb, .int .i64 tq] 34)
            have B4 := B3.alloc (.cells #[.int .i64 tb, .int .i64 tq] 34)
            have X4 := X3.alloc (.cells #[.int .i64 tb, .int .i64 tq] 34)
            clear hb3 PE1 D2 B2 X2 p0 p1 p2 p3 D3 B3 X3
            obtain ⟨_, p0, p1, _⟩ := id B4
            obtain ⟨_, p2, p3, _⟩ := id X4
            go_wp2_with fail
            refine (PE2.out _ D4).mono ?_
            rintro e w5 ⟨rfl, hb5⟩
            have D5 := chnN hb5 D4
            have B5 := B4.below hb5 B4.1
            have X5 := X4.below hb5 X4.1
            have D6 := Below.alN D5 (.cells #[.int .i64 (k : Int), .int .i64 (j : Int)] 34)
            have B6 := B5.alloc (.cells #[.int .i64 (k : Int), .int .i64 (j : Int)] 34)
            have X6 := X5.alloc (.cells #[.int .i64 (k : Int), .int .i64 (j : Int)] 34)
            clear hb5 PE2 p0 p1 p2 p3 D4 B4 X4 D5 B5 X5
            obtain ⟨_, p2, p3, _⟩ := id X6
            have NE : ∀ w, (binOp .neq 34 (plA (k : Int) (j : Int)) (plA (k : Int) (j : Int))).run Try.prog w = .ok (.bool false) w := fun w => by rw [place_ne]; simp
            go_wp2_with fail
            go_roundw
            case rel => exact ⟨j + 1, m + 1, by go_num, by go_num, by omega, by omega, D6, B6, HV⟩
            case measure => simp [intOf]; omega
        · have k3 : decide ((j : Int) < (pk : Int)) = false := by simp; omega
          have HV : Hid (m = linkedAll (portsL ds) ls (k + 1)) := by
            show _ = _
            rw [HP.out, HN.out, show j = pk by omega]
          clear HN HP
          go_wp2_with fail
          go_roundw
          case rel => exact ⟨k + 1, m, by go_num, rfl, by omega, by omega, D1, B1, HV⟩
          case measure => simp [intOf]; omega
    · have HV : Hid (n = 2 * ls.length) := by
        show _ = _
        rw [HN.out, show k = ds.length by omega]
        exact HT.out
      have hv : (IntKind.i64.wrap (2 * (ls.length : Int))) = (n : Int) := by
        rw [IntKind.wrap_i64] <;> rw [HV.out] <;> omega
      clear HN HT
      obtain ⟨_, q0, q1, _⟩ := id B1
      have hw2 : Hid ((n : Int) = 2 * (ls.length : Int)) := by show _ = _; rw [HV.out]; omega
      go_wp2_with fail
      go_ret
      exact ⟨by simp [hw2.out], D1⟩
end Go.Proofs.Ythofdiacncgbkaa
