/-
  XAB.
-/
import Derived.Test.YtlmmeppifkigeaaGreatXAA
import Derived.Lib.Bytealg
set_option maxHeartbeats 8000000
set_option maxRecDepth 100000
namespace Go.Proofs.YtlmmeppifkigeaaGreat
open Go.RowKit
theorem place_eq (a b c d : Int) (w : World) : (binOp .eql 43 (plA a b) (plA c d)).run Tryz.prog w = .ok (.bool ((a == c) && (b == d))) w := by
 cases h1 : (a == c) <;> cases h2 : (b == d)
 all_goals simp [go_sem, Tryz.underlying43, Tryz.underlying3, h1, h2]
theorem Box2.drew {w : World} {n : Nat} {x y : Value} (h : Box2 w n x y) : Box2 w.drew n x y := h
def Lk4 (w : World) (n : Nat) (a b c d : Value) : Prop := n < w.heap.size ∧ w.cell? ⟨n, 0, none⟩ = some a ∧ w.cell? ⟨n, 1, none⟩ = some b ∧ w.cell? ⟨n, 2, none⟩ = some c ∧ w.cell? ⟨n, 3, none⟩ = some d
theorem lk4_new (w : World) (a b c d : Value) (t : TypeId) : Lk4 (w.alloc (.cells #[a, b, c, d] t)) w.heap.size a b c d := ⟨by simp, by simp [go_sem], by simp [go_sem], by simp [go_sem], by simp [go_sem]⟩
theorem Lk4.below {B : Nat} {W w' : World} {n : Nat} {a b c d : Value} (h : Lk4 W n a b c d) (hb : Below B W w') (hB : n < B) : Lk4 w' n a b c d := by
 obtain ⟨h0, h1, h2, h3, h4⟩ := h
 exact ⟨Nat.lt_of_lt_of_le h0 hb.size, (hb.cell (p := ⟨n, 0, none⟩) hB).trans h1, (hb.cell (p := ⟨n, 1, none⟩) hB).trans h2, (hb.cell (p := ⟨n, 2, none⟩) hB).trans h3, (hb.cell (p := ⟨n, 3, none⟩) hB).trans h4⟩
theorem Lk4.alloc {w : World} {n : Nat} {a b c d : Value} (h : Lk4 w n a b c d) (o : Obj) : Lk4 (w.alloc o) n a b c d := h.below ((Below.refl _ _).alloc (Nat.le_refl _) o) h.1
theorem Lk4.drew {w : World} {n : Nat} {a b c d : Value} (h : Lk4 w n a b c d) : Lk4 w.drew n a b c d := h
theorem peer_any (vd : Value) (A : Option Addr) (n cap : Nat) (ls : List Lk) (d p : Int) (w : World) (hL : Hid (Links w.heap.size w (.slice A n cap) ls)) :
  Calls Tryz.prog 51 #[.agg #[vd, .slice A n cap], plA d p] w fun e w' => e = .returned (.tuple #[placeV (peerF ls d p), .bool (peerF ls d p).isSome]) ∧ Below w.heap.size w w' := by
 obtain ⟨rfl, hc, hm⟩ := hL.out.len
 unfold maxLen at hm
 have D1 := Below.alN (Below.refl w.heap.size w) (.cells #[vd, .slice A ls.length cap] 25)
 have D2 := Below.alN D1 (.cells #[.int .i64 d, .int .i64 p] 43)
 have D3 := Below.alN D2 (.cells #[.int .i64 0, .int .i64 0] 43)
 have B1 := ((box2_new w vd (.slice A ls.length cap) 25).alloc (.cells #[.int .i64 d, .int .i64 p] 43)).alloc (.cells #[.int .i64 0, .int .i64 0] 43)
 have B2 := (box2_new (w.alloc (.cells #[vd, .slice A ls.length cap] 25)) (.int .i64 d) (.int .i64 p) 43).alloc (.cells #[.int .i64 0, .int .i64 0] 43)
 have B3 := box2_new ((w.alloc (.cells #[vd, .slice A ls.length cap] 25)).alloc (.cells #[.int .i64 d, .int .i64 p] 43)) (.int .i64 0) (.int .i64 0) 43
 simp only [World.size_alloc] at B2 B3
 go_enter Tryz.func51, Tryz.ntmps51
 go_wp2_with fail
 go_loopw [11] (fun i wr => ∃ k : Nat, i = .int .i64 (k : Int) ∧ k <= ls.length ∧ Below w.heap.size w wr ∧ Box2 wr w.heap.size vd (.slice A ls.length cap) ∧ Box2 wr (w.heap.size + 1) (.int .i64 d) (.int .i64 p) ∧ Box2 wr (w.heap.size + 1 + 1) (.int .i64 0) (.int .i64 0) ∧ Hid (peerF ls d p = peerF (ls.drop k) d p)) (fun i _ => ls.length - (intOf i).toNat)
 case atStart => exact ⟨0, rfl, by omega, D3, B1, B2, B3, rfl⟩
 case round =>
  clear B1 B2 B3 D1 D2 D3
  obtain ⟨k, rfl, hk, D1, B1, B2, B3, hl⟩ := hrel
  obtain ⟨n1, e0, e1, _⟩ := id B1
  by_cases hlt : k < ls.length
  ·obtain ⟨l, hlk⟩ : ∃ l, ls[k]? = some l := ⟨_, List.getElem?_eq_getElem hlt⟩
   obtain ⟨b, o, rfl, hb, c0, c1, c2, c3⟩ := (hL.out.below D1).at hlk
   have Hd : Hid (peerF (ls.drop k) d p = (endOf l d p).or (peerF (ls.drop (k + 1)) d p)) := peerF_drop hlk d p
   have D2 := Below.alN D1 (.cells #[.int .i64 l.a, .int .i64 l.p, .int .i64 l.b, .int .i64 l.q] 64)
   have E1 := B1.alloc (.cells #[.int .i64 l.a, .int .i64 l.p, .int .i64 l.b, .int .i64 l.q] 64)
   have E2 := B2.alloc (.cells #[.int .i64 l.a, .int .i64 l.p, .int .i64 l.b, .int .i64 l.q] 64)
   have E3 := B3.alloc (.cells #[.int .i64 l.a, .int .i64 l.p, .int .i64 l.b, .int .i64 l.q] 64)
   have k1 : (0 : Int) <= (k : Int) := by omega
   have k2 : (k : Int) < (ls.length : Int) := by omega
   have lw := D1.size
   have FR : Hid (∀ w, Calls Tryz.prog 81 #[lkA l.a l.p l.b l.q] w fun e w' => e = .returned (plA l.a l.p) ∧ Below w.heap.size w w') := fun w => from_any _ _ _ _ w
   have TO : Hid (∀ w, Calls Tryz.prog 82 #[lkA l.a l.p l.b l.q] w fun e w' => e = .returned (plA l.b l.q) ∧ Below w.heap.size w w') := fun w => to_any _ _ _ _ w
   unfold endOf at Hd
   clear hlk hL
   generalize l.a = la at *
   generalize l.p = lp at *
   generalize l.b = lb at *
   generalize l.q = lq at *
   have L0 := lk4_new wr (.int .i64 la) (.int .i64 lp) (.int .i64 lb) (.int .i64 lq) 64
   obtain ⟨n2, f0, f1, f2, f3⟩ := id E2
   have P1 := fun w => place_eq la lp d p w
   have P2 := fun w => place_eq lb lq d p w
   generalize ((la == d) && (lp == p)) = x0 at *
   generalize ((lb == d) && (lq == p)) = x1 at *
   go_wp2_with fail
   go_region_held3 (fun w' => w'.cell? ⟨wr.heap.size, 0, none⟩ = some (.int .i64 la) ∧ w'.cell? ⟨wr.heap.size, 1, none⟩ = some (.int .i64 lp) ∧ w'.cell? ⟨wr.heap.size, 2, none⟩ = some (.int .i64 lb) ∧ w'.cell? ⟨wr.heap.size, 3, none⟩ = some (.int .i64 lq) ∧ w'.cell? ⟨w.heap.size + 1, 0, none⟩ = some (.int .i64 d) ∧ w'.cell? ⟨w.heap.size + 1, 1, none⟩ = some (.int .i64 p)) (go_keep) ((go_at_call 81; refine (FR.out _).mono ?_; rintro e w2 ⟨rfl, hb2⟩; have D3 := chnN hb2 D2.drew; have G1 := E1.drew.below hb2 E1.1; have G2 := E2.drew.below hb2 E2.1; have G3 := E3.drew.below hb2 E3.1; have G4 := L0.drew.below hb2 L0.1; obtain ⟨_, g0, g1, _⟩ := id G2; obtain ⟨_, g2, g3, g4, g5⟩ := id G4))
   clear E1 E2 E3 L0 f0 f1 f2 f3 c0 c1 c2 c3 e0 e1
   cases x0
   ·go_wp2_with fail
    go_region_held3 (fun w' => w'.cell? ⟨wr.heap.size, 0, none⟩ = some (.int .i64 la) ∧ w'.cell? ⟨wr.heap.size, 1, none⟩ = some (.int .i64 lp) ∧ w'.cell? ⟨wr.heap.size, 2, none⟩ = some (.int .i64 lb) ∧ w'.cell? ⟨wr.heap.size, 3, none⟩ = some (.int .i64 lq) ∧ w'.cell? ⟨w.heap.size + 1, 0, none⟩ = some (.int .i64 d) ∧ w'.cell? ⟨w.heap.size + 1, 1, none⟩ = some (.int .i64 p)) (go_keep) ((go_at_call 82; refine (TO.out _).mono ?_; rintro e w3 ⟨rfl, hb3⟩; have D4 := chnN hb3 D3.drew; have J1 := G1.drew.below hb3 G1.1; have J2 := G2.drew.below hb3 G2.1; have J3 := G3.drew.below hb3 G3.1; have J4 := G4.drew.below hb3 G4.1; obtain ⟨_, j0, j1, _⟩ := id J2; obtain ⟨_, j2, j3, j4, j5⟩ := id J4))
    clear g0 g1 g2 g3 g4 g5 G1 G2 G3 G4
    cases x1
    ·have Hn : Hid (peerF ls d p = peerF (ls.drop (k + 1)) d p) := by show _ = _; rw [hl.out, Hd.out]; rfl
     go_wp2_with fail
     go_roundw
     case rel => exact ⟨k + 1, by go_num, by omega, D4, J1, J2, J3, Hn⟩
     case measure => simp [intOf]; omega
    ·have Hn : Hid (peerF ls d p = some (la, lp)) := by show _ = _; rw [hl.out, Hd.out]; rfl
     clear hl Hd
     go_wp2_with fail
     refine (FR.out _).mono ?_
     rintro e w4 ⟨rfl, hb4⟩
     have D5 := chnN hb4 D4
     have K3 := J3.below hb4 J3.1
     obtain ⟨n3, g0, g1, g2, g3⟩ := id K3
     clear J1 J2 J3 J4 hb4
     go_wp2_with fail
     refine bodyPost_ret (v := .tuple #[.agg #[.int .i64 la, .int .i64 lp], .bool true]) (by simp [results, Tryz.results51, go_sem, g0, g1]) rfl ⟨by rw [Hn.out]; rfl, ?_⟩
     exact (D5.setCell (by simp; omega) _).setCell (by simp; omega) _
   ·have Hn : Hid (peerF ls d p = some (lb, lq)) := by show _ = _; rw [hl.out, Hd.out]; rfl
    clear hl Hd
    go_wp2_with fail
    refine (TO.out _).mono ?_
    rintro e w4 ⟨rfl, hb4⟩
    have D5 := chnN hb4 D3
    have K3 := G3.below hb4 G3.1
    clear g0 g1 g2 g3 g4 g5 G1 G2 G3 G4 hb4
    obtain ⟨n3, g0, g1, g2, g3⟩ := id K3
    go_wp2_with fail
    refine bodyPost_ret (v := .tuple #[.agg #[.int .i64 lb, .int .i64 lq], .bool true]) (by simp [results, Tryz.results51, go_sem, g0, g1]) rfl ⟨by rw [Hn.out]; rfl, ?_⟩
    exact (D5.setCell (by simp; omega) _).setCell (by simp; omega) _
  ·have Hn : Hid (peerF ls d p = none) := by show _ = _; rw [hl.out, List.drop_eq_nil_of_le (by omega)]; rfl
   obtain ⟨n3, g0, g1, g2, g3⟩ := id B3
   go_wp2_with fail
   refine bodyPost_ret (v := .tuple #[.agg #[.int .i64 0, .int .i64 0], .bool false]) (by simp [results, Tryz.results51, go_sem, g0, g1]) rfl ⟨by rw [Hn.out]; rfl, ?_⟩
   exact (D1.setCell (by simp; omega) _).setCell (by simp; omega) _
theorem all_dropN (s : ByteArray) (k : Nat) (h : k < s.size) : (s.data.toList.drop k).all nameB = (nameB s[k] && (s.data.toList.drop (k + 1)).all nameB) := by
 rw [List.drop_eq_getElem_cons (by rw [<- Lib.size_eq]; exact h), List.all_cons]
 rfl
theorem isName_loop (s : ByteArray) (w : World) (h1 : 1 <= s.size) (h8 : s.size <= 8) (res : Bool) (hres : Hid (s.data.toList.all nameB = res)) :
  Calls Tryz.prog 72 #[.string s] w fun e w' => e = .returned (.bool res) ∧ w' = w := by
 have t1 : decide ((s.size : Int) < 1) = false := by simp; omega
 have t8 : decide ((8 : Int) < (s.size : Int)) = false := by simp; omega
 go_enter Tryz.func72, Tryz.ntmps72
 go_wp2_with fail
 go_loop [16] (fun i => ∃ k : Nat, k <= s.size ∧ i = .int .i64 k ∧ Hid ((s.data.toList.drop k).all nameB = res)) (fun i => s.size - (intOf i).toNat)
 case atStart => exact ⟨0, by omega, rfl, hres⟩
 case round =>
  obtain ⟨k, hk, rfl, HD⟩ := hrel
  by_cases hlt : k < s.size
  ·have HS : Hid ((s.data.toList.drop k).all nameB = (nameB s[k] && (s.data.toList.drop (k + 1)).all nameB)) := all_dropN s k hlt
   have HN : Hid (nameB s[k] = ((decide (97 <= (s[k].toNat : Int)) && decide ((s[k].toNat : Int) <= 122)) || (decide (48 <= (s[k].toNat : Int)) && decide ((s[k].toNat : Int) <= 57)))) := rfl
   cases a1 : decide (97 <= (s[k].toNat : Int)) <;> cases a2 : decide ((s[k].toNat : Int) <= 122) <;> cases a3 : decide (48 <= (s[k].toNat : Int)) <;> cases a4 : decide ((s[k].toNat : Int) <= 57)
   all_goals
    rw [a1, a2, a3, a4] at HN
    first
     | (have HV : Hid ((s.data.toList.drop (k + 1)).all nameB = res) := by
         show _ = _
         rw [<- HD.out, HS.out, HN.out]
         rfl
        clear HN HS HD
        go_wp2_with fail
        go_round
        case rel => exact ⟨k + 1, by omega, congrArg (Value.int .i64) (by omega), HV⟩
        case measure => simp [intOf]; omega)
     | (have HV : Hid (res = false) := by
         show _ = _
         rw [<- HD.out, HS.out, HN.out]
         rfl
        clear HN HS HD
        go_wp2_with fail
        go_ret
        exact ⟨by rw [HV.out]; rfl, rfl⟩)
  ·have HV : Hid (res = true) := by
    show _ = _
    rw [<- HD.out, List.drop_eq_nil_of_le (by rw [<- Lib.size_eq]; omega)]
    rfl
   go_wp2_with fail
   go_ret
   exact ⟨by rw [HV.out]; rfl, rfl⟩
theorem isName_any (s : ByteArray) (w : World) : Calls Tryz.prog 72 #[.string s] w fun e w' => e = .returned (.bool (nameOk s)) ∧ w' = w := by
 unfold nameOk
 by_cases h1 : 1 <= s.size
 ·by_cases h8 : s.size <= 8
  ·simp only [h1, h8, decide_true, Bool.true_and]
   exact isName_loop s w h1 h8 _ rfl
  ·simp only [h1, h8, decide_true, decide_false, Bool.and_false, Bool.false_and]
   have t1 : decide ((s.size : Int) < 1) = false := by simp; omega
   have t8 : decide ((8 : Int) < (s.size : Int)) = true := by simp; omega
   go_enter Tryz.func72, Tryz.ntmps72
   go_wp2_with fail
   go_ret
   exact ⟨rfl, rfl⟩
 ·simp only [h1, decide_false, Bool.false_and]
  have t1 : decide ((s.size : Int) < 1) = true := by simp; omega
  go_enter Tryz.func72, Tryz.ntmps72
  go_wp2_with fail
  go_ret
  exact ⟨rfl, rfl⟩
def findFrom (ds : List Dv) (s : List UInt8) (k : Nat) : Int :=
 if h : k < ds.length then (if ds[k].name.toList == s then (k : Int) else findFrom ds s (k + 1)) else -1
termination_by ds.length - k
theorem findFrom_at {ds : List Dv} {s : List UInt8} {k : Nat} {d : Dv} (h : ds[k]? = some d) : findFrom ds s k = if d.name.toList == s then (k : Int) else findFrom ds s (k + 1) := by
 obtain ⟨hk, e⟩ := List.getElem?_eq_some_iff.1 h
 rw [findFrom, dif_pos hk, e]
theorem findFrom_end {ds : List Dv} {s : List UInt8} {k : Nat} (h : ds.length <= k) : findFrom ds s k = -1 := by rw [findFrom, dif_neg (by omega)]
theorem findFrom_any (ds : List Dv) (s : List UInt8) : ∀ (m k : Nat), ds.length - k <= m -> decide (0 <= findFrom ds s k) = (ds.drop k).any (fun x => x.name.toList == s)
 | 0, k, h => by rw [findFrom_end (by omega), List.drop_eq_nil_of_le (by omega)]; rfl
 | m + 1, k, h => by
   by_cases hk : k < ds.length
   ·rw [findFrom_at (List.getElem?_eq_getElem hk), List.drop_eq_getElem_cons hk, List.any_cons, <- findFrom_any ds s m (k + 1) (by omega)]
    cases e : (ds[k].name.toList == s)
    ·simp
    ·simp
   ·rw [findFrom_end (by omega), List.drop_eq_nil_of_le (by omega)]; rfl
theorem findFrom_some (ds : List Dv) (s : List UInt8) : decide (0 <= findFrom ds s 0) = ds.any (fun x => x.name.toList == s) := findFrom_any ds s ds.length 0 (by omega)
theorem Devs.at {base : Nat} {w : World} {A : Option Addr} {n cap : Nat} {ds : List Dv} (h : Devs base w (.slice A n cap) ds) {k : Nat} {d : Dv} (hk : ds[k]? = some d) :
  ∃ b o vb vr vt, A = some ⟨b, o, none⟩ ∧ b < base ∧ SlAt base w 1 IsI vb d.backs ∧ SlAt base w 5 IsRule vr d.rules ∧ SlAt base w 3 IsRoute vt d.routes ∧
    w.cell? ⟨b, o + k * 7, none⟩ = some (.string d.name) ∧ w.cell? ⟨b, o + k * 7 + 1, none⟩ = some (.int .i64 d.kind) ∧ w.cell? ⟨b, o + k * 7 + 2, none⟩ = some (.int .i64 d.addr) ∧ w.cell? ⟨b, o + k * 7 + 3, none⟩ = some (.int .u8 (d.pool : Int)) ∧ w.cell? ⟨b, o + k * 7 + 4, none⟩ = some vb ∧ w.cell? ⟨b, o + k * 7 + 5, none⟩ = some vr ∧ w.cell? ⟨b, o + k * 7 + 6, none⟩ = some vt := by
 obtain ⟨A', cap', e, _, _, _, h3⟩ := h
 cases e
 obtain ⟨b, o, ea, hl, hr⟩ := h3 (fun e => by subst e; simp at hk)
 obtain ⟨cs, _, ⟨vb, vr, vt, rfl, s1, s2, s3⟩, hc⟩ := hr k d hk
 exact ⟨b, o, vb, vr, vt, ea, hl, s1, s2, s3, hc 0 _ rfl, hc 1 _ rfl, hc 2 _ rfl, hc 3 _ rfl, hc 4 _ rfl, hc 5 _ rfl, hc 6 _ rfl⟩
theorem Devs.len {base : Nat} {w : World} {A : Option Addr} {n cap : Nat} {ds : List Dv} (h : Devs base w (.slice A n cap) ds) : n = ds.length ∧ n <= cap ∧ cap <= maxLen := by
 obtain ⟨A', cap', e, _, h1, h2, _⟩ := h
 cases e
 exact ⟨rfl, h1, h2⟩
theorem SlAt.take {α : Type} {base : Nat} {w : World} {n : Nat} {R : List Value -> α -> Prop} {A : Option Addr} {m cap : Nat} {xs : List α} (h : SlAt base w n R (.slice A m cap) xs) (k : Nat) (hk : k <= xs.length) : SlAt base w n R (.slice A k cap) (xs.take k) := by
 obtain ⟨A', cap', e, h0, h1, h2, h3⟩ := h
 cases e
 refine ⟨A, cap, by rw [List.length_take, Nat.min_eq_left hk], h0, by rw [List.length_take]; omega, h2, fun hn => ?_⟩
 obtain ⟨b, o, ea, hl, hr⟩ := h3 (fun e => hn (by rw [e, List.take_nil]))
 refine ⟨b, o, ea, hl, fun j x hx => hr j x ?_⟩
 rw [List.getElem?_take] at hx
 split at hx
 ·exact hx
 ·cases hx
theorem find1_any (nm s : ByteArray) (k ad : Int) (pl : Nat) (vb vr vt : Value) (n0 : Nat) (w : World) (hn : n0 < w.heap.size) (hc : w.cell? ⟨n0, 0, none⟩ = some (.string s)) :
  Calls Tryz.prog 104 #[devA nm k ad pl vb vr vt, .pointer (some ⟨n0, 0, none⟩)] w fun e w' => e = .returned (.bool (nm.toList == s.toList)) ∧ Below w.heap.size w w' := by
 have D0 := Below.alN (Below.refl w.heap.size w) (.cells #[.string nm, .int .i64 k, .int .i64 ad, .int .u8 (pl : Int), vb, vr, vt] 62)
 have c1 : (w.alloc (.cells #[.string nm, .int .i64 k, .int .i64 ad, .int .u8 (pl : Int), vb, vr, vt] 62)).cell? ⟨n0, 0, none⟩ = some (.string s) := (D0.cell (p := ⟨n0, 0, none⟩) hn).trans hc
 go_enter Tryz.func104, Tryz.ntmps104
 go_wp2_with fail
 go_ret
 exact ⟨rfl, D0⟩
theorem findIdx_any (A : Option Addr) (n cap : Nat) (ds : List Dv) (s : ByteArray) (n0 : Nat) (w : World) (hD : Hid (Devs w.heap.size w (.slice A n cap) ds)) (hn0 : n0 < w.heap.size) (hc0 : Hid (w.cell? ⟨n0, 0, none⟩ = some (.string s))) :
  Calls Tryz.prog 103 #[.slice A n cap, .func (.func 104) #[] #[.pointer (some ⟨n0, 0, none⟩)]] w fun e w' => e = .returned (.int .i64 (findFrom ds s.toList 0)) ∧ Below w.heap.size w w' := by
 obtain ⟨rfl, hc, hm⟩ := hD.out.len
 unfold maxLen at hm
 generalize hres : findFrom ds s.toList 0 = res
 have HR : Hid (findFrom ds s.toList 0 = res) := hres
 clear hres
 go_enter Tryz.func103, Tryz.ntmps103
 go_wp2_with fail
 go_loopw [8] (fun i wr => ∃ k : Nat, i = .int .i64 (k : Int) ∧ k <= ds.length ∧ Below w.heap.size w wr ∧ Hid (findFrom ds s.toList k = res)) (fun i _ => ds.length - (intOf i).toNat)
 case atStart => exact ⟨0, rfl, by omega, Below.refl _ _, HR⟩
 case round =>
  obtain ⟨k, rfl, hk, D1, hno⟩ := hrel
  by_cases hlt : k < ds.length
  ·obtain ⟨d, hxk⟩ : ∃ d, ds[k]? = some d := ⟨_, List.getElem?_eq_getElem hlt⟩
   obtain ⟨b, o, vb, vr, vt, rfl, hb, _, _, _, c0, c1, c2, c3, c4, c5, c6⟩ := (hD.out.below D1).at hxk
   have PR : Hid (Calls Tryz.prog 104 #[devA d.name d.kind d.addr d.pool vb vr vt, .pointer (some ⟨n0, 0, none⟩)] wr fun e w' => e = .returned (.bool (d.name.toList == s.toList)) ∧ Below wr.heap.size wr w') := find1_any d.name s d.kind d.addr d.pool vb vr vt n0 wr (Nat.lt_of_lt_of_le hn0 D1.size) ((D1.cell (p := ⟨n0, 0, none⟩) hn0).trans hc0.out)
   have HF : Hid (findFrom ds s.toList k = if d.name.toList == s.toList then (k : Int) else findFrom ds s.toList (k + 1)) := findFrom_at hxk
   have k1 : (0 : Int) <= (k : Int) := by omega
   have k2 : (k : Int) < (ds.length : Int) := by omega
   clear hxk hD HR hc0
   generalize (d.name.toList == s.toList) = x at *
   generalize d.name = nm at *
   generalize d.kind = kd at *
   generalize d.addr = ad at *
   generalize d.pool = pl at *
   cases x
   ·have HV : Hid (findFrom ds s.toList (k + 1) = res) := by
     show _ = _
     rw [<- hno.out, HF.out]
     simp
    clear HF hno
    go_wp2_with fail
    refine PR.out.mono ?_
    rintro e w2 ⟨rfl, hb2⟩
    have D2 := chnN hb2 D1
    clear hb2 D1 c0 c1 c2 c3 c4 c5 c6 PR
    go_wp2_with fail
    go_roundw
    case rel => exact ⟨k + 1, by go_num, by omega, D2, HV⟩
    case measure => simp [intOf]; omega
   ·have HV : Hid (res = (k : Int)) := by
     show _ = _
     rw [<- hno.out, HF.out]
     simp
    clear HF hno
    go_wp2_with fail
    refine PR.out.mono ?_
    rintro e w2 ⟨rfl, hb2⟩
    have D2 := chnN hb2 D1
    clear hb2 D1 c0 c1 c2 c3 c4 c5 c6 PR
    go_wp2_with fail
    go_ret
    exact ⟨by rw [HV.out]; rfl, D2⟩
  ·have HV : Hid (res = -1) := by
    show _ = _
    rw [<- hno.out, findFrom_end (by omega)]
   go_wp2_with fail
   go_ret
   exact ⟨by rw [HV.out]; rfl, D1⟩
theorem find_any (A : Option Addr) (n cap : Nat) (ds : List Dv) (s : ByteArray) (w : World) (hD : Devs w.heap.size w (.slice A n cap) ds) :
  Calls Tryz.prog 73 #[.slice A n cap, .string s] w fun e w' => e = .returned (.tuple #[.int .i64 (if 0 <= findFrom ds s.toList 0 then findFrom ds s.toList 0 else 0), .bool (decide (0 <= findFrom ds s.toList 0))]) ∧ Below w.heap.size w w' := by
 have D0 := Below.alN (Below.refl w.heap.size w) (.cells #[.string s] 9)
 have FI : Hid (Calls Tryz.prog 103 #[.slice A n cap, .func (.func 104) #[] #[.pointer (some ⟨w.heap.size, 0, none⟩)]] (w.alloc (.cells #[.string s] 9)) fun e w' => e = .returned (.int .i64 (findFrom ds s.toList 0)) ∧ Below (w.alloc (.cells #[.string s] 9)).heap.size (w.alloc (.cells #[.string s] 9)) w') := findIdx_any A n cap ds s w.heap.size _ ((hD.below D0).mono D0.size) (by simp) (by show _ = _; simp [go_sem])
 clear hD
 generalize findFrom ds s.toList 0 = j at *
 cases h : decide (0 <= j)
 ·have h1 : ¬ 0 <= j := by simpa using h
  have h2 : j < 0 := by omega
  rw [if_neg h1]
  go_enter Tryz.func73, Tryz.ntmps73
  go_wp2_with fail
  refine FI.out.mono ?_
  rintro e w1 ⟨rfl, hb1⟩
  have D1 := chnN hb1 D0
  go_wp2_with fail
  go_ret2
  exact ⟨by simp, D1⟩
 ·have h1 : 0 <= j := by simpa using h
  rw [if_pos h1]
  go_enter Tryz.func73, Tryz.ntmps73
  go_wp2_with fail
  refine FI.out.mono ?_
  rintro e w1 ⟨rfl, hb1⟩
  have D1 := chnN hb1 D0
  go_wp2_with fail
  go_ret2
  exact ⟨by simp, D1⟩
end Go.Proofs.YtlmmeppifkigeaaGreat
