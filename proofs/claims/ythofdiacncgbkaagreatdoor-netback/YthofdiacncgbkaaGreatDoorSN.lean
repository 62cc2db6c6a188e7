/-
  The document's answer SameNet, of two nets that are the same.
-/
import Derived.Test.YthofdiacncgbkaaGreatDoorPW5
namespace Go.Proofs.YthofdiacncgbkaaGreatDoor
open Go.RowKit

theorem SlAt.slice {α : Type} {base : Nat} {w : World} {n : Nat} {R : List Value → α → Prop} {v : Value} {xs : List α} (h : SlAt base w n R v xs) : ∃ A cap, v = .slice A xs.length cap ∧ xs.length ≤ cap ∧ cap ≤ maxLen := by
  obtain ⟨A, cap, e, _, h1, h2, _⟩ := h
  exact ⟨A, cap, e, h1, h2⟩
theorem link_ne (a b c d : Int) (w : World) : (binOp .neq 52 (.agg #[.int .i64 a, .int .i64 b, .int .i64 c, .int .i64 d]) (.agg #[.int .i64 a, .int .i64 b, .int .i64 c, .int .i64 d])).run Tryz.prog w = .ok (.bool false) w := by
  simp [go_sem, Tryz.underlying52, Tryz.underlying3]
theorem route_ne (a b c : Int) (w : World) : (binOp .neq 63 (.agg #[.int .i64 a, .int .i64 b, .int .i64 c]) (.agg #[.int .i64 a, .int .i64 b, .int .i64 c])).run Tryz.prog w = .ok (.bool false) w := by
  simp [go_sem, Tryz.underlying63, Tryz.underlying3]
theorem rule_ne (ok : Bool) (a b c d : Int) (w : World) : (binOp .neq 60 (.agg #[.bool ok, .int .u16 a, .int .u16 b, .int .u8 c, .int .u8 d]) (.agg #[.bool ok, .int .u16 a, .int .u16 b, .int .u8 c, .int .u8 d])).run Tryz.prog w = .ok (.bool false) w := by
  simp [go_sem, Tryz.underlying60, Tryz.underlying58, Tryz.underlying4, Tryz.underlying56, Tryz.underlying5]
set_option maxHeartbeats 4000000 in
set_option maxRecDepth 100000 in
theorem ints_row (A1 A2 : Option Addr) (c1 c2 : Nat) (xs : List Int) (w : World) (h1 : Hid (SlAt w.heap.size w 1 IsI (.slice A1 xs.length c1) xs)) (h2 : Hid (SlAt w.heap.size w 1 IsI (.slice A2 xs.length c2) xs)) (hm : c1 ≤ 9223372036854775807) (hc : xs.length ≤ c1) :
    Calls Tryz.prog 19 #[.slice A1 xs.length c1, .slice A2 xs.length c2] w fun e w' => e = .returned (.bool true) ∧ Below w.heap.size w w' := by
  go_enter Tryz.func19, Tryz.ntmps19
  go_wp2_with fail
  go_loopw [13] (fun i wr => ∃ k : Nat, i = .int .i64 (k : Int) ∧ k ≤ xs.length ∧ Below w.heap.size w wr) (fun i _ => xs.length - (intOf i).toNat)
  case atStart => exact ⟨0, rfl, by omega, Below.refl _ _⟩
  case round =>
    obtain ⟨k, rfl, hk, D1⟩ := hrel
    by_cases hlt : k < xs.length
    · obtain ⟨x, hxk⟩ : ∃ x, xs[k]? = some x := ⟨_, List.getElem?_eq_getElem hlt⟩
      obtain ⟨b1, o1, rfl, _, p0⟩ := Ints.at (SlAt.below h1.out D1 (fun _ _ _ h => h)) hxk
      obtain ⟨b2, o2, rfl, _, q0⟩ := Ints.at (SlAt.below h2.out D1 (fun _ _ _ h => h)) hxk
      have k1 : (0 : Int) ≤ (k : Int) := by omega
      have k2 : (k : Int) < (xs.length : Int) := by omega
      have D2 := D1.drew
      have p0' : wr.drew.cell? ⟨b1, o1 + k, none⟩ = some (.int .i64 x) := p0 k x hxk
      have q0' : wr.drew.cell? ⟨b2, o2 + k, none⟩ = some (.int .i64 x) := q0 k x hxk
      clear p0 q0
      clear hxk h1 h2
      go_wp2_with fail
      go_region_held3 (fun w' => w'.cell? ⟨b1, o1 + k, none⟩ = some (.int .i64 x) ∧ w'.cell? ⟨b2, o2 + k, none⟩ = some (.int .i64 x)) (exact ⟨by assumption, by assumption⟩) (first | fail)
      go_wp2_with fail
      go_roundw
      case rel => exact ⟨k + 1, by go_num, by omega, D2⟩
      case measure => simp [intOf]; omega
    · go_wp2_with fail
      go_ret
      exact ⟨rfl, D1⟩
theorem ints_same {v1 v2 : Value} {xs : List Int} (w : World) (h1 : SlAt w.heap.size w 1 IsI v1 xs) (h2 : SlAt w.heap.size w 1 IsI v2 xs) :
    Calls Tryz.prog 19 #[v1, v2] w fun e w' => e = .returned (.bool true) ∧ Below w.heap.size w w' := by
  obtain ⟨A1, c1, rfl, l1, m1⟩ := SlAt.slice h1
  obtain ⟨A2, c2, rfl, _, _⟩ := SlAt.slice h2
  unfold maxLen at m1
  exact ints_row A1 A2 c1 c2 xs w h1 h2 (by omega) l1
set_option maxHeartbeats 4000000 in
set_option maxRecDepth 100000 in
theorem lnks_row (A1 A2 : Option Addr) (c1 c2 : Nat) (xs : List Lk) (w : World) (h1 : Hid (Links w.heap.size w (.slice A1 xs.length c1) xs)) (h2 : Hid (Links w.heap.size w (.slice A2 xs.length c2) xs)) (hm : c1 ≤ 9223372036854775807) (hc : xs.length ≤ c1) :
    Calls Tryz.prog 16 #[.slice A1 xs.length c1, .slice A2 xs.length c2] w fun e w' => e = .returned (.bool true) ∧ Below w.heap.size w w' := by
  go_enter Tryz.func16, Tryz.ntmps16
  go_wp2_with fail
  go_loopw [13] (fun i wr => ∃ k : Nat, i = .int .i64 (k : Int) ∧ k ≤ xs.length ∧ Below w.heap.size w wr) (fun i _ => xs.length - (intOf i).toNat)
  case atStart => exact ⟨0, rfl, by omega, Below.refl _ _⟩
  case round =>
    obtain ⟨k, rfl, hk, D1⟩ := hrel
    by_cases hlt : k < xs.length
    · obtain ⟨x, hxk⟩ : ∃ x, xs[k]? = some x := ⟨_, List.getElem?_eq_getElem hlt⟩
      obtain ⟨b1, o1, rfl, _, p0, p1, p2, p3⟩ := (h1.out.below D1).at hxk
      obtain ⟨b2, o2, rfl, _, q0, q1, q2, q3⟩ := (h2.out.below D1).at hxk
      have k1 : (0 : Int) ≤ (k : Int) := by omega
      have k2 : (k : Int) < (xs.length : Int) := by omega
      have D2 := D1.drew
      clear hxk h1 h2
      generalize x.a = x0 at *
      generalize x.p = x1 at *
      generalize x.b = x2 at *
      generalize x.q = x3 at *
      have NE := fun w => link_ne x0 x1 x2 x3 w
      go_wp2_with fail
      go_region_held3 (fun w' => w'.cell? ⟨b1, o1 + k * 4, none⟩ = some (.int .i64 x0) ∧ w'.cell? ⟨b1, o1 + k * 4 + 1, none⟩ = some (.int .i64 x1) ∧ w'.cell? ⟨b1, o1 + k * 4 + 2, none⟩ = some (.int .i64 x2) ∧ w'.cell? ⟨b1, o1 + k * 4 + 3, none⟩ = some (.int .i64 x3) ∧ w'.cell? ⟨b2, o2 + k * 4, none⟩ = some (.int .i64 x0) ∧ w'.cell? ⟨b2, o2 + k * 4 + 1, none⟩ = some (.int .i64 x1) ∧ w'.cell? ⟨b2, o2 + k * 4 + 2, none⟩ = some (.int .i64 x2) ∧ w'.cell? ⟨b2, o2 + k * 4 + 3, none⟩ = some (.int .i64 x3)) (exact ⟨by assumption, by assumption, by assumption, by assumption, by assumption, by assumption, by assumption, by assumption⟩) (first | fail)
      go_wp2_with fail
      go_roundw
      case rel => exact ⟨k + 1, by go_num, by omega, D2⟩
      case measure => simp [intOf]; omega
    · go_wp2_with fail
      go_ret
      exact ⟨rfl, D1⟩
theorem lnks_same {v1 v2 : Value} {xs : List Lk} (w : World) (h1 : Links w.heap.size w v1 xs) (h2 : Links w.heap.size w v2 xs) :
    Calls Tryz.prog 16 #[v1, v2] w fun e w' => e = .returned (.bool true) ∧ Below w.heap.size w w' := by
  obtain ⟨A1, c1, rfl, l1, m1⟩ := SlAt.slice h1
  obtain ⟨A2, c2, rfl, _, _⟩ := SlAt.slice h2
  unfold maxLen at m1
  exact lnks_row A1 A2 c1 c2 xs w h1 h2 (by omega) l1
set_option maxHeartbeats 4000000 in
set_option maxRecDepth 100000 in
theorem ruls_row (A1 A2 : Option Addr) (c1 c2 : Nat) (xs : List NRule) (w : World) (h1 : Hid (SlAt w.heap.size w 5 IsRule (.slice A1 xs.length c1) xs)) (h2 : Hid (SlAt w.heap.size w 5 IsRule (.slice A2 xs.length c2) xs)) (hm : c1 ≤ 9223372036854775807) (hc : xs.length ≤ c1) :
    Calls Tryz.prog 20 #[.slice A1 xs.length c1, .slice A2 xs.length c2] w fun e w' => e = .returned (.bool true) ∧ Below w.heap.size w w' := by
  go_enter Tryz.func20, Tryz.ntmps20
  go_wp2_with fail
  go_loopw [13] (fun i wr => ∃ k : Nat, i = .int .i64 (k : Int) ∧ k ≤ xs.length ∧ Below w.heap.size w wr) (fun i _ => xs.length - (intOf i).toNat)
  case atStart => exact ⟨0, rfl, by omega, Below.refl _ _⟩
  case round =>
    obtain ⟨k, rfl, hk, D1⟩ := hrel
    by_cases hlt : k < xs.length
    · obtain ⟨x, hxk⟩ : ∃ x, xs[k]? = some x := ⟨_, List.getElem?_eq_getElem hlt⟩
      obtain ⟨b1, o1, rfl, _, p0, p1, p2, p3, p4⟩ := Rules.atN (SlAt.below h1.out D1 (fun _ _ _ h => h)) hxk
      obtain ⟨b2, o2, rfl, _, q0, q1, q2, q3, q4⟩ := Rules.atN (SlAt.below h2.out D1 (fun _ _ _ h => h)) hxk
      have k1 : (0 : Int) ≤ (k : Int) := by omega
      have k2 : (k : Int) < (xs.length : Int) := by omega
      have D2 := D1.drew
      clear hxk h1 h2
      generalize x.ok = x0 at *
      generalize x.a = x1 at *
      generalize x.b = x2 at *
      generalize x.c = x3 at *
      generalize x.d = x4 at *
      have NE := fun w => rule_ne x0 x1 x2 x3 x4 w
      go_wp2_with fail
      go_region_held3 (fun w' => w'.cell? ⟨b1, o1 + k * 5, none⟩ = some (.bool x0) ∧ w'.cell? ⟨b1, o1 + k * 5 + 1, none⟩ = some (.int .u16 (x1 : Int)) ∧ w'.cell? ⟨b1, o1 + k * 5 + 2, none⟩ = some (.int .u16 (x2 : Int)) ∧ w'.cell? ⟨b1, o1 + k * 5 + 3, none⟩ = some (.int .u8 (x3 : Int)) ∧ w'.cell? ⟨b1, o1 + k * 5 + 4, none⟩ = some (.int .u8 (x4 : Int)) ∧ w'.cell? ⟨b2, o2 + k * 5, none⟩ = some (.bool x0) ∧ w'.cell? ⟨b2, o2 + k * 5 + 1, none⟩ = some (.int .u16 (x1 : Int)) ∧ w'.cell? ⟨b2, o2 + k * 5 + 2, none⟩ = some (.int .u16 (x2 : Int)) ∧ w'.cell? ⟨b2, o2 + k * 5 + 3, none⟩ = some (.int .u8 (x3 : Int)) ∧ w'.cell? ⟨b2, o2 + k * 5 + 4, none⟩ = some (.int .u8 (x4 : Int))) (exact ⟨by assumption, by assumption, by assumption, by assumption, by assumption, by assumption, by assumption, by assumption, by assumption, by assumption⟩) (first | fail)
      go_wp2_with fail
      go_roundw
      case rel => exact ⟨k + 1, by go_num, by omega, D2⟩
      case measure => simp [intOf]; omega
    · go_wp2_with fail
      go_ret
      exact ⟨rfl, D1⟩
theorem ruls_same {v1 v2 : Value} {xs : List NRule} (w : World) (h1 : SlAt w.heap.size w 5 IsRule v1 xs) (h2 : SlAt w.heap.size w 5 IsRule v2 xs) :
    Calls Tryz.prog 20 #[v1, v2] w fun e w' => e = .returned (.bool true) ∧ Below w.heap.size w w' := by
  obtain ⟨A1, c1, rfl, l1, m1⟩ := SlAt.slice h1
  obtain ⟨A2, c2, rfl, _, _⟩ := SlAt.slice h2
  unfold maxLen at m1
  exact ruls_row A1 A2 c1 c2 xs w h1 h2 (by omega) l1
set_option maxHeartbeats 4000000 in
set_option maxRecDepth 100000 in
theorem rots_row (A1 A2 : Option Addr) (c1 c2 : Nat) (xs : List NRoute) (w : World) (h1 : Hid (SlAt w.heap.size w 3 IsRoute (.slice A1 xs.length c1) xs)) (h2 : Hid (SlAt w.heap.size w 3 IsRoute (.slice A2 xs.length c2) xs)) (hm : c1 ≤ 9223372036854775807) (hc : xs.length ≤ c1) :
    Calls Tryz.prog 21 #[.slice A1 xs.length c1, .slice A2 xs.length c2] w fun e w' => e = .returned (.bool true) ∧ Below w.heap.size w w' := by
  go_enter Tryz.func21, Tryz.ntmps21
  go_wp2_with fail
  go_loopw [13] (fun i wr => ∃ k : Nat, i = .int .i64 (k : Int) ∧ k ≤ xs.length ∧ Below w.heap.size w wr) (fun i _ => xs.length - (intOf i).toNat)
  case atStart => exact ⟨0, rfl, by omega, Below.refl _ _⟩
  case round =>
    obtain ⟨k, rfl, hk, D1⟩ := hrel
    by_cases hlt : k < xs.length
    · obtain ⟨x, hxk⟩ : ∃ x, xs[k]? = some x := ⟨_, List.getElem?_eq_getElem hlt⟩
      obtain ⟨b1, o1, rfl, _, p0, p1, p2⟩ := Routes.atN (SlAt.below h1.out D1 (fun _ _ _ h => h)) hxk
      obtain ⟨b2, o2, rfl, _, q0, q1, q2⟩ := Routes.atN (SlAt.below h2.out D1 (fun _ _ _ h => h)) hxk
      have k1 : (0 : Int) ≤ (k : Int) := by omega
      have k2 : (k : Int) < (xs.length : Int) := by omega
      have D2 := D1.drew
      clear hxk h1 h2
      generalize x.v = x0 at *
      generalize x.b = x1 at *
      generalize x.p = x2 at *
      have NE := fun w => route_ne x0 x1 x2 w
      go_wp2_with fail
      go_region_held3 (fun w' => w'.cell? ⟨b1, o1 + k * 3, none⟩ = some (.int .i64 x0) ∧ w'.cell? ⟨b1, o1 + k * 3 + 1, none⟩ = some (.int .i64 x1) ∧ w'.cell? ⟨b1, o1 + k * 3 + 2, none⟩ = some (.int .i64 x2) ∧ w'.cell? ⟨b2, o2 + k * 3, none⟩ = some (.int .i64 x0) ∧ w'.cell? ⟨b2, o2 + k * 3 + 1, none⟩ = some (.int .i64 x1) ∧ w'.cell? ⟨b2, o2 + k * 3 + 2, none⟩ = some (.int .i64 x2)) (exact ⟨by assumption, by assumption, by assumption, by assumption, by assumption, by assumption⟩) (first | fail)
      go_wp2_with fail
      go_roundw
      case rel => exact ⟨k + 1, by go_num, by omega, D2⟩
      case measure => simp [intOf]; omega
    · go_wp2_with fail
      go_ret
      exact ⟨rfl, D1⟩
theorem rots_same {v1 v2 : Value} {xs : List NRoute} (w : World) (h1 : SlAt w.heap.size w 3 IsRoute v1 xs) (h2 : SlAt w.heap.size w 3 IsRoute v2 xs) :
    Calls Tryz.prog 21 #[v1, v2] w fun e w' => e = .returned (.bool true) ∧ Below w.heap.size w w' := by
  obtain ⟨A1, c1, rfl, l1, m1⟩ := SlAt.slice h1
  obtain ⟨A2, c2, rfl, _, _⟩ := SlAt.slice h2
  unfold maxLen at m1
  exact rots_row A1 A2 c1 c2 xs w h1 h2 (by omega) l1
abbrev dv7A (nm : ByteArray) (k ad : Int) (pl : Nat) (vb vr vt : Value) : Value := .agg #[.string nm, .int .i64 k, .int .i64 ad, .int .u8 (pl : Int), vb, vr, vt]
set_option maxHeartbeats 4000000 in
set_option maxRecDepth 100000 in
theorem same1_any (d : Dv) (vb vr vt ub ur ut : Value) (w : World) (hb : SlAt w.heap.size w 1 IsI vb d.backs) (hr : SlAt w.heap.size w 5 IsRule vr d.rules) (ht : SlAt w.heap.size w 3 IsRoute vt d.routes) (gb : SlAt w.heap.size w 1 IsI ub d.backs) (gr : SlAt w.heap.size w 5 IsRule ur d.rules) (gt : SlAt w.heap.size w 3 IsRoute ut d.routes) :
    Calls Tryz.prog 18 #[dv7A d.name d.kind d.addr d.pool vb vr vt, dv7A d.name d.kind d.addr d.pool ub ur ut] w fun e w' => e = .returned (.bool true) ∧ Below w.heap.size w w' := by
  have E1 : Hid (∀ W, Below w.heap.size w W → Calls Tryz.prog 19 #[vb, ub] W fun e w' => e = .returned (.bool true) ∧ Below W.heap.size W w') := fun W h => ints_same W (SlAt.mono (SlAt.below hb h (fun _ _ _ h => h)) h.size (fun _ _ _ h => h)) (SlAt.mono (SlAt.below gb h (fun _ _ _ h => h)) h.size (fun _ _ _ h => h))
  have E2 : Hid (∀ W, Below w.heap.size w W → Calls Tryz.prog 20 #[vr, ur] W fun e w' => e = .returned (.bool true) ∧ Below W.heap.size W w') := fun W h => ruls_same W (SlAt.mono (SlAt.below hr h (fun _ _ _ h => h)) h.size (fun _ _ _ h => h)) (SlAt.mono (SlAt.below gr h (fun _ _ _ h => h)) h.size (fun _ _ _ h => h))
  have E3 : Hid (∀ W, Below w.heap.size w W → Calls Tryz.prog 21 #[vt, ut] W fun e w' => e = .returned (.bool true) ∧ Below W.heap.size W w') := fun W h => rots_same W (SlAt.mono (SlAt.below ht h (fun _ _ _ h => h)) h.size (fun _ _ _ h => h)) (SlAt.mono (SlAt.below gt h (fun _ _ _ h => h)) h.size (fun _ _ _ h => h))
  obtain ⟨Ab, cb, rfl, _, _⟩ := SlAt.slice hb
  obtain ⟨Ar, cr, rfl, _, _⟩ := SlAt.slice hr
  obtain ⟨At, ct, rfl, _, _⟩ := SlAt.slice ht
  obtain ⟨Bb, eb, rfl, _, _⟩ := SlAt.slice gb
  obtain ⟨Br, er, rfl, _, _⟩ := SlAt.slice gr
  obtain ⟨Bt, et, rfl, _, _⟩ := SlAt.slice gt
  clear hb hr ht gb gr gt
  generalize d.backs.length = nb at *
  generalize d.rules.length = nr at *
  generalize d.routes.length = nt at *
  generalize d.name = nm at *
  generalize d.kind = kd at *
  generalize d.addr = ad at *
  generalize d.pool = pl at *
  have D0 := Below.alN (Below.alN (Below.refl w.heap.size w) (.cells #[.string nm, .int .i64 kd, .int .i64 ad, .int .u8 (pl : Int), .slice Ab nb cb, .slice Ar nr cr, .slice At nt ct] 37)) (.cells #[.string nm, .int .i64 kd, .int .i64 ad, .int .u8 (pl : Int), .slice Bb nb eb, .slice Br nr er, .slice Bt nt et] 37)
  have V0 := (seven_new w (.string nm) (.int .i64 kd) (.int .i64 ad) (.int .u8 (pl : Int)) (.slice Ab nb cb) (.slice Ar nr cr) (.slice At nt ct) 37).below ((Below.refl _ _).alloc (Nat.le_refl _) (.cells #[.string nm, .int .i64 kd, .int .i64 ad, .int .u8 (pl : Int), .slice Bb nb eb, .slice Br nr er, .slice Bt nt et] 37)) (by simp)
  have U0 := seven_new (w.alloc (.cells #[.string nm, .int .i64 kd, .int .i64 ad, .int .u8 (pl : Int), .slice Ab nb cb, .slice Ar nr cr, .slice At nt ct] 37)) (.string nm) (.int .i64 kd) (.int .i64 ad) (.int .u8 (pl : Int)) (.slice Bb nb eb) (.slice Br nr er) (.slice Bt nt et) 37
  rw [World.size_alloc] at U0
  go_enter Tryz.func18, Tryz.ntmps18
  go_wp2_with fail
  refine (E1.out _ D0).mono ?_
  rintro e w1 ⟨rfl, hb1⟩
  have D1 := chnN hb1 D0
  have V1 := V0.below hb1 V0.1
  have U1 := U0.below hb1 U0.1
  clear hb1 D0 V0 U0 E1
  obtain ⟨_, v0, v1, v2, v3, v4, v5, v6⟩ := id V1
  obtain ⟨_, u0, u1, u2, u3, u4, u5, u6⟩ := id U1
  go_wp2_with fail
  refine (E2.out _ D1).mono ?_
  rintro e w2 ⟨rfl, hb2⟩
  have D2 := chnN hb2 D1
  have V2 := V1.below hb2 V1.1
  have U2 := U1.below hb2 U1.1
  clear hb2 D1 V1 U1 E2 v0 v1 v2 v3 v4 v5 v6 u0 u1 u2 u3 u4 u5 u6
  obtain ⟨_, v0, v1, v2, v3, v4, v5, v6⟩ := id V2
  obtain ⟨_, u0, u1, u2, u3, u4, u5, u6⟩ := id U2
  go_wp2_with fail
  refine (E3.out _ D2).mono ?_
  rintro e w3 ⟨rfl, hb3⟩
  have D3 := chnN hb3 D2
  go_wp2_with fail
  go_ret
  exact ⟨rfl, D3⟩
set_option maxHeartbeats 4000000 in
set_option maxRecDepth 100000 in
theorem devs_row (A1 A2 : Option Addr) (c1 c2 : Nat) (ds : List Dv) (w : World) (h1 : Hid (Devs w.heap.size w (.slice A1 ds.length c1) ds)) (h2 : Hid (Devs w.heap.size w (.slice A2 ds.length c2) ds)) (hm : c1 ≤ 9223372036854775807) (hc : ds.length ≤ c1) :
    Calls Tryz.prog 17 #[.slice A1 ds.length c1, .slice A2 ds.length c2, .func (.func 18) #[] #[]] w fun e w' => e = .returned (.bool true) ∧ Below w.heap.size w w' := by
  go_enter Tryz.func17, Tryz.ntmps17
  go_wp2_with fail
  go_loopw [17] (fun i wr => ∃ k : Nat, i = .int .i64 (k : Int) ∧ k ≤ ds.length ∧ Below w.heap.size w wr) (fun i _ => ds.length - (intOf i).toNat)
  case atStart => exact ⟨0, rfl, by omega, Below.refl _ _⟩
  case round =>
    obtain ⟨k, rfl, hk, D1⟩ := hrel
    by_cases hlt : k < ds.length
    · obtain ⟨d, hxk⟩ : ∃ d, ds[k]? = some d := ⟨_, List.getElem?_eq_getElem hlt⟩
      obtain ⟨b, o, vb, vr, vt, rfl, hb, z1, z2, z3, c0, c1', c2', c3, c4, c5, c6⟩ := (h1.out.below D1).at hxk
      obtain ⟨b', o', ub, ur, ut, rfl, hb', y1, y2, y3, e0, e1, e2, e3, e4, e5, e6⟩ := (h2.out.below D1).at hxk
      have lw := D1.size
      have CB : Hid (∀ W, Below wr.heap.size wr W → Calls Tryz.prog 18 #[dv7A d.name d.kind d.addr d.pool vb vr vt, dv7A d.name d.kind d.addr d.pool ub ur ut] W fun e w' => e = .returned (.bool true) ∧ Below W.heap.size W w') := fun W h => by
        have h' : Below w.heap.size wr W := h.mono lw
        have sz : w.heap.size ≤ W.heap.size := Nat.le_trans lw h.size
        exact same1_any d vb vr vt ub ur ut W (SlAt.mono (SlAt.below z1 h' (fun _ _ _ h => h)) sz (fun _ _ _ h => h)) (SlAt.mono (SlAt.below z2 h' (fun _ _ _ h => h)) sz (fun _ _ _ h => h)) (SlAt.mono (SlAt.below z3 h' (fun _ _ _ h => h)) sz (fun _ _ _ h => h)) (SlAt.mono (SlAt.below y1 h' (fun _ _ _ h => h)) sz (fun _ _ _ h => h)) (SlAt.mono (SlAt.below y2 h' (fun _ _ _ h => h)) sz (fun _ _ _ h => h)) (SlAt.mono (SlAt.below y3 h' (fun _ _ _ h => h)) sz (fun _ _ _ h => h))
      obtain ⟨Ab, cb, rfl, _, _⟩ := SlAt.slice z1
      obtain ⟨Ar, cr, rfl, _, _⟩ := SlAt.slice z2
      obtain ⟨At, ct, rfl, _, _⟩ := SlAt.slice z3
      obtain ⟨Bb, eb, rfl, _, _⟩ := SlAt.slice y1
      obtain ⟨Br, er, rfl, _, _⟩ := SlAt.slice y2
      obtain ⟨Bt, et, rfl, _, _⟩ := SlAt.slice y3
      have k1 : (0 : Int) ≤ (k : Int) := by omega
      have k2 : (k : Int) < (ds.length : Int) := by omega
      have zb : b < wr.heap.size := by omega
      have zb' : b' < wr.heap.size := by omega
      clear hxk h1 h2 z1 z2 z3 y1 y2 y3
      generalize d.backs.length = nb at *
      generalize d.rules.length = nr at *
      generalize d.routes.length = nt at *
      generalize d.name = nm at *
      generalize d.kind = kd at *
      generalize d.addr = ad at *
      generalize d.pool = pl at *
      have D2 := Below.alN (Below.alN D1 (.cells #[.string nm, .int .i64 kd, .int .i64 ad, .int .u8 (pl : Int), .slice Ab nb cb, .slice Ar nr cr, .slice At nt ct] 37)) (.cells #[.string nm, .int .i64 kd, .int .i64 ad, .int .u8 (pl : Int), .slice Bb nb eb, .slice Br nr er, .slice Bt nt et] 37)
      have E2 := Below.alN (Below.alN (Below.refl wr.heap.size wr) (.cells #[.string nm, .int .i64 kd, .int .i64 ad, .int .u8 (pl : Int), .slice Ab nb cb, .slice Ar nr cr, .slice At nt ct] 37)) (.cells #[.string nm, .int .i64 kd, .int .i64 ad, .int .u8 (pl : Int), .slice Bb nb eb, .slice Br nr er, .slice Bt nt et] 37)
      go_wp2_with fail
      refine (CB.out _ E2).mono ?_
      rintro e w3 ⟨rfl, hb3⟩
      have D3 := chnN hb3 D2
      clear hb3 D2 E2 D1 CB c0 c1' c2' c3 c4 c5 c6 e0 e1 e2 e3 e4 e5 e6
      go_wp2_with fail
      go_roundw
      case rel => exact ⟨k + 1, by go_num, by omega, D3⟩
      case measure => simp [intOf]; omega
    · go_wp2_with fail
      go_ret
      exact ⟨rfl, D1⟩
set_option maxHeartbeats 1000000 in
/-- SameNet of two nets that are the same. -/
theorem same_net {vd vl ud ul : Value} {ds : List Dv} {ls : List Lk} (w : World) (h1 : Devs w.heap.size w vd ds) (h2 : Links w.heap.size w vl ls) (g1 : Devs w.heap.size w ud ds) (g2 : Links w.heap.size w ul ls) :
    Calls Tryz.prog 7 #[.agg #[vd, vl], .agg #[ud, ul]] w fun e w' => e = .returned (.bool true) ∧ Below w.heap.size w w' := by
  have E1 : Hid (∀ W, Below w.heap.size w W → Calls Tryz.prog 16 #[vl, ul] W fun e w' => e = .returned (.bool true) ∧ Below W.heap.size W w') := fun W h => lnks_same W ((h2.below h).mono h.size) ((g2.below h).mono h.size)
  have E2 : Hid (∀ W, Below w.heap.size w W → Calls Tryz.prog 17 #[vd, ud, .func (.func 18) #[] #[]] W fun e w' => e = .returned (.bool true) ∧ Below W.heap.size W w') := fun W h => by
    obtain ⟨A1, c1, rfl, l1, m1⟩ := SlAt.slice h1
    obtain ⟨A2, c2, rfl, _, _⟩ := SlAt.slice g1
    unfold maxLen at m1
    exact devs_row A1 A2 c1 c2 ds W ((h1.below h).mono h.size) ((g1.below h).mono h.size) (by omega) l1
  obtain ⟨A1, c1, rfl, _, _⟩ := SlAt.slice h1
  obtain ⟨A2, c2, rfl, _, _⟩ := SlAt.slice h2
  obtain ⟨A3, c3, rfl, _, _⟩ := SlAt.slice g1
  obtain ⟨A4, c4, rfl, _, _⟩ := SlAt.slice g2
  clear h1 h2 g1 g2
  generalize ds.length = nd at *
  generalize ls.length = nl at *
  have D0 := Below.alN (Below.alN (Below.refl w.heap.size w) (.cells #[.slice A1 nd c1, .slice A2 nl c2] 25)) (.cells #[.slice A3 nd c3, .slice A4 nl c4] 25)
  have V0 := (box2_new w (.slice A1 nd c1) (.slice A2 nl c2) 25).alloc (.cells #[.slice A3 nd c3, .slice A4 nl c4] 25)
  have U0 := box2_new (w.alloc (.cells #[.slice A1 nd c1, .slice A2 nl c2] 25)) (.slice A3 nd c3) (.slice A4 nl c4) 25
  rw [World.size_alloc] at U0
  go_enter Tryz.func7, Tryz.ntmps7
  go_wp2_with fail
  refine (E1.out _ D0).mono ?_
  rintro e w1 ⟨rfl, hb1⟩
  have D1 := chnN hb1 D0
  have V1 := V0.below hb1 V0.1
  have U1 := U0.below hb1 U0.1
  clear hb1 D0 V0 U0 E1
  obtain ⟨_, v0, v1, _⟩ := id V1
  obtain ⟨_, u0, u1, _⟩ := id U1
  go_wp2_with fail
  refine (E2.out _ D1).mono ?_
  rintro e w2 ⟨rfl, hb2⟩
  have D2 := chnN hb2 D1
  go_wp2_with fail
  go_ret
  exact ⟨rfl, D2⟩
end Go.Proofs.YthofdiacncgbkaaGreatDoor
