/-
  Package net: Print.
-/
import Derived.Test.YtnkgjkoncglfjaaGreatDoorZE
import Derived.Test.YtnkgjkoncglfjaaGreatDoorZI
import Derived.Test.YtnkgjkoncglfjaaGreatDoorZF
import Derived.Test.YtnkgjkoncglfjaaGreatDoorNRq
import Derived.Test.YtnkgjkoncglfjaaGreatDoorRows
import Derived.Test.YtnkgjkoncglfjaaGreatDoorZC
import Derived.ProofKit
import Derived.LaidMore
import Derived.OpenShut
namespace Go.Proofs.YtnkgjkoncglfjaaGreatDoor
open Go.RowKit

theorem Rules.atN {base : Nat} {w : World} {A : Option Addr} {n cap : Nat} {rs : List NRule} (h : SlAt base w 5 IsRule (.slice A n cap) rs) {k : Nat} {r : NRule} (hk : rs[k]? = some r) :
    ∃ b o, A = some ⟨b, o, none⟩ ∧ b < base ∧ w.cell? ⟨b, o + k * 5, none⟩ = some (.bool r.ok) ∧ w.cell? ⟨b, o + k * 5 + 1, none⟩ = some (.int .u16 (r.a : Int)) ∧ w.cell? ⟨b, o + k * 5 + 2, none⟩ = some (.int .u16 (r.b : Int)) ∧ w.cell? ⟨b, o + k * 5 + 3, none⟩ = some (.int .u8 (r.c : Int)) ∧ w.cell? ⟨b, o + k * 5 + 4, none⟩ = some (.int .u8 (r.d : Int)) := by
  obtain ⟨A', cap', e, _, _, _, h3⟩ := h
  cases e
  obtain ⟨b, o, ea, hl, hr⟩ := h3 (fun e => by subst e; simp at hk)
  obtain ⟨cs, _, rfl, hc⟩ := hr k r hk
  exact ⟨b, o, ea, hl, hc 0 _ rfl, hc 1 _ rfl, hc 2 _ rfl, hc 3 _ rfl, hc 4 _ rfl⟩
theorem Routes.atN {base : Nat} {w : World} {A : Option Addr} {n cap : Nat} {rs : List NRoute} (h : SlAt base w 3 IsRoute (.slice A n cap) rs) {k : Nat} {r : NRoute} (hk : rs[k]? = some r) :
    ∃ b o, A = some ⟨b, o, none⟩ ∧ b < base ∧ w.cell? ⟨b, o + k * 3, none⟩ = some (.int .i64 r.v) ∧ w.cell? ⟨b, o + k * 3 + 1, none⟩ = some (.int .i64 r.b) ∧ w.cell? ⟨b, o + k * 3 + 2, none⟩ = some (.int .i64 r.p) := by
  obtain ⟨A', cap', e, _, _, _, h3⟩ := h
  cases e
  obtain ⟨b, o, ea, hl, hr⟩ := h3 (fun e => by subst e; simp at hk)
  obtain ⟨cs, _, rfl, hc⟩ := hr k r hk
  exact ⟨b, o, ea, hl, hc 0 _ rfl, hc 1 _ rfl, hc 2 _ rfl⟩
theorem words2 (w : World) (a b : ByteArray) : WordsAt (w.alloc (.cells #[.string a, .string b] 9)) (.slice (some ⟨w.heap.size, 0, none⟩) 2 2) ([a, b].map (·.data.toList)) := words_new w [a, b]
theorem words3 (w : World) (a b c : ByteArray) : WordsAt (w.alloc (.cells #[.string a, .string b, .string c] 9)) (.slice (some ⟨w.heap.size, 0, none⟩) 3 3) ([a, b, c].map (·.data.toList)) := words_new w [a, b, c]
theorem words5 (w : World) (a b c d e : ByteArray) : WordsAt (w.alloc (.cells #[.string a, .string b, .string c, .string d, .string e] 9)) (.slice (some ⟨w.heap.size, 0, none⟩) 5 5) ([a, b, c, d, e].map (·.data.toList)) := words_new w [a, b, c, d, e]
/-- The words of a rule's line. -/
theorem ruleT_words (r : NRule) (a b : ByteArray) (h1 : a = ⟨(ruleW r.ok).toArray⟩) (h2 : b = ⟨(Mt.matT r.a r.b r.c r.d).toArray⟩) : lineT ([a, b].map (·.data.toList)) = ruleT r := by
  subst h1 h2
  simp [ruleT]
theorem routeT_words (r : NRoute) (s1 s2 s3 x1 x2 : ByteArray) (h1 : x1.data.toList = dcB r.v) (h2 : x2.data.toList = dcB r.b) (h3 : s3.data.toList = dcB r.p) (e1 : s1 = x1 ++ ⟨#[47]⟩) (e2 : s2 = s1 ++ x2) : lineT ([⟨#[114, 111, 117, 116, 101]⟩, s2, s3].map (·.data.toList)) = routeT r := by
  subst e1 e2
  simp only [List.map_cons, List.map_nil, app_toList, h1, h2, h3]
  unfold routeT routeW
  simp
theorem linkT_words (ds : List Dv) (l : Lk) (na nb s1 s2 : ByteArray) (h1 : nameAt ds l.a = na) (h2 : s1.data.toList = dcB l.p) (h3 : nameAt ds l.b = nb) (h4 : s2.data.toList = dcB l.q) : lineT ([⟨#[108, 105, 110, 107]⟩, na, s1, nb, s2].map (·.data.toList)) = linkT ds l := by
  unfold linkT linkW
  rw [h1, h3, ← h2, ← h4]
  simp
end Go.Proofs.YtnkgjkoncglfjaaGreatDoor



namespace Go.Proofs.YtnkgjkoncglfjaaGreatDoor
open Go.RowKit

theorem SlAt.slice {α : Type} {base : Nat} {w : World} {n : Nat} {R : List Value → α → Prop} {v : Value} {xs : List α} (h : SlAt base w n R v xs) : ∃ A cap, v = .slice A xs.length cap ∧ xs.length ≤ cap ∧ cap ≤ maxLen := by
  obtain ⟨A, cap, e, _, h1, h2, _⟩ := h
  exact ⟨A, cap, e, h1, h2⟩
theorem link_ne (a b c d : Int) (w : World) : (binOp .neq 44 (.agg #[.int .i64 a, .int .i64 b, .int .i64 c, .int .i64 d]) (.agg #[.int .i64 a, .int .i64 b, .int .i64 c, .int .i64 d])).run Tryz.prog w = .ok (.bool false) w := by
  simp [go_sem, Tryz.underlying44, Tryz.underlying3]
theorem route_ne (a b c : Int) (w : World) : (binOp .neq 60 (.agg #[.int .i64 a, .int .i64 b, .int .i64 c]) (.agg #[.int .i64 a, .int .i64 b, .int .i64 c])).run Tryz.prog w = .ok (.bool false) w := by
  simp [go_sem, Tryz.underlying60, Tryz.underlying3]
theorem rule_ne (ok : Bool) (a b c d : Int) (w : World) : (binOp .neq 57 (.agg #[.bool ok, .int .u16 a, .int .u16 b, .int .u8 c, .int .u8 d]) (.agg #[.bool ok, .int .u16 a, .int .u16 b, .int .u8 c, .int .u8 d])).run Tryz.prog w = .ok (.bool false) w := by
  simp [go_sem, Tryz.underlying57, Tryz.underlying55, Tryz.underlying4, Tryz.underlying53, Tryz.underlying5]
set_option maxHeartbeats 4000000 in
set_option maxRecDepth 100000 in
theorem ints_row (A1 A2 : Option Addr) (c1 c2 : Nat) (xs : List Int) (w : World) (h1 : Hid (SlAt w.heap.size w 1 IsI (.slice A1 xs.length c1) xs)) (h2 : Hid (SlAt w.heap.size w 1 IsI (.slice A2 xs.length c2) xs)) (hm : c1 ≤ 9223372036854775807) (hc : xs.length ≤ c1) :
    Calls Tryz.prog 17 #[.slice A1 xs.length c1, .slice A2 xs.length c2] w fun e w' => e = .returned (.bool true) ∧ Below w.heap.size w w' := by
  go_enter Tryz.func17, Tryz.ntmps17
  go_wp2_with fail
  go_loopw [13] (fun i wr => ∃ k : Nat, i = .int .i64 (k : Int) ∧ k ≤ xs.length ∧ Below w.heap.size w wr) (fun i _ => xs.length - (intOf i).toNat)
  case atStart => exact ⟨0, rfl, by omega, Below.refl _ _⟩
  case round =>
    obtain ⟨k, rfl, hk, D1⟩ := hrel
    by_cases hlt : k < xs.length
    · obtain ⟨x, hxk⟩ : ∃ x, xs[k]? = some x := ⟨_, List.getElem?_eq_getElem hlt⟩
      obtain ⟨b1, o1, rfl, _, p0⟩ := Ints.at (SlAt.below h1.out D1 (fun _ _ _ h => h)) hxk
      obtain ⟨b2, o2, rfl, _, q0⟩ := Ints.at (SlAt.below h2.out D1 (fun _ _ _ h => h)) hxk
      have k1 : (0 : Int) ≤ (k : Int) := by omega
      have k2 : (k : Int) < (xs.length : Int) := by omega
      have D2 := D1.drew
      have p0' : wr.drew.cell? ⟨b1, o1 + k, none⟩ = some (.int .i64 x) := p0 k x hxk
      have q0' : wr.drew.cell? ⟨b2, o2 + k, none⟩ = some (.int .i64 x) := q0 k x hxk
      clear p0 q0
      clear hxk h1 h2
      go_wp2_with fail
      go_region_held3 (fun w' => w'.cell? ⟨b1, o1 + k, none⟩ = some (.int .i64 x) ∧ w'.cell? ⟨b2, o2 + k, none⟩ = some (.int .i64 x)) (exact ⟨by assumption, by assumption⟩) (first | fail)
      go_wp2_with fail
      go_roundw
      case rel => exact ⟨k + 1, by go_num, by omega, D2⟩
      case measure => simp [intOf]; omega
    · go_wp2_with fail
      go_ret
      exact ⟨rfl, D1⟩
theorem ints_same {v1 v2 : Value} {xs : List Int} (w : World) (h1 : SlAt w.heap.size w 1 IsI v1 xs) (h2 : SlAt w.heap.size w 1 IsI v2 xs) :
    Calls Tryz.prog 17 #[v1, v2] w fun e w' => e = .returned (.bool true) ∧ Below w.heap.size w w' := by
  obtain ⟨A1, c1, rfl, l1, m1⟩ := SlAt.slice h1
  obtain ⟨A2, c2, rfl, _, _⟩ := SlAt.slice h2
  unfold maxLen at m1
  exact ints_row A1 A2 c1 c2 xs w h1 h2 (by omega) l1
set_option maxHeartbeats 4000000 in
set_option maxRecDepth 100000 in
theorem lnks_row (A1 A2 : Option Addr) (c1 c2 : Nat) (xs : List Lk) (w : World) (h1 : Hid (Links w.heap.size w (.slice A1 xs.length c1) xs)) (h2 : Hid (Links w.heap.size w (.slice A2 xs.length c2) xs)) (hm : c1 ≤ 9223372036854775807) (hc : xs.length ≤ c1) :
    Calls Tryz.prog 14 #[.slice A1 xs.length c1, .slice A2 xs.length c2] w fun e w' => e = .returned (.bool true) ∧ Below w.heap.size w w' := by
  go_enter Tryz.func14, Tryz.ntmps14
  go_wp2_with fail
  go_loopw [13] (fun i wr => ∃ k : Nat, i = .int .i64 (k : Int) ∧ k ≤ xs.length ∧ Below w.heap.size w wr) (fun i _ => xs.length - (intOf i).toNat)
  case atStart => exact ⟨0, rfl, by omega, Below.refl _ _⟩
  case round =>
    obtain ⟨k, rfl, hk, D1⟩ := hrel
    by_cases hlt : k < xs.length
    · obtain ⟨x, hxk⟩ : ∃ x, xs[k]? = some x := ⟨_, List.getElem?_eq_getElem hlt⟩
      obtain ⟨b1, o1, rfl, _, p0, p1, p2, p3⟩ := (h1.out.below D1).at hxk
      obtain ⟨b2, o2, rfl, _, q0, q1, q2, q3⟩ := (h2.out.below D1).at hxk
      have k1 : (0 : Int) ≤ (k : Int) := by omega
      have k2 : (k : Int) < (xs.length : Int) := by omega
      have D2 := D1.drew
      clear hxk h1 h2
      generalize x.a = x0 at *
      generalize x.p = x1 at *
      generalize x.b = x2 at *
      generalize x.q = x3 at *
      have NE := fun w => link_ne x0 x1 x2 x3 w
      go_wp2_with fail
      go_region_held3 (fun w' => w'.cell? ⟨b1, o1 + k * 4, none⟩ = some (.int .i64 x0) ∧ w'.cell? ⟨b1, o1 + k * 4 + 1, none⟩ = some (.int .i64 x1) ∧ w'.cell? ⟨b1, o1 + k * 4 + 2, none⟩ = some (.int .i64 x2) ∧ w'.cell? ⟨b1, o1 + k * 4 + 3, none⟩ = some (.int .i64 x3) ∧ w'.cell? ⟨b2, o2 + k * 4, none⟩ = some (.int .i64 x0) ∧ w'.cell? ⟨b2, o2 + k * 4 + 1, none⟩ = some (.int .i64 x1) ∧ w'.cell? ⟨b2, o2 + k * 4 + 2, none⟩ = some (.int .i64 x2) ∧ w'.cell? ⟨b2, o2 + k * 4 + 3, none⟩ = some (.int .i64 x3)) (exact ⟨by assumption, by assumption, by assumption, by assumption, by assumption, by assumption, by assumption, by assumption⟩) (first | fail)
      go_wp2_with fail
      go_roundw
      case rel => exact ⟨k + 1, by go_num, by omega, D2⟩
      case measure => simp [intOf]; omega
    · go_wp2_with fail
      go_ret
      exact ⟨rfl, D1⟩
theorem lnks_same {v1 v2 : Value} {xs : List Lk} (w : World) (h1 : Links w.heap.size w v1 xs) (h2 : Links w.heap.size w v2 xs) :
    Calls Tryz.prog 14 #[v1, v2] w fun e w' => e = .returned (.bool true) ∧ Below w.heap.size w w' := by
  obtain ⟨A1, c1, rfl, l1, m1⟩ := SlAt.slice h1
  obtain ⟨A2, c2, rfl, _, _⟩ := SlAt.slice h2
  unfold maxLen at m1
  exact lnks_row A1 A2 c1 c2 xs w h1 h2 (by omega) l1
set_option maxHeartbeats 4000000 in
set_option maxRecDepth 100000 in
theorem ruls_row (A1 A2 : Option Addr) (c1 c2 : Nat) (xs : List NRule) (w : World) (h1 : Hid (SlAt w.heap.size w 5 IsRule (.slice A1 xs.length c1) xs)) (h2 : Hid (SlAt w.heap.size w 5 IsRule (.slice A2 xs.length c2) xs)) (hm : c1 ≤ 9223372036854775807) (hc : xs.length ≤ c1) :
    Calls Tryz.prog 18 #[.slice A1 xs.length c1, .slice A2 xs.length c2] w fun e w' => e = .returned (.bool true) ∧ Below w.heap.size w w' := by
  go_enter Tryz.func18, Tryz.ntmps18
  go_wp2_with fail
  go_loopw [13] (fun i wr => ∃ k : Nat, i = .int .i64 (k : Int) ∧ k ≤ xs.length ∧ Below w.heap.size w wr) (fun i _ => xs.length - (intOf i).toNat)
  case atStart => exact ⟨0, rfl, by omega, Below.refl _ _⟩
  case round =>
    obtain ⟨k, rfl, hk, D1⟩ := hrel
    by_cases hlt : k < xs.length
    · obtain ⟨x, hxk⟩ : ∃ x, xs[k]? = some x := ⟨_, List.getElem?_eq_getElem hlt⟩
      obtain ⟨b1, o1, rfl, _, p0, p1, p2, p3, p4⟩ := Rules.atN (SlAt.below h1.out D1 (fun _ _ _ h => h)) hxk
      obtain ⟨b2, o2, rfl, _, q0, q1, q2, q3, q4⟩ := Rules.atN (SlAt.below h2.out D1 (fun _ _ _ h => h)) hxk
      have k1 : (0 : Int) ≤ (k : Int) := by omega
      have k2 : (k : Int) < (xs.length : Int) := by omega
      have D2 := D1.drew
      clear hxk h1 h2
      generalize x.ok = x0 at *
      generalize x.a = x1 at *
      generalize x.b = x2 at *
      generalize x.c = x3 at *
      generalize x.d = x4 at *
      have NE := fun w => rule_ne x0 x1 x2 x3 x4 w
      go_wp2_with fail
      go_region_held3 (fun w' => w'.cell? ⟨b1, o1 + k * 5, none⟩ = some (.bool x0) ∧ w'.cell? ⟨b1, o1 + k * 5 + 1, none⟩ = some (.int .u16 (x1 : Int)) ∧ w'.cell? ⟨b1, o1 + k * 5 + 2, none⟩ = some (.int .u16 (x2 : Int)) ∧ w'.cell? ⟨b1, o1 + k * 5 + 3, none⟩ = some (.int .u8 (x3 : Int)) ∧ w'.cell? ⟨b1, o1 + k * 5 + 4, none⟩ = some (.int .u8 (x4 : Int)) ∧ w'.cell? ⟨b2, o2 + k * 5, none⟩ = some (.bool x0) ∧ w'.cell? ⟨b2, o2 + k * 5 + 1, none⟩ = some (.int .u16 (x1 : Int)) ∧ w'.cell? ⟨b2, o2 + k * 5 + 2, none⟩ = some (.int .u16 (x2 : Int)) ∧ w'.cell? ⟨b2, o2 + k * 5 + 3, none⟩ = some (.int .u8 (x3 : Int)) ∧ w'.cell? ⟨b2, o2 + k * 5 + 4, none⟩ = some (.int .u8 (x4 : Int))) (exact ⟨by assumption, by assumption, by assumption, by assumption, by assumption, by assumption, by assumption, by assumption, by assumption, by assumption⟩) (first | fail)
      go_wp2_with fail
      go_roundw
      case rel => exact ⟨k + 1, by go_num, by omega, D2⟩
      case measure => simp [intOf]; omega
    · go_wp2_with fail
      go_ret
      exact ⟨rfl, D1⟩
theorem ruls_same {v1 v2 : Value} {xs : List NRule} (w : World) (h1 : SlAt w.heap.size w 5 IsRule v1 xs) (h2 : SlAt w.heap.size w 5 IsRule v2 xs) :
    Calls Tryz.prog 18 #[v1, v2] w fun e w' => e = .returned (.bool true) ∧ Below w.heap.size w w' := by
  obtain ⟨A1, c1, rfl, l1, m1⟩ := SlAt.slice h1
  obtain ⟨A2, c2, rfl, _, _⟩ := SlAt.slice h2
  unfold maxLen at m1
  exact ruls_row A1 A2 c1 c2 xs w h1 h2 (by omega) l1
set_option maxHeartbeats 4000000 in
set_option maxRecDepth 100000 in
theorem rots_row (A1 A2 : Option Addr) (c1 c2 : Nat) (xs : List NRoute) (w : World) (h1 : Hid (SlAt w.heap.size w 3 IsRoute (.slice A1 xs.length c1) xs)) (h2 : Hid (SlAt w.heap.size w 3 IsRoute (.slice A2 xs.length c2) xs)) (hm : c1 ≤ 9223372036854775807) (hc : xs.length ≤ c1) :
    Calls Tryz.prog 19 #[.slice A1 xs.length c1, .slice A2 xs.length c2] w fun e w' => e = .returned (.bool true) ∧ Below w.heap.size w w' := by
  go_enter Tryz.func19, Tryz.ntmps19
  go_wp2_with fail
  go_loopw [13] (fun i wr => ∃ k : Nat, i = .int .i64 (k : Int) ∧ k ≤ xs.length ∧ Below w.heap.size w wr) (fun i _ => xs.length - (intOf i).toNat)
  case atStart => exact ⟨0, rfl, by omega, Below.refl _ _⟩
  case round =>
    obtain ⟨k, rfl, hk, D1⟩ := hrel
    by_cases hlt : k < xs.length
    · obtain ⟨x, hxk⟩ : ∃ x, xs[k]? = some x := ⟨_, List.getElem?_eq_getElem hlt⟩
      obtain ⟨b1, o1, rfl, _, p0, p1, p2⟩ := Routes.atN (SlAt.below h1.out D1 (fun _ _ _ h => h)) hxk
      obtain ⟨b2, o2, rfl, _, q0, q1, q2⟩ := Routes.atN (SlAt.below h2.out D1 (fun _ _ _ h => h)) hxk
      have k1 : (0 : Int) ≤ (k : Int) := by omega
      have k2 : (k : Int) < (xs.length : Int) := by omega
      have D2 := D1.drew
      clear hxk h1 h2
      generalize x.v = x0 at *
      generalize x.b = x1 at *
      generalize x.p = x2 at *
      have NE := fun w => route_ne x0 x1 x2 w
      go_wp2_with fail
      go_region_held3 (fun w' => w'.cell? ⟨b1, o1 + k * 3, none⟩ = some (.int .i64 x0) ∧ w'.cell? ⟨b1, o1 + k * 3 + 1, none⟩ = some (.int .i64 x1) ∧ w'.cell? ⟨b1, o1 + k * 3 + 2, none⟩ = some (.int .i64 x2) ∧ w'.cell? ⟨b2, o2 + k * 3, none⟩ = some (.int .i64 x0) ∧ w'.cell? ⟨b2, o2 + k * 3 + 1, none⟩ = some (.int .i64 x1) ∧ w'.cell? ⟨b2, o2 + k * 3 + 2, none⟩ = some (.int .i64 x2)) (exact ⟨by assumption, by assumption, by assumption, by assumption, by assumption, by assumption⟩) (first | fail)
      go_wp2_with fail
      go_roundw
      case rel => exact ⟨k + 1, by go_num, by omega, D2⟩
      case measure => simp [intOf]; omega
    · go_wp2_with fail
      go_ret
      exact ⟨rfl, D1⟩
theorem rots_same {v1 v2 : Value} {xs : List NRoute} (w : World) (h1 : SlAt w.heap.size w 3 IsRoute v1 xs) (h2 : SlAt w.heap.size w 3 IsRoute v2 xs) :
    Calls Tryz.prog 19 #[v1, v2] w fun e w' => e = .returned (.bool true) ∧ Below w.heap.size w w' := by
  obtain ⟨A1, c1, rfl, l1, m1⟩ := SlAt.slice h1
  obtain ⟨A2, c2, rfl, _, _⟩ := SlAt.slice h2
  unfold maxLen at m1
  exact rots_row A1 A2 c1 c2 xs w h1 h2 (by omega) l1
abbrev dv7A (nm : ByteArray) (k ad : Int) (pl : Nat) (vb vr vt : Value) : Value := .agg #[.string nm, .int .i64 k, .int .i64 ad, .int .u8 (pl : Int), vb, vr, vt]
set_option maxHeartbeats 4000000 in
set_option maxRecDepth 100000 in
theorem same1_any (d : Dv) (vb vr vt ub ur ut : Value) (w : World) (hb : SlAt w.heap.size w 1 IsI vb d.backs) (hr : SlAt w.heap.size w 5 IsRule vr d.rules) (ht : SlAt w.heap.size w 3 IsRoute vt d.routes) (gb : SlAt w.heap.size w 1 IsI ub d.backs) (gr : SlAt w.heap.size w 5 IsRule ur d.rules) (gt : SlAt w.heap.size w 3 IsRoute ut d.routes) :
    Calls Tryz.prog 16 #[dv7A d.name d.kind d.addr d.pool vb vr vt, dv7A d.name d.kind d.addr d.pool ub ur ut] w fun e w' => e = .returned (.bool true) ∧ Below w.heap.size w w' := by
  have E1 : Hid (∀ W, Below w.heap.size w W → Calls Tryz.prog 17 #[vb, ub] W fun e w' => e = .returned (.bool true) ∧ Below W.heap.size W w') := fun W h => ints_same W (SlAt.mono (SlAt.below hb h (fun _ _ _ h => h)) h.size (fun _ _ _ h => h)) (SlAt.mono (SlAt.below gb h (fun _ _ _ h => h)) h.size (fun _ _ _ h => h))
  have E2 : Hid (∀ W, Below w.heap.size w W → Calls Tryz.prog 18 #[vr, ur] W fun e w' => e = .returned (.bool true) ∧ Below W.heap.size W w') := fun W h => ruls_same W (SlAt.mono (SlAt.below hr h (fun _ _ _ h => h)) h.size (fun _ _ _ h => h)) (SlAt.mono (SlAt.below gr h (fun _ _ _ h => h)) h.size (fun _ _ _ h => h))
  have E3 : Hid (∀ W, Below w.heap.size w W → Calls Tryz.prog 19 #[vt, ut] W fun e w' => e = .returned (.bool true) ∧ Below W.heap.size W w') := fun W h => rots_same W (SlAt.mono (SlAt.below ht h (fun _ _ _ h => h)) h.size (fun _ _ _ h => h)) (SlAt.mono (SlAt.below gt h (fun _ _ _ h => h)) h.size (fun _ _ _ h => h))
  obtain ⟨Ab, cb, rfl, _, _⟩ := SlAt.slice hb
  obtain ⟨Ar, cr, rfl, _, _⟩ := SlAt.slice hr
  obtain ⟨At, ct, rfl, _, _⟩ := SlAt.slice ht
  obtain ⟨Bb, eb, rfl, _, _⟩ := SlAt.slice gb
  obtain ⟨Br, er, rfl, _, _⟩ := SlAt.slice gr
  obtain ⟨Bt, et, rfl, _, _⟩ := SlAt.slice gt
  clear hb hr ht gb gr gt
  generalize d.backs.length = nb at *
  generalize d.rules.length = nr at *
  generalize d.routes.length = nt at *
  generalize d.name = nm at *
  generalize d.kind = kd at *
  generalize d.addr = ad at *
  generalize d.pool = pl at *
  have D0 := Below.alN (Below.alN (Below.refl w.heap.size w) (.cells #[.string nm, .int .i64 kd, .int .i64 ad, .int .u8 (pl : Int), .slice Ab nb cb, .slice Ar nr cr, .slice At nt ct] 50)) (.cells #[.string nm, .int .i64 kd, .int .i64 ad, .int .u8 (pl : Int), .slice Bb nb eb, .slice Br nr er, .slice Bt nt et] 50)
  have V0 := (seven_new w (.string nm) (.int .i64 kd) (.int .i64 ad) (.int .u8 (pl : Int)) (.slice Ab nb cb) (.slice Ar nr cr) (.slice At nt ct) 50).below ((Below.refl _ _).alloc (Nat.le_refl _) (.cells #[.string nm, .int .i64 kd, .int .i64 ad, .int .u8 (pl : Int), .slice Bb nb eb, .slice Br nr er, .slice Bt nt et] 50)) (by simp)
  have U0 := seven_new (w.alloc (.cells #[.string nm, .int .i64 kd, .int .i64 ad, .int .u8 (pl : Int), .slice Ab nb cb, .slice Ar nr cr, .slice At nt ct] 50)) (.string nm) (.int .i64 kd) (.int .i64 ad) (.int .u8 (pl : Int)) (.slice Bb nb eb) (.slice Br nr er) (.slice Bt nt et) 50
  rw [World.size_alloc] at U0
  go_enter Tryz.func16, Tryz.ntmps16
  go_wp2_with fail
  refine (E1.out _ D0).mono ?_
  rintro e w1 ⟨rfl, hb1⟩
  have D1 := chnN hb1 D0
  have V1 := V0.below hb1 V0.1
  have U1 := U0.below hb1 U0.1
  clear hb1 D0 V0 U0 E1
  obtain ⟨_, v0, v1, v2, v3, v4, v5, v6⟩ := id V1
  obtain ⟨_, u0, u1, u2, u3, u4, u5, u6⟩ := id U1
  go_wp2_with fail
  refine (E2.out _ D1).mono ?_
  rintro e w2 ⟨rfl, hb2⟩
  have D2 := chnN hb2 D1
  have V2 := V1.below hb2 V1.1
  have U2 := U1.below hb2 U1.1
  clear hb2 D1 V1 U1 E2 v0 v1 v2 v3 v4 v5 v6 u0 u1 u2 u3 u4 u5 u6
  obtain ⟨_, v0, v1, v2, v3, v4, v5, v6⟩ := id V2
  obtain ⟨_, u0, u1, u2, u3, u4, u5, u6⟩ := id U2
  go_wp2_with fail
  refine (E3.out _ D2).mono ?_
  rintro e w3 ⟨rfl, hb3⟩
  have D3 := chnN hb3 D2
  go_wp2_with fail
  go_ret
  exact ⟨rfl, D3⟩
set_option maxHeartbeats 4000000 in
set_option maxRecDepth 100000 in
theorem devs_row (A1 A2 : Option Addr) (c1 c2 : Nat) (ds : List Dv) (w : World) (h1 : Hid (Devs w.heap.size w (.slice A1 ds.length c1) ds)) (h2 : Hid (Devs w.heap.size w (.slice A2 ds.length c2) ds)) (hm : c1 ≤ 9223372036854775807) (hc : ds.length ≤ c1) :
    Calls Tryz.prog 15 #[.slice A1 ds.length c1, .slice A2 ds.length c2, .func (.func 16) #[] #[]] w fun e w' => e = .returned (.bool true) ∧ Below w.heap.size w w' := by
  go_enter Tryz.func15, Tryz.ntmps15
  go_wp2_with fail
  go_loopw [17] (fun i wr => ∃ k : Nat, i = .int .i64 (k : Int) ∧ k ≤ ds.length ∧ Below w.heap.size w wr) (fun i _ => ds.length - (intOf i).toNat)
  case atStart => exact ⟨0, rfl, by omega, Below.refl _ _⟩
  case round =>
    obtain ⟨k, rfl, hk, D1⟩ := hrel
    by_cases hlt : k < ds.length
    · obtain ⟨d, hxk⟩ : ∃ d, ds[k]? = some d := ⟨_, List.getElem?_eq_getElem hlt⟩
      obtain ⟨b, o, vb, vr, vt, rfl, hb, z1, z2, z3, c0, c1', c2', c3, c4, c5, c6⟩ := (h1.out.below D1).at hxk
      obtain ⟨b', o', ub, ur, ut, rfl, hb', y1, y2, y3, e0, e1, e2, e3, e4, e5, e6⟩ := (h2.out.below D1).at hxk
      have lw := D1.size
      have CB : Hid (∀ W, Below wr.heap.size wr W → Calls Tryz.prog 16 #[dv7A d.name d.kind d.addr d.pool vb vr vt, dv7A d.name d.kind d.addr d.pool ub ur ut] W fun e w' => e = .returned (.bool true) ∧ Below W.heap.size W w') := fun W h => by
        have h' : Below w.heap.size wr W := h.mono lw
        have sz : w.heap.size ≤ W.heap.size := Nat.le_trans lw h.size
        exact same1_any d vb vr vt ub ur ut W (SlAt.mono (SlAt.below z1 h' (fun _ _ _ h => h)) sz (fun _ _ _ h => h)) (SlAt.mono (SlAt.below z2 h' (fun _ _ _ h => h)) sz (fun _ _ _ h => h)) (SlAt.mono (SlAt.below z3 h' (fun _ _ _ h => h)) sz (fun _ _ _ h => h)) (SlAt.mono (SlAt.below y1 h' (fun _ _ _ h => h)) sz (fun _ _ _ h => h)) (SlAt.mono (SlAt.below y2 h' (fun _ _ _ h => h)) sz (fun _ _ _ h => h)) (SlAt.mono (SlAt.below y3 h' (fun _ _ _ h => h)) sz (fun _ _ _ h => h))
      obtain ⟨Ab, cb, rfl, _, _⟩ := SlAt.slice z1
      obtain ⟨Ar, cr, rfl, _, _⟩ := SlAt.slice z2
      obtain ⟨At, ct, rfl, _, _⟩ := SlAt.slice z3
      obtain ⟨Bb, eb, rfl, _, _⟩ := SlAt.slice y1
      obtain ⟨Br, er, rfl, _, _⟩ := SlAt.slice y2
      obtain ⟨Bt, et, rfl, _, _⟩ := SlAt.slice y3
      have k1 : (0 : Int) ≤ (k : Int) := by omega
      have k2 : (k : Int) < (ds.length : Int) := by omega
      have zb : b < wr.heap.size := by omega
      have zb' : b' < wr.heap.size := by omega
      clear hxk h1 h2 z1 z2 z3 y1 y2 y3
      generalize d.backs.length = nb at *
      generalize d.rules.length = nr at *
      generalize d.routes.length = nt at *
      generalize d.name = nm at *
      generalize d.kind = kd at *
      generalize d.addr = ad at *
      generalize d.pool = pl at *
      have D2 := Below.alN (Below.alN D1 (.cells #[.string nm, .int .i64 kd, .int .i64 ad, .int .u8 (pl : Int), .slice Ab nb cb, .slice Ar nr cr, .slice At nt ct] 50)) (.cells #[.string nm, .int .i64 kd, .int .i64 ad, .int .u8 (pl : Int), .slice Bb nb eb, .slice Br nr er, .slice Bt nt et] 50)
      have E2 := Below.alN (Below.alN (Below.refl wr.heap.size wr) (.cells #[.string nm, .int .i64 kd, .int .i64 ad, .int .u8 (pl : Int), .slice Ab nb cb, .slice Ar nr cr, .slice At nt ct] 50)) (.cells #[.string nm, .int .i64 kd, .int .i64 ad, .int .u8 (pl : Int), .slice Bb nb eb, .slice Br nr er, .slice Bt nt et] 50)
      go_wp2_with fail
      refine (CB.out _ E2).mono ?_
      rintro e w3 ⟨rfl, hb3⟩
      have D3 := chnN hb3 D2
      clear hb3 D2 E2 D1 CB c0 c1' c2' c3 c4 c5 c6 e0 e1 e2 e3 e4 e5 e6
      go_wp2_with fail
      go_roundw
      case rel => exact ⟨k + 1, by go_num, by omega, D3⟩
      case measure => simp [intOf]; omega
    · go_wp2_with fail
      go_ret
      exact ⟨rfl, D1⟩
set_option maxHeartbeats 1000000 in
/-- SameNet of two nets that are the same. -/
theorem same_net {vd vl ud ul : Value} {ds : List Dv} {ls : List Lk} (w : World) (h1 : Devs w.heap.size w vd ds) (h2 : Links w.heap.size w vl ls) (g1 : Devs w.heap.size w ud ds) (g2 : Links w.heap.size w ul ls) :
    Calls Tryz.prog 6 #[.agg #[vd, vl], .agg #[ud, ul]] w fun e w' => e = .returned (.bool true) ∧ Below w.heap.size w w' := by
  have E1 : Hid (∀ W, Below w.heap.size w W → Calls Tryz.prog 14 #[vl, ul] W fun e w' => e = .returned (.bool true) ∧ Below W.heap.size W w') := fun W h => lnks_same W ((h2.below h).mono h.size) ((g2.below h).mono h.size)
  have E2 : Hid (∀ W, Below w.heap.size w W → Calls Tryz.prog 15 #[vd, ud, .func (.func 16) #[] #[]] W fun e w' => e = .returned (.bool true) ∧ Below W.heap.size W w') := fun W h => by
    obtain ⟨A1, c1, rfl, l1, m1⟩ := SlAt.slice h1
    obtain ⟨A2, c2, rfl, _, _⟩ := SlAt.slice g1
    unfold maxLen at m1
    exact devs_row A1 A2 c1 c2 ds W ((h1.below h).mono h.size) ((g1.below h).mono h.size) (by omega) l1
  obtain ⟨A1, c1, rfl, _, _⟩ := SlAt.slice h1
  obtain ⟨A2, c2, rfl, _, _⟩ := SlAt.slice h2
  obtain ⟨A3, c3, rfl, _, _⟩ := SlAt.slice g1
  obtain ⟨A4, c4, rfl, _, _⟩ := SlAt.slice g2
  clear h1 h2 g1 g2
  generalize ds.length = nd at *
  generalize ls.length = nl at *
  have D0 := Below.alN (Below.alN (Below.refl w.heap.size w) (.cells #[.slice A1 nd c1, .slice A2 nl c2] 25)) (.cells #[.slice A3 nd c3, .slice A4 nl c4] 25)
  have V0 := (box2_new w (.slice A1 nd c1) (.slice A2 nl c2) 25).alloc (.cells #[.slice A3 nd c3, .slice A4 nl c4] 25)
  have U0 := box2_new (w.alloc (.cells #[.slice A1 nd c1, .slice A2 nl c2] 25)) (.slice A3 nd c3) (.slice A4 nl c4) 25
  rw [World.size_alloc] at U0
  go_enter Tryz.func6, Tryz.ntmps6
  go_wp2_with fail
  refine (E1.out _ D0).mono ?_
  rintro e w1 ⟨rfl, hb1⟩
  have D1 := chnN hb1 D0
  have V1 := V0.below hb1 V0.1
  have U1 := U0.below hb1 U0.1
  clear hb1 D0 V0 U0 E1
  obtain ⟨_, v0, v1, _⟩ := id V1
  obtain ⟨_, u0, u1, _⟩ := id U1
  go_wp2_with fail
  refine (E2.out _ D1).mono ?_
  rintro e w2 ⟨rfl, hb2⟩
  have D2 := chnN hb2 D1
  go_wp2_with fail
  go_ret
  exact ⟨rfl, D2⟩
end Go.Proofs.YtnkgjkoncglfjaaGreatDoor



namespace Go.Proofs.YtnkgjkoncglfjaaGreatDoor
open Go.RowKit

theorem parsed (s : ByteArray) (w : World) (hDL : DLn 1 w) : Calls Tryz.prog 4 #[.string s] w fun e w' => ParseOut w (netP s.data.toList) e w' := by
  by_cases h : 4096 < s.size
  · have e : netP s.data.toList = (([], []), 0, 2) := by
      unfold netP
      rw [if_pos (by simpa using h)]
    rw [e]
    exact parse_big s w h
  · exact parse_lines s w (by omega) hDL
set_option maxHeartbeats 4000000 in
set_option maxRecDepth 100000 in
theorem netReads_any (s : ByteArray) (w : World) (hDL : DLn 1 w) :
    Calls Tryz.prog 3 #[.string s] w fun e w' => e = .returned (.bool true) ∧ Below w.heap.size w w' := by
  have PA : Hid (Calls Tryz.prog 4 #[.string s] w fun e w' => ParseOut w (netP s.data.toList) e w') := parsed s w hDL
  have RN : Hid (∀ W, Calls Tryz.prog 5 #[.string s] W fun e w' => ParseOut W (netP s.data.toList) e w') := fun W => rdnet_any s W
  have SN : Hid (∀ W (vd vl ud ul : Value), Devs W.heap.size W vd (netP s.data.toList).1.1 → Links W.heap.size W vl (netP s.data.toList).1.2 → Devs W.heap.size W ud (netP s.data.toList).1.1 → Links W.heap.size W ul (netP s.data.toList).1.2 → Calls Tryz.prog 6 #[.agg #[vd, vl], .agg #[ud, ul]] W fun e w' => e = .returned (.bool true) ∧ Below W.heap.size W w') := fun W vd vl ud ul h1 h2 g1 g2 => same_net W h1 h2 g1 g2
  clear hDL
  generalize netP s.data.toList = o at *
  obtain ⟨⟨ds, ls⟩, at', er⟩ := o
  unfold ParseOut at PA RN
  dsimp only at *
  go_enter Tryz.func3, Tryz.ntmps3
  go_wp2_with fail
  refine PA.out.mono ?_
  rintro e wa ⟨hba, vd, vl, rfl, hDa, hLa⟩
  obtain ⟨A1, c1, rfl, _, _⟩ := SlAt.slice hDa
  obtain ⟨A2, c2, rfl, _, _⟩ := SlAt.slice hLa
  have Al := (Below.refl wa.heap.size wa).alloc (Nat.le_refl _) (.cells #[.slice A1 ds.length c1, .slice A2 ls.length c2] 25)
  have KA := blk_new wa #[.slice A1 ds.length c1, .slice A2 ls.length c2] 25
  clear PA
  go_wp2_with fail
  refine (RN.out _).mono ?_
  rintro e wb ⟨hbb, ud, ul, rfl, hDb, hLb⟩
  obtain ⟨A3, c3, rfl, _, _⟩ := SlAt.slice hDb
  obtain ⟨A4, c4, rfl, _, _⟩ := SlAt.slice hLb
  have E1 : Below wa.heap.size wa wb := Al.trans (hbb.mono Al.size)
  have Bl := (Below.refl wb.heap.size wb).alloc (Nat.le_refl _) (.cells #[.slice A3 ds.length c3, .slice A4 ls.length c4] 25)
  have KB := blk_new wb #[.slice A3 ds.length c3, .slice A4 ls.length c4] 25
  have KA2 := (KA.keep hbb).keep Bl
  have E2 := E1.trans (Bl.mono E1.size)
  have hDa2 := (Devs.below hDa E2).mono E2.size
  have hLa2 := (Links.below hLa E2).mono E2.size
  have hDb2 := (Devs.below hDb Bl).mono Bl.size
  have hLb2 := (Links.below hLb Bl).mono Bl.size
  have SC := SN.out _ _ _ _ _ hDa2 hLa2 hDb2 hLb2
  have SCH : Hid (Calls Tryz.prog 6 #[.agg #[.slice A1 ds.length c1, .slice A2 ls.length c2], .agg #[.slice A3 ds.length c3, .slice A4 ls.length c4]] (wb.alloc (.cells #[.slice A3 ds.length c3, .slice A4 ls.length c4] 25)) fun e w' => e = .returned (.bool true) ∧ Below (wb.alloc (.cells #[.slice A3 ds.length c3, .slice A4 ls.length c4] 25)).heap.size (wb.alloc (.cells #[.slice A3 ds.length c3, .slice A4 ls.length c4] 25)) w') := SC
  have DW : Below w.heap.size w (wb.alloc (.cells #[.slice A3 ds.length c3, .slice A4 ls.length c4] 25)) := hba.trans (E2.mono hba.size)
  have a0 := KA2.cell 0 _ rfl
  have a1 := KA2.cell 1 _ rfl
  have b0 := KB.cell 0 _ rfl
  have b1 := KB.cell 1 _ rfl
  clear hDa hLa hDb hLb hDa2 hLa2 hDb2 hLb2 SC SN RN E1 E2 Al Bl hba hbb KA KB KA2
  go_wp2_with fail
  refine SCH.out.mono ?_
  rintro e wc ⟨rfl, hbc⟩
  have DC := DW.trans (hbc.mono DW.size)
  clear a0 a1 b0 b1 SCH DW hbc
  go_wp2_with fail
  go_ret
  exact ⟨by simp, DC⟩
end Go.Proofs.YtnkgjkoncglfjaaGreatDoor

namespace Go.Proofs.YtnkgjkoncglfjaaGreatDoor
open Go.ChangeShapes Go.WideShapes Go.RowKit

theorem nLine : Tryz.prog.cellsOf 141 = 3 := by kernel_rfl
theorem nLines : Tryz.prog.cellsOf 142 = 15 := by kernel_rfl
set_option maxRecDepth 100000 in
theorem line_open {H : Type} {enc : TypeId × Value → H} {W : World} {sp : Nat → Bool} {held : Bool} {fuel : Nat} {cs : List Value} {bs : List UInt8} {a b : Int} {p : List MemPlace} (hl : cs.length = 3)
    (h : DataW.trod enc Tryz.prog W 0 sp held fuel 141 cs = some (.agg [.lit (.string bs), .lit (.int .i64 a), .lit (.int .i64 b)], p)) : cs = [.string ⟨bs.toArray⟩, .int .i64 a, .int .i64 b] := by
  obtain ⟨xs, k, hk, hxy, _, hxl, hf⟩ := DataW.trod_struct Tryz.underlying141 h
  match xs, hxl, cs, hl with
  | [y0, y1, y2], _, [v0, v1, v2], _ =>
    have g0 := hf 0 _ rfl
    have g1 := hf 1 _ rfl
    have g2 := hf 2 _ rfl
    simp [nInt, nStr] at g0 g1 g2
    obtain ⟨s, e0, q0, _⟩ := DataW.trod_string Tryz.underlying9 g0
    obtain ⟨x1, e1, q1, _⟩ := DataW.trod_int Tryz.underlying3 g1
    obtain ⟨x2, e2, q2, _⟩ := DataW.trod_int Tryz.underlying3 g2
    subst q0 q1 q2
    simp only [List.map_cons, List.map_nil, Prod.mk.injEq, DataW.agg.injEq, List.cons.injEq, DataW.lit.injEq, Lit.string.injEq, Lit.int.injEq, true_and, and_true] at hxy
    obtain ⟨⟨h0, h1, h2⟩, _⟩ := hxy
    subst h0 h1 h2
    simp only [List.cons.injEq, and_true] at e0 e1 e2
    subst e0 e1 e2
    simp
set_option maxRecDepth 100000 in
theorem lines_open {W : World} {fuel : Nat} {cs : Array Value} {p : List MemPlace}
    (h : DataW.trod (fun _ => ()) Tryz.prog W 0 (fun _ => true) false fuel 142 cs.toList = some (Rows.laid_wireward_net_deviceLines, p)) : cs = linesC := by
  obtain ⟨xs, m, _, hx, hl, hxl, hall⟩ := DataW.trod_array Tryz.underlying142 h
  rw [nLines] at hl
  have hsz : cs.size = 15 := by simpa using hl
  rw [nLine] at hall
  unfold Rows.laid_wireward_net_deviceLines at hx
  simp only [Prod.mk.injEq, DataW.agg.injEq] at hx
  have hm := hx.1
  match xs, hxl with
  | [⟨d0, p0⟩, ⟨d1, p1⟩, ⟨d2, p2⟩, ⟨d3, p3⟩, ⟨d4, p4⟩], _ =>
    simp only [List.map_cons, List.map_nil, List.cons.injEq, and_true] at hm
    obtain ⟨rfl, rfl, rfl, rfl, rfl⟩ := hm
    have a0 := line_open (by simp; omega) (hall 0 (by omega))
    have a1 := line_open (by simp; omega) (hall 1 (by omega))
    have a2 := line_open (by simp; omega) (hall 2 (by omega))
    have a3 := line_open (by simp; omega) (hall 3 (by omega))
    have a4 := line_open (by simp; omega) (hall 4 (by omega))
    obtain ⟨l⟩ := cs
    simp only at a0 a1 a2 a3 a4 hl
    have e : l = l.take 3 ++ ((l.drop 3).take 3 ++ ((l.drop 6).take 3 ++ ((l.drop 9).take 3 ++ (l.drop 12).take 3))) := by
      have t : ∀ n : Nat, l.drop n = (l.drop n).take 3 ++ l.drop (n + 3) := fun n => by
        conv => lhs; rw [← List.take_append_drop 3 (l.drop n)]
        rw [List.drop_drop]
      have t4 : (l.drop 12).take 3 = l.drop 12 := List.take_of_length_le (by simp; omega)
      rw [t4, ← t 9, ← t 6, ← t 3]
      exact (List.take_append_drop 3 l).symm
    simp only [Nat.zero_mul, List.drop_zero, Nat.one_mul, Nat.reduceMul] at a0 a1 a2 a3 a4
    rw [a0, a1, a2, a3, a4] at e
    rw [e]
    rfl
set_option maxRecDepth 100000 in
theorem lines_laid {W : World} (h : laidMet Tryz.prog Rows.netReadsRow.laid W) : DLn 1 W := by
  obtain ⟨ps, hv, _⟩ := h
  have hr : ∀ (l : List (String × DataW Unit)) (ps : List MemPlace), DataW.LaidVars Tryz.prog W l ps → ("wireward/net.deviceLines", Rows.laid_wireward_net_deviceLines) ∈ l → ∃ t cs fuel p, (Tryz.prog.globals[(1 : Nat)]?).map (·.type) = some t ∧ W.var? Tryz.prog "wireward/net.deviceLines" = some cs ∧ DataW.trod (fun _ => ()) Tryz.prog W 0 (fun _ => true) false fuel t cs.toList = some (Rows.laid_wireward_net_deviceLines, p) := by
    intro l
    induction l with
    | nil => intro ps _ hm; cases hm
    | cons x r ih =>
      intro ps hv hm
      obtain ⟨n, d⟩ := x
      obtain ⟨g, t, cs, fuel, p, q, h1, h2, h3, h4, h5, _⟩ := hv
      rcases List.mem_cons.1 hm with e | e
      · cases e
        have eg : Tryz.prog.globalNamed "wireward/net.deviceLines" = some 1 := by kernel_rfl
        rw [eg] at h1
        obtain rfl := Option.some.inj h1
        exact ⟨t, cs, fuel, p, h2, h3, h4⟩
      · exact ih q h5 e
  obtain ⟨t, cs, fuel, p, h2, h3, h4⟩ := hr _ _ hv (by unfold Rows.netReadsRow; simp)
  have et : (Tryz.prog.globals[(1 : Nat)]?).map (·.type) = some 142 := by kernel_rfl
  rw [et] at h2
  obtain rfl := Option.some.inj h2
  have ec := lines_open h4
  subst ec
  have eg : Tryz.prog.globalNamed "wireward/net.deviceLines" = some 1 := by kernel_rfl
  unfold World.var? at h3
  rw [eg] at h3
  simp only [Option.bind_some] at h3
  split at h3
  · rename_i c t' fr hh
    obtain rfl := Option.some.inj h3
    exact ⟨t', fr, hh⟩
  · cases h3
end Go.Proofs.YtnkgjkoncglfjaaGreatDoor
