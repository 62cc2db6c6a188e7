/-
  MatchSays: it returns true, whatever is handed in.
-/
import Derived.Test.YtejefincnjhlpaaDoorR3
import Derived.Test.YtejefincnjhlpaaDoorR6
import Derived.Test.YtejefincnjhlpaaDoorM8
import Derived.Test.YtejefincnjhlpaaDoorM7p
namespace Go.Proofs.YtejefincnjhlpaaDoor
open Go.RowKit

set_option maxHeartbeats 2000000 in
theorem rHas_any (a b c d : Nat) (p q r s : Int) (w : World) (ha : a < 65536) (hb : b < 65536) (hc : c < 256) (hd : d < 256) :
    Calls Tryd.prog 20 #[mt a b c d, pk p q r s] w fun e w' => e = .returned (.bool (inB a b c d p q r s)) ∧ Below w.heap.size w w' := by
  have k0 : Hid (∀ w, Calls Tryd.prog 39 #[.int .i64 (a : Int), .int .i64 p] w fun e w' => e = .returned (.bool (hasB a p)) ∧ w' = w) := fun w => rhas_any a p w ha
  have k1 : Hid (∀ w, Calls Tryd.prog 39 #[.int .i64 (b : Int), .int .i64 q] w fun e w' => e = .returned (.bool (hasB b q)) ∧ w' = w) := fun w => rhas_any b q w hb
  have k2 : Hid (∀ w, Calls Tryd.prog 39 #[.int .i64 (c : Int), .int .i64 r] w fun e w' => e = .returned (.bool (hasB c r)) ∧ w' = w) := fun w => rhas_any c r w (by omega)
  have k3 : Hid (∀ w, Calls Tryd.prog 39 #[.int .i64 (d : Int), .int .i64 s] w fun e w' => e = .returned (.bool (hasB d s)) ∧ w' = w) := fun w => rhas_any d s w (by omega)
  unfold inB
  generalize hasB a p = x0 at *
  generalize hasB b q = x1 at *
  generalize hasB c r = x2 at *
  generalize hasB d s = x3 at *
  cases x0
  · go_enter Tryd.func20, Tryd.ntmps20
    go_wp2_with fail
    refine (k0.out _).mono ?_
    rintro e w1 ⟨rfl, rfl⟩
    go_wp2_with fail
    go_ret
    exact ⟨by simp, by go_grown⟩
  cases x1
  · go_enter Tryd.func20, Tryd.ntmps20
    go_wp2_with fail
    refine (k0.out _).mono ?_
    rintro e w1 ⟨rfl, rfl⟩
    go_wp2_with fail
    refine (k1.out _).mono ?_
    rintro e w1 ⟨rfl, rfl⟩
    go_wp2_with fail
    go_ret
    exact ⟨by simp, by go_grown⟩
  cases x2
  · go_enter Tryd.func20, Tryd.ntmps20
    go_wp2_with fail
    refine (k0.out _).mono ?_
    rintro e w1 ⟨rfl, rfl⟩
    go_wp2_with fail
    refine (k1.out _).mono ?_
    rintro e w1 ⟨rfl, rfl⟩
    go_wp2_with fail
    refine (k2.out _).mono ?_
    rintro e w1 ⟨rfl, rfl⟩
    go_wp2_with fail
    go_ret
    exact ⟨by simp, by go_grown⟩
  · go_enter Tryd.func20, Tryd.ntmps20
    go_wp2_with fail
    refine (k0.out _).mono ?_
    rintro e w1 ⟨rfl, rfl⟩
    go_wp2_with fail
    refine (k1.out _).mono ?_
    rintro e w1 ⟨rfl, rfl⟩
    go_wp2_with fail
    refine (k2.out _).mono ?_
    rintro e w1 ⟨rfl, rfl⟩
    go_wp2_with fail
    refine (k3.out _).mono ?_
    rintro e w1 ⟨rfl, rfl⟩
    go_wp2_with fail
    go_ret
    exact ⟨by simp, by go_grown⟩

theorem four_fours {w' : World} {n1 n2 n3 n4 : Nat} {a1 b1 c1 d1 a2 b2 c2 d2 a3 b3 c3 d3 a4 b4 c4 d4 : Value} (h1 : Four w' n1 a1 b1 c1 d1) (h2 : Four w' n2 a2 b2 c2 d2) (h3 : Four w' n3 a3 b3 c3 d3) (h4 : Four w' n4 a4 b4 c4 d4) :
    w'.cell? ⟨n1, 0, none⟩ = some a1 ∧ w'.cell? ⟨n1, 1, none⟩ = some b1 ∧ w'.cell? ⟨n1, 2, none⟩ = some c1 ∧ w'.cell? ⟨n1, 3, none⟩ = some d1 ∧
    w'.cell? ⟨n2, 0, none⟩ = some a2 ∧ w'.cell? ⟨n2, 1, none⟩ = some b2 ∧ w'.cell? ⟨n2, 2, none⟩ = some c2 ∧ w'.cell? ⟨n2, 3, none⟩ = some d2 ∧
    w'.cell? ⟨n3, 0, none⟩ = some a3 ∧ w'.cell? ⟨n3, 1, none⟩ = some b3 ∧ w'.cell? ⟨n3, 2, none⟩ = some c3 ∧ w'.cell? ⟨n3, 3, none⟩ = some d3 ∧
    w'.cell? ⟨n4, 0, none⟩ = some a4 ∧ w'.cell? ⟨n4, 1, none⟩ = some b4 ∧ w'.cell? ⟨n4, 2, none⟩ = some c4 ∧ w'.cell? ⟨n4, 3, none⟩ = some d4 :=
  ⟨h1.2.1, h1.2.2.1, h1.2.2.2.1, h1.2.2.2.2, h2.2.1, h2.2.2.1, h2.2.2.2.1, h2.2.2.2.2, h3.2.1, h3.2.2.1, h3.2.2.2.1, h3.2.2.2.2, h4.2.1, h4.2.2.1, h4.2.2.2.1, h4.2.2.2.2⟩

set_option maxHeartbeats 4000000 in
set_option maxRecDepth 100000 in
theorem says_case (a b c d x0 x1 x2 x3 er : Nat) (p q r s : Int) (X : Bool) (t u : ByteArray) (w : World)
    (K1 : Hid (∀ w, Calls Tryd.prog 17 #[.string t] w fun e w' => e = .returned (.tuple #[mt x0 x1 x2 x3, .int .i64 (er : Int)]) ∧ Below w.heap.size w w'))
    (K2 : Hid (∀ w, Calls Tryd.prog 18 #[.string t] w fun e w' => e = .returned (.tuple #[mt x0 x1 x2 x3, .int .i64 (er : Int)]) ∧ Below w.heap.size w w'))
    (K3 : Hid (∀ w, Calls Tryd.prog 19 #[mt a b c d, pk p q r s] w fun e w' => e = .returned (.bool X) ∧ Below w.heap.size w w'))
    (K4 : Hid (∀ w, Calls Tryd.prog 20 #[mt a b c d, pk p q r s] w fun e w' => e = .returned (.bool X) ∧ Below w.heap.size w w'))
    (K5 : Hid (∀ w, Calls Tryd.prog 21 #[mt a b c d] w fun e w' => e = .returned (.string u) ∧ Below w.heap.size w w'))
    (K6 : Hid (∀ w, Calls Tryd.prog 22 #[mt a b c d] w fun e w' => e = .returned (.string u) ∧ Below w.heap.size w w')) :
    Calls Tryd.prog 4 #[mt a b c d, pk p q r s, .string t] w fun e w' => e = .returned (.bool true) ∧ Below w.heap.size w w' := by
  have F1 := allocFour (four_new w (.int .u16 (a : Int)) (.int .u16 (b : Int)) (.int .u8 (c : Int)) (.int .u8 (d : Int)) 41) (.cells #[.int .i64 p, .int .i64 q, .int .i64 r, .int .i64 s] 23)
  have F2 := four_new (w.alloc (.cells #[.int .u16 (a : Int), .int .u16 (b : Int), .int .u8 (c : Int), .int .u8 (d : Int)] 41)) (.int .i64 p) (.int .i64 q) (.int .i64 r) (.int .i64 s) 23
  have D1 := Below.alloc' (Below.alloc' (Below.refl w.heap.size w) (.cells #[.int .u16 (a : Int), .int .u16 (b : Int), .int .u8 (c : Int), .int .u8 (d : Int)] 41)) (.cells #[.int .i64 p, .int .i64 q, .int .i64 r, .int .i64 s] 23)
  rw [show (w.alloc (.cells #[.int .u16 (a : Int), .int .u16 (b : Int), .int .u8 (c : Int), .int .u8 (d : Int)] 41)).heap.size = w.heap.size + 1 by simp] at F2
  go_enter Tryd.func4, Tryd.ntmps4
  go_wp2_with fail
  refine (K1.out _).mono ?_
  rintro e w1 ⟨rfl, hb1⟩
  have G1 := allocFour (keepFour hb1 F1) (.cells #[.int .u16 (x0 : Int), .int .u16 (x1 : Int), .int .u8 (x2 : Int), .int .u8 (x3 : Int)] 41)
  have G2 := allocFour (keepFour hb1 F2) (.cells #[.int .u16 (x0 : Int), .int .u16 (x1 : Int), .int .u8 (x2 : Int), .int .u8 (x3 : Int)] 41)
  have G3 := four_new w1 (.int .u16 (x0 : Int)) (.int .u16 (x1 : Int)) (.int .u8 (x2 : Int)) (.int .u8 (x3 : Int)) 41
  have D2 := Below.alloc' (chain hb1 D1) (.cells #[.int .u16 (x0 : Int), .int .u16 (x1 : Int), .int .u8 (x2 : Int), .int .u8 (x3 : Int)] 41)
  clear F1 F2 D1 hb1 K1
  go_wp2_with fail
  refine (K2.out _).mono ?_
  rintro e w2 ⟨rfl, hb2⟩
  have H1 := (allocFour (keepFour hb2 G1) (.cells #[.int .u16 (x0 : Int), .int .u16 (x1 : Int), .int .u8 (x2 : Int), .int .u8 (x3 : Int)] 41)).drew
  have H2 := (allocFour (keepFour hb2 G2) (.cells #[.int .u16 (x0 : Int), .int .u16 (x1 : Int), .int .u8 (x2 : Int), .int .u8 (x3 : Int)] 41)).drew
  have H3 := (allocFour (keepFour hb2 G3) (.cells #[.int .u16 (x0 : Int), .int .u16 (x1 : Int), .int .u8 (x2 : Int), .int .u8 (x3 : Int)] 41)).drew
  have H4 := (four_new w2 (.int .u16 (x0 : Int)) (.int .u16 (x1 : Int)) (.int .u8 (x2 : Int)) (.int .u8 (x3 : Int)) 41).drew
  have D3 := (Below.alloc' (chain hb2 D2) (.cells #[.int .u16 (x0 : Int), .int .u16 (x1 : Int), .int .u8 (x2 : Int), .int .u8 (x3 : Int)] 41)).drew
  clear G1 G2 G3 D2 hb2 K2
  cases X
  all_goals
    go_wp2_with fail
    go_region_held3 (fun w' => w'.cell? ⟨w.heap.size, 0, none⟩ = some (.int .u16 (a : Int)) ∧ w'.cell? ⟨w.heap.size, 1, none⟩ = some (.int .u16 (b : Int)) ∧ w'.cell? ⟨w.heap.size, 2, none⟩ = some (.int .u8 (c : Int)) ∧ w'.cell? ⟨w.heap.size, 3, none⟩ = some (.int .u8 (d : Int)) ∧ w'.cell? ⟨w.heap.size + 1, 0, none⟩ = some (.int .i64 p) ∧ w'.cell? ⟨w.heap.size + 1, 1, none⟩ = some (.int .i64 q) ∧ w'.cell? ⟨w.heap.size + 1, 2, none⟩ = some (.int .i64 r) ∧ w'.cell? ⟨w.heap.size + 1, 3, none⟩ = some (.int .i64 s) ∧
        w'.cell? ⟨w1.heap.size, 0, none⟩ = some (.int .u16 (x0 : Int)) ∧ w'.cell? ⟨w1.heap.size, 1, none⟩ = some (.int .u16 (x1 : Int)) ∧ w'.cell? ⟨w1.heap.size, 2, none⟩ = some (.int .u8 (x2 : Int)) ∧ w'.cell? ⟨w1.heap.size, 3, none⟩ = some (.int .u8 (x3 : Int)) ∧ w'.cell? ⟨w2.heap.size, 0, none⟩ = some (.int .u16 (x0 : Int)) ∧ w'.cell? ⟨w2.heap.size, 1, none⟩ = some (.int .u16 (x1 : Int)) ∧ w'.cell? ⟨w2.heap.size, 2, none⟩ = some (.int .u8 (x2 : Int)) ∧ w'.cell? ⟨w2.heap.size, 3, none⟩ = some (.int .u8 (x3 : Int)))
      (exact four_fours (by assumption) (by assumption) (by assumption) (by assumption))
      (first
        | (go_at_call 19; refine (K3.out _).mono ?_; rintro e wz ⟨rfl, hbz⟩; have Dz := chain hbz (by assumption); have Pz := keepFour (n := w.heap.size) hbz (by assumption); have Qz := keepFour (n := w.heap.size + 1) hbz (by assumption); have Rz := keepFour (n := w1.heap.size) hbz (by assumption); have Tz := keepFour (n := w2.heap.size) hbz (by assumption); clear hbz)
        | (go_at_call 20; refine (K4.out _).mono ?_; rintro e wz ⟨rfl, hbz⟩; have Dz := chain hbz (by assumption); have Pz := keepFour (n := w.heap.size) hbz (by assumption); have Qz := keepFour (n := w.heap.size + 1) hbz (by assumption); have Rz := keepFour (n := w1.heap.size) hbz (by assumption); have Tz := keepFour (n := w2.heap.size) hbz (by assumption); clear hbz)
        | (go_at_call 21; refine (K5.out _).mono ?_; rintro e wz ⟨rfl, hbz⟩; have Dz := chain hbz (by assumption); have Pz := keepFour (n := w.heap.size) hbz (by assumption); have Qz := keepFour (n := w.heap.size + 1) hbz (by assumption); have Rz := keepFour (n := w1.heap.size) hbz (by assumption); have Tz := keepFour (n := w2.heap.size) hbz (by assumption); clear hbz)
        | (go_at_call 22; refine (K6.out _).mono ?_; rintro e wz ⟨rfl, hbz⟩; have Dz := chain hbz (by assumption); have Pz := keepFour (n := w.heap.size) hbz (by assumption); have Qz := keepFour (n := w.heap.size + 1) hbz (by assumption); have Rz := keepFour (n := w1.heap.size) hbz (by assumption); have Tz := keepFour (n := w2.heap.size) hbz (by assumption); clear hbz)
        | (go_at_call 23; refine (all_any _).mono ?_; rintro e wz ⟨rfl, hbz⟩; have Dz := chain hbz (by assumption); have Pz := keepFour (n := w.heap.size) hbz (by assumption); have Qz := keepFour (n := w.heap.size + 1) hbz (by assumption); have Rz := keepFour (n := w1.heap.size) hbz (by assumption); have Tz := keepFour (n := w2.heap.size) hbz (by assumption); clear hbz))
    go_wp2_with fail
    go_ret
    exact ⟨by simp, Dz⟩

theorem says_any (a b c d : Nat) (p q r s : Int) (t : ByteArray) (w : World) (ha : a < 65536) (hb : b < 65536) (hc : c < 256) (hd : d < 256) (hm : t.size ≤ maxLen) :
    Calls Tryd.prog 4 #[mt a b c d, pk p q r s, .string t] w fun e w' => e = .returned (.bool true) ∧ Below w.heap.size w w' :=
  says_case a b c d (Mt.matP t.data.toList).1.1 (Mt.matP t.data.toList).1.2.1 (Mt.matP t.data.toList).1.2.2.1 (Mt.matP t.data.toList).1.2.2.2 (Mt.matP t.data.toList).2 p q r s (inB a b c d p q r s) t ⟨(Mt.matT a b c d).toArray⟩ w
    (fun w => parse_any t w hm) (fun w => rread_any t w hm) (fun w => in_any a b c d p q r s w ha hb hc hd) (fun w => rHas_any a b c d p q r s w ha hb hc hd) (fun w => print_match a b c d w ha hb hc hd) (fun w => mtext_any a b c d w ha hb hc hd)
end Go.Proofs.YtejefincnjhlpaaDoor
