/-
  XAL.
-/
import Derived.Test.YtppbfikimalojaaGreatXAA
import Derived.Deep.RegionHeld3
import Derived.Test.YtppbfikimalojaaGreatXAK
import Derived.Test.YtppbfikimalojaaGreatXAJ
import Derived.Test.YtppbfikimalojaaGreatXAI
import Derived.Laws.Tables
import Derived.Deep.CutBlock
import Derived.Deep.DeepCutAuto
import Derived.Test.YtppbfikimalojaaGreatXLy
set_option maxHeartbeats 8000000
set_option maxRecDepth 100000
namespace Go.Proofs.YtppbfikimalojaaGreat
open Go.RowKit
theorem rin_any (n : Int) (w : World) : Calls Tryz.prog 8 #[.int .i64 n, .int .i64 0, .int .i64 15] w fun e w' => e = .returned (.bool (decide (0 <= n) && decide (n <= 15))) ∧ w' = w := by
 by_cases h0 : 0 <= n
 ·have t : decide (0 <= n) = true := by simp [h0]
  go_enter Tryz.func8, Tryz.ntmps8
  go_wp2_with fail
  go_ret
  exact ⟨by simp [h0], rfl⟩
 ·have t : decide (0 <= n) = false := by simp; omega
  go_enter Tryz.func8, Tryz.ntmps8
  go_wp2_with fail
  go_ret
  exact ⟨by simp, rfl⟩
theorem rhas_nat (b : Nat) (n : Nat) (w : World) (hn : n < 16) :
  Calls Tryz.prog 77 #[.int .i64 (b : Int), .int .i64 (n : Int)] w fun e w' => e = .returned (.bool (b.testBit n)) ∧ w' = w := by
 have t : (decide ((0 : Int) <= (n : Int)) && decide ((n : Int) <= 15)) = true := by simp; omega
 have he : Hid ((((b : Int) / 2 ^ n).tmod 2 == 1) = b.testBit n) := by
  show _ = _
  rw [Nat.testBit, Nat.one_and_eq_mod_two, show ((b : Int) / 2 ^ n) = ((b >>> n : Nat) : Int) by rw [Nat.shiftRight_eq_div_pow]; simp]
  have e : (((b >>> n : Nat) : Int).tmod 2) = (((b >>> n) % 2 : Nat) : Int) := rfl
  rw [e]
  have : (b >>> n) % 2 = 0 ∨ (b >>> n) % 2 = 1 := by omega
  rcases this with h | h <;> rw [h] <;> rfl
 go_enter Tryz.func77, Tryz.ntmps77
 go_wp2_with (go_at_call 8; refine (rin_any _ _).mono ?_; rintro e w' ⟨rfl, rfl⟩; rw [t])
 go_ret
 refine ⟨?_, rfl⟩
 rw [<- he.out]
 simp
theorem rhas_int (b : Nat) (n : Int) (w : World) (h1 : b < 65536) :
  Calls Tryz.prog 77 #[.int .i64 (b : Int), .int .i64 n] w fun e w' => e = .returned (.bool (hasB b n)) ∧ w' = w := by
 by_cases hn : 0 <= n ∧ n <= 15
 ·obtain ⟨k, rfl⟩ : ∃ k : Nat, n = k := ⟨n.toNat, by omega⟩
  have e : hasB b (k : Int) = b.testBit k := by simp [hasB]
  rw [e]
  exact rhas_nat b k w (by omega)
 ·have t : (decide ((0 : Int) <= n) && decide (n <= 15)) = false := by
   by_cases h : 0 <= n
   ·simp; omega
   ·simp; omega
  have e : hasB b n = false := by
   unfold hasB
   by_cases h : 0 <= n
   ·rw [Nat.testBit_lt_two_pow (Nat.lt_of_lt_of_le h1 (Nat.pow_le_pow_right (n := 2) (by omega) (show 16 <= n.toNat by omega)))]
    simp
   ·simp; omega
  rw [e]
  clear hn e
  go_enter Tryz.func77, Tryz.ntmps77
  go_wp2_with (go_at_call 8; refine (rin_any _ _).mono ?_; rintro e w' ⟨rfl, rfl⟩; rw [t])
  go_ret
  exact ⟨rfl, rfl⟩
theorem rHas_case (a b c d : Nat) (p q r s : Int) (w : World) (x0 x1 x2 x3 : Bool) (ha : a < 65536) (hb : b < 65536) (hc : c < 256) (hd : d < 256)
  (k0 : Hid (∀ w, Calls Tryz.prog 77 #[.int .i64 (a : Int), .int .i64 p] w fun e w' => e = .returned (.bool x0) ∧ w' = w))
  (k1 : Hid (∀ w, Calls Tryz.prog 77 #[.int .i64 (b : Int), .int .i64 q] w fun e w' => e = .returned (.bool x1) ∧ w' = w))
  (k2 : Hid (∀ w, Calls Tryz.prog 77 #[.int .i64 (c : Int), .int .i64 r] w fun e w' => e = .returned (.bool x2) ∧ w' = w))
  (k3 : Hid (∀ w, Calls Tryz.prog 77 #[.int .i64 (d : Int), .int .i64 s] w fun e w' => e = .returned (.bool x3) ∧ w' = w)) :
  Calls Tryz.prog 48 #[mt a b c d, pk p q r s] w fun e w' => e = .returned (.bool (x0 && x1 && x2 && x3)) ∧ Below w.heap.size w w' := by
 cases x0
 ·go_enter Tryz.func48, Tryz.ntmps48
  go_wp2_with fail
  refine (k0.out _).mono ?_
  rintro e w1 ⟨rfl, rfl⟩
  go_wp2_with fail
  go_ret
  exact ⟨by simp, by go_grown⟩
 cases x1
 ·go_enter Tryz.func48, Tryz.ntmps48
  go_wp2_with fail
  refine (k0.out _).mono ?_
  rintro e w1 ⟨rfl, rfl⟩
  go_wp2_with fail
  refine (k1.out _).mono ?_
  rintro e w1 ⟨rfl, rfl⟩
  go_wp2_with fail
  go_ret
  exact ⟨by simp, by go_grown⟩
 cases x2
 ·go_enter Tryz.func48, Tryz.ntmps48
  go_wp2_with fail
  refine (k0.out _).mono ?_
  rintro e w1 ⟨rfl, rfl⟩
  go_wp2_with fail
  refine (k1.out _).mono ?_
  rintro e w1 ⟨rfl, rfl⟩
  go_wp2_with fail
  refine (k2.out _).mono ?_
  rintro e w1 ⟨rfl, rfl⟩
  go_wp2_with fail
  go_ret
  exact ⟨by simp, by go_grown⟩
 ·go_enter Tryz.func48, Tryz.ntmps48
  go_wp2_with fail
  refine (k0.out _).mono ?_
  rintro e w1 ⟨rfl, rfl⟩
  go_wp2_with fail
  refine (k1.out _).mono ?_
  rintro e w1 ⟨rfl, rfl⟩
  go_wp2_with fail
  refine (k2.out _).mono ?_
  rintro e w1 ⟨rfl, rfl⟩
  go_wp2_with fail
  refine (k3.out _).mono ?_
  rintro e w1 ⟨rfl, rfl⟩
  go_wp2_with fail
  go_ret
  exact ⟨by simp, by go_grown⟩
theorem rHas_in (a b c d : Nat) (p q r s : Int) (w : World) (ha : a < 65536) (hb : b < 65536) (hc : c < 256) (hd : d < 256) :
  Calls Tryz.prog 48 #[mt a b c d, pk p q r s] w fun e w' => e = .returned (.bool (inB a b c d p q r s)) ∧ Below w.heap.size w w' :=
 rHas_case a b c d p q r s w _ _ _ _ ha hb hc hd (fun w => rhas_int a p w ha) (fun w => rhas_int b q w hb) (fun w => rhas_int c r w (by omega)) (fun w => rhas_int d s w (by omega))
theorem rlets_row (b o cap : Nat) (xs : List Rl) (p q s t : Int) (w : World) (hb : b < w.heap.size) (hn : xs.length <= cap) (hcap : cap <= maxLen) (hr : RAt w b o xs) :
  Calls Tryz.prog 75 #[.slice (some ⟨b, o, none⟩) xs.length cap, pk p q s t] w fun e w' => e = .returned (.bool (letsB xs p q s t)) ∧ Below w.heap.size w w' := by
 unfold maxLen at hcap
 have D0 := Below.alloc' (Below.refl w.heap.size w) (.cells #[.int .i64 p, .int .i64 q, .int .i64 s, .int .i64 t] 29)
 have F0 := four_new w (.int .i64 p) (.int .i64 q) (.int .i64 s) (.int .i64 t) 29
 go_enter Tryz.func75, Tryz.ntmps75
 go_wp2_with fail
 go_loopw [5] (fun i wr => ∃ k : Nat, i = .int .i64 (k : Int) ∧ k <= xs.length ∧ Below w.heap.size w wr ∧ Four wr w.heap.size (.int .i64 p) (.int .i64 q) (.int .i64 s) (.int .i64 t) ∧ letsB xs p q s t = letsB (xs.drop k) p q s t) (fun i _ => xs.length - (intOf i).toNat)
 case atStart => exact ⟨0, rfl, by omega, D0, F0, rfl⟩
 case round =>
  obtain ⟨k, rfl, hk, D1, F1, hl⟩ := hrel
  have Hl : Hid (letsB xs p q s t = letsB (xs.drop k) p q s t) := hl
  clear hl
  by_cases hlt : k < xs.length
  ·obtain ⟨r, hxk⟩ : ∃ r, xs[k]? = some r := ⟨_, List.getElem?_eq_getElem hlt⟩
   have RA := hr.below D1 hb
   obtain ⟨c0, c1, c2, c3, c4⟩ := RA.at hxk
   have Hd : Hid (letsB (xs.drop k) p q s t = if inR r p q s t then r.ok else letsB (xs.drop (k + 1)) p q s t) := letsB_drop hxk p q s t
   have IN : Hid (∀ w', Below wr.heap.size wr w' -> Calls Tryz.prog 48 #[mt r.a r.b r.c r.d, pk p q s t] w' fun e w'' => e = .returned (.bool (inR r p q s t)) ∧ Hid (Below w.heap.size w w'') ∧ Hid (Four w'' w.heap.size (.int .i64 p) (.int .i64 q) (.int .i64 s) (.int .i64 t)) ∧ w''.cell? ⟨b, o + k * 5, none⟩ = some (.bool r.ok) ∧ w''.cell? ⟨b, o + k * 5 + 1, none⟩ = some (.int .u16 (r.a : Int)) ∧ w''.cell? ⟨b, o + k * 5 + 2, none⟩ = some (.int .u16 (r.b : Int)) ∧ w''.cell? ⟨b, o + k * 5 + 3, none⟩ = some (.int .u8 (r.c : Int)) ∧ w''.cell? ⟨b, o + k * 5 + 4, none⟩ = some (.int .u8 (r.d : Int)) ∧ w''.cell? ⟨w.heap.size, 0, none⟩ = some (.int .i64 p) ∧ w''.cell? ⟨w.heap.size, 1, none⟩ = some (.int .i64 q) ∧ w''.cell? ⟨w.heap.size, 2, none⟩ = some (.int .i64 s) ∧ w''.cell? ⟨w.heap.size, 3, none⟩ = some (.int .i64 t)) := fun w' hw' =>
    (rHas_in r.a r.b r.c r.d p q s t w' r.ha r.hb r.hc r.hd).mono fun e w'' ⟨h1, h2⟩ => by
      have hB := hw'.trans (h2.mono hw'.size)
      have F2 := keepFour hB F1
      have hb' : b < wr.heap.size := Nat.lt_of_lt_of_le hb D1.size
      obtain ⟨y0, y1, y2, y3, y4⟩ := (RA.below hB hb').at hxk
      exact ⟨h1, chain hB D1, F2, y0, y1, y2, y3, y4, F2.2.1, F2.2.2.1, F2.2.2.2.1, F2.2.2.2.2⟩
   obtain ⟨l0, g0, g1, g2, g3⟩ := id F1
   have lw := D1.size
   have R0 : Below wr.heap.size wr wr.drew := (Below.refl _ _).drew
   have k1 : (0 : Int) <= (k : Int) := by omega
   have k2 : (k : Int) < (xs.length : Int) := by omega
   clear hr hxk RA
   generalize inR r p q s t = v at *
   generalize r.ok = ok at *
   generalize r.a = ra at *
   generalize r.b = rb at *
   generalize r.c = rc at *
   generalize r.d = rd at *
   go_wp2_with fail
   go_region_held3 (fun w' => w'.cell? ⟨b, o + k * 5, none⟩ = some (.bool ok) ∧ w'.cell? ⟨b, o + k * 5 + 1, none⟩ = some (.int .u16 (ra : Int)) ∧ w'.cell? ⟨b, o + k * 5 + 2, none⟩ = some (.int .u16 (rb : Int)) ∧ w'.cell? ⟨b, o + k * 5 + 3, none⟩ = some (.int .u8 (rc : Int)) ∧ w'.cell? ⟨b, o + k * 5 + 4, none⟩ = some (.int .u8 (rd : Int)) ∧ w'.cell? ⟨w.heap.size, 0, none⟩ = some (.int .i64 p) ∧ w'.cell? ⟨w.heap.size, 1, none⟩ = some (.int .i64 q) ∧ w'.cell? ⟨w.heap.size, 2, none⟩ = some (.int .i64 s) ∧ w'.cell? ⟨w.heap.size, 3, none⟩ = some (.int .i64 t)) (exact ⟨by assumption, by assumption, by assumption, by assumption, by assumption, by assumption, by assumption, by assumption, by assumption⟩)
    (first | (go_at_call 48; refine (IN.out _ (by assumption)).mono ?_; rintro e wn ⟨rfl, D3, F3, z0, z1, z2, z3, z4, z5, z6, z7, z8⟩))
   cases v
   ·go_wp2_with fail
    go_roundw
    case rel => exact ⟨k + 1, by go_num, by omega, D3.out, F3.out, by rw [Hl.out, Hd.out]; simp⟩
    case measure => simp [intOf]; omega
   ·go_wp2_with fail
    go_ret
    exact ⟨by rw [Hl.out, Hd.out]; simp, D3.out⟩
  ·go_wp2_with fail
   go_ret
   exact ⟨by rw [Hl.out, List.drop_eq_nil_of_le (by omega)]; rfl, D1⟩
theorem rlets_none (A : Option Addr) (cap : Nat) (p q s t : Int) (w : World) :
  Calls Tryz.prog 75 #[.slice A 0 cap, pk p q s t] w fun e w' => e = .returned (.bool false) ∧ Below w.heap.size w w' := by
 have D0 := Below.alloc' (Below.refl w.heap.size w) (.cells #[.int .i64 p, .int .i64 q, .int .i64 s, .int .i64 t] 29)
 go_enter Tryz.func75, Tryz.ntmps75
 go_wp2_with fail
 go_loopw [5] (fun i wr => i = .int .i64 0 ∧ Below w.heap.size w wr) (fun i _ => 0)
 case atStart => exact ⟨rfl, D0⟩
 case round =>
  obtain ⟨rfl, D1⟩ := hrel
  go_wp2_with fail
  go_ret
  exact ⟨rfl, D1⟩
theorem rlets_any {v : Value} {xs : List Rl} (p q s t : Int) (w : World) (h : Rules w.heap.size w v xs) :
  Calls Tryz.prog 75 #[v, pk p q s t] w fun e w' => e = .returned (.bool (letsB xs p q s t)) ∧ Below w.heap.size w w' := by
 obtain ⟨A, cap, rfl, _, h1, h2, h3⟩ := h
 by_cases hx : xs = []
 ·subst hx
  exact rlets_none A cap p q s t w
 ·obtain ⟨b, o, rfl, hb, hr⟩ := h3 hx
  exact rlets_row b o cap xs p q s t w hb h1 h2 hr
end Go.Proofs.YtppbfikimalojaaGreat
namespace Go.Proofs.YtppbfikimalojaaGreat
open Go.RowKit Go.Maps
structure HG (w : World) (g : Nat) (A L : Option Addr) (c d : Nat) (F : Option Addr) (cF : Nat) (ds : List Dv) (ls : List Lk) (FL : List Ft) (i q : Int) (p : Pk) (ch : Int) (dv : Dv) (kd : Int) (vb vr vt : Value) (D Q : Nat) (x : Pk) (W : World) : Prop where
 mn : MnAt W g A L c d F cF ds ls FL
 ba : Bk W w.heap.size #[.int .i64 i, .int .i64 q] 27
 bp : Bk W (w.heap.size + 1) #[.int .i64 p.s, .int .i64 p.d, .int .i64 p.sp, .int .i64 p.dp] 29
 bc : Bk W (w.heap.size + 1 + 1) #[.int .i64 ch] 3
 br : Bk W (w.heap.size + 1 + 1 + 1) #[.int .i64 0, .int .i64 0, .int .i64 0, .int .i64 0, .int .i64 0, .int .i64 0] 128
 bd : Bk W D #[.string dv.name, .int .i64 kd, .int .i64 dv.addr, .int .u8 (dv.pool : Int), vb, vr, vt] 56
 bq : Bk W Q #[.int .i64 x.s, .int .i64 x.d, .int .i64 x.sp, .int .i64 x.dp] 29
 hb : SlAt g W 1 IsI vb dv.backs
 hr : SlAt g W 5 IsRule vr dv.rules
 ht : SlAt g W 3 IsRoute vt dv.routes
 bl : Below w.heap.size w W
 lt : g < w.heap.size
 dq : w.heap.size + 1 + 1 + 1 < D ∧ D < Q
structure HB (w : World) (g : Nat) (A L : Option Addr) (c d : Nat) (F : Option Addr) (cF : Nat) (ds : List Dv) (ls : List Lk) (FL : List Ft) (i q : Int) (p : Pk) (ch : Int) (dv : Dv) (kd : Int) (vb vr vt : Value) (D : Nat) (W : World) : Prop where
 mn : MnAt W g A L c d F cF ds ls FL
 ba : Bk W w.heap.size #[.int .i64 i, .int .i64 q] 27
 bp : Bk W (w.heap.size + 1) #[.int .i64 p.s, .int .i64 p.d, .int .i64 p.sp, .int .i64 p.dp] 29
 bc : Bk W (w.heap.size + 1 + 1) #[.int .i64 ch] 3
 br : Bk W (w.heap.size + 1 + 1 + 1) #[.int .i64 0, .int .i64 0, .int .i64 0, .int .i64 0, .int .i64 0, .int .i64 0] 128
 bd : Bk W D #[.string dv.name, .int .i64 kd, .int .i64 dv.addr, .int .u8 (dv.pool : Int), vb, vr, vt] 56
 hb : SlAt g W 1 IsI vb dv.backs
 hr : SlAt g W 5 IsRule vr dv.rules
 ht : SlAt g W 3 IsRoute vt dv.routes
 bl : Below w.heap.size w W
 lt : g < w.heap.size
 dl : w.heap.size + 1 + 1 + 1 < D
section
variable {w W W' : World} {g : Nat} {A L : Option Addr} {c d : Nat} {F : Option Addr} {cF : Nat} {ds : List Dv} {ls : List Lk} {FL : List Ft} {i q : Int} {p : Pk} {ch : Int} {dv : Dv} {kd : Int} {vb vr vt : Value} {D Q : Nat} {x : Pk}
theorem HG.keep (h : HG w g A L c d F cF ds ls FL i q p ch dv kd vb vr vt D Q x W) (hb : Below W.heap.size W W') : HG w g A L c d F cF ds ls FL i q p ch dv kd vb vr vt D Q x W' :=
 have hg : Below g W W' := hb.mono (Nat.le_of_lt h.mn.blk.lt)
 ⟨h.mn.below hb, h.ba.keep hb, h.bp.keep hb, h.bc.keep hb, h.br.keep hb, h.bd.keep hb, h.bq.keep hb, SlAt.below h.hb hg (fun _ _ _ h => h), SlAt.below h.hr hg (fun _ _ _ h => h), SlAt.below h.ht hg (fun _ _ _ h => h), chnN hb h.bl, h.lt, h.dq⟩
theorem HG.put {x' : Pk} {j : Nat} {u : Value} (h : HG w g A L c d F cF ds ls FL i q p ch dv kd vb vr vt D Q x W) (hx : Bk (W.setCell ⟨Q, j, none⟩ u) Q #[.int .i64 x'.s, .int .i64 x'.d, .int .i64 x'.sp, .int .i64 x'.dp] 29) : HG w g A L c d F cF ds ls FL i q p ch dv kd vb vr vt D Q x' (W.setCell ⟨Q, j, none⟩ u) := by
 have hF : ∀ b, b ≠ Q -> (W.setCell ⟨Q, j, none⟩ u).heap[b]? = W.heap[b]? := fun b h => Below.heap_setCell W ⟨Q, j, none⟩ _ b h
 obtain ⟨d1, d2⟩ := h.dq
 have hg := h.lt
 have hsz : (W.setCell ⟨Q, j, none⟩ u).heap.size = W.heap.size := by simp [World.setCell]
 have bg : Below g W (W.setCell ⟨Q, j, none⟩ u) := ⟨rfl, rfl, rfl, by rw [hsz]; exact Nat.le_refl _, fun b hb => hF b (by omega)⟩
 exact ⟨h.mn.set h.bq (by omega) (by decide), (hF _ (by omega)).trans h.ba, (hF _ (by omega)).trans h.bp, (hF _ (by omega)).trans h.bc, (hF _ (by omega)).trans h.br, (hF _ (by omega)).trans h.bd, hx, SlAt.below h.hb bg (fun _ _ _ h => h), SlAt.below h.hr bg (fun _ _ _ h => h), SlAt.below h.ht bg (fun _ _ _ h => h), ⟨h.bl.os, h.bl.tape, h.bl.output, by rw [hsz]; exact h.bl.size, fun b hb => (hF b (by omega)).trans (h.bl.block b hb)⟩, hg, h.dq⟩
theorem HG.s0 (h : HG w g A L c d F cF ds ls FL i q p ch dv kd vb vr vt D Q x W) (n : Int) : HG w g A L c d F cF ds ls FL i q p ch dv kd vb vr vt D Q ⟨n, x.d, x.sp, x.dp⟩ (W.setCell ⟨Q, 0, none⟩ (.int .i64 n)) := h.put (h.bq.setS (j := 0) (.int .i64 n))
theorem HG.s1 (h : HG w g A L c d F cF ds ls FL i q p ch dv kd vb vr vt D Q x W) (n : Int) : HG w g A L c d F cF ds ls FL i q p ch dv kd vb vr vt D Q ⟨x.s, n, x.sp, x.dp⟩ (W.setCell ⟨Q, 1, none⟩ (.int .i64 n)) := h.put (h.bq.setS (j := 1) (.int .i64 n))
theorem HG.s2 (h : HG w g A L c d F cF ds ls FL i q p ch dv kd vb vr vt D Q x W) (n : Int) : HG w g A L c d F cF ds ls FL i q p ch dv kd vb vr vt D Q ⟨x.s, x.d, n, x.dp⟩ (W.setCell ⟨Q, 2, none⟩ (.int .i64 n)) := h.put (h.bq.setS (j := 2) (.int .i64 n))
theorem HG.s3 (h : HG w g A L c d F cF ds ls FL i q p ch dv kd vb vr vt D Q x W) (n : Int) : HG w g A L c d F cF ds ls FL i q p ch dv kd vb vr vt D Q ⟨x.s, x.d, x.sp, n⟩ (W.setCell ⟨Q, 3, none⟩ (.int .i64 n)) := h.put (h.bq.setS (j := 3) (.int .i64 n))
theorem HG.fact (h : HG w g A L c d F cF ds ls FL i q p ch dv kd vb vr vt D Q x W) {k : Nat} {f : Ft} (hf : FL[k]? = some f) : ∃ b o, F = some ⟨b, o, none⟩ ∧ W.cell? ⟨b, o + k * 6 + 1, none⟩ = some (.int .i64 f.p.s) ∧ W.cell? ⟨b, o + k * 6 + 1 + 2, none⟩ = some (.int .i64 f.p.sp) ∧ W.cell? ⟨b, o + k * 6 + 5, none⟩ = some (.int .i64 f.n) ∧ (0 : Int) <= (k : Int) ∧ (k : Int) < (FL.length : Int) := by
 obtain ⟨b, o, e, _, _, c1, _, c3, _, c5⟩ := h.mn.row.ft hf
 have := (List.getElem?_eq_some_iff.1 hf).1
 exact ⟨b, o, e, c1, c3, c5, by omega, by omega⟩
theorem HB.keep (h : HB w g A L c d F cF ds ls FL i q p ch dv kd vb vr vt D W) (hb : Below W.heap.size W W') : HB w g A L c d F cF ds ls FL i q p ch dv kd vb vr vt D W' :=
 have hg : Below g W W' := hb.mono (Nat.le_of_lt h.mn.blk.lt)
 ⟨h.mn.below hb, h.ba.keep hb, h.bp.keep hb, h.bc.keep hb, h.br.keep hb, h.bd.keep hb, SlAt.below h.hb hg (fun _ _ _ h => h), SlAt.below h.hr hg (fun _ _ _ h => h), SlAt.below h.ht hg (fun _ _ _ h => h), chnN hb h.bl, h.lt, h.dl⟩
theorem HB.drewN (h : HB w g A L c d F cF ds ls FL i q p ch dv kd vb vr vt D W) (n : Nat) : HB w g A L c d F cF ds ls FL i q p ch dv kd vb vr vt D (W.drewN n) := h.keep (belowNN (Below.refl _ _) n)
theorem HB.toG (h : HB w g A L c d F cF ds ls FL i q p ch dv kd vb vr vt D W) : HG w g A L c d F cF ds ls FL i q p ch dv kd vb vr vt D W.heap.size p (W.alloc (pkC p)) :=
 have k := h.keep ((Below.refl _ _).alloc (Nat.le_refl _) (pkC p))
 ⟨k.mn, k.ba, k.bp, k.bc, k.br, k.bd, bk_new W _ _, k.hb, k.hr, k.ht, k.bl, k.lt, k.dl, h.bd.lt⟩
def KN (k : Option Ft) (v : Value) (W : World) : Prop := match k with
 | none => v = .pointer none
 | some f => ∃ K, v = .pointer (some ⟨K, 0, none⟩) ∧ Bk W K #[.int .i64 f.i, .int .i64 f.p.s, .int .i64 f.p.d, .int .i64 f.p.sp, .int .i64 f.p.dp, .int .i64 f.n] 178
theorem KN.keep {k : Option Ft} {v : Value} (h : KN k v W) (hb : Below W.heap.size W W') : KN k v W' := by
 cases k with
 | none => exact h
 | some f =>
   obtain ⟨K, h1, h2⟩ := h
   exact ⟨K, h1, h2.keep hb⟩
theorem idx_any {is : Ft -> Bool} {j : Int} (h : Idx is FL j) : decide (0 <= j) = FL.any is := by
 rcases h with ⟨rfl, h⟩ | ⟨k, f, rfl, h1, h2, _⟩
 ·rw [find_no h]
  rfl
 ·rw [List.any_eq_true.2 ⟨f, List.mem_of_getElem? h1, List.find?_some h2⟩]
  simp
end
structure HFacts (w : World) (g : Nat) (A L : Option Addr) (c d : Nat) (F : Option Addr) (cF : Nat) (ds : List Dv) (ls : List Lk) (FL : List Ft) (i q : Int) (p : Pk) (ch : Int) (dv : Dv) (kd : Int) (vb vr vt : Value) (D Q : Nat) (G : Pk -> World -> Prop) : Prop where
 keep : ∀ {x W W'}, G x W -> Below W.heap.size W W' -> G x W'
 ca : ∀ {x W}, G x W -> W.cell? ⟨w.heap.size, 0, none⟩ = some (.int .i64 i) ∧ W.cell? ⟨w.heap.size, 1, none⟩ = some (.int .i64 q)
 cp : ∀ {x W}, G x W -> W.cell? ⟨w.heap.size + 1, 0, none⟩ = some (.int .i64 p.s) ∧ W.cell? ⟨w.heap.size + 1, 1, none⟩ = some (.int .i64 p.d) ∧ W.cell? ⟨w.heap.size + 1, 2, none⟩ = some (.int .i64 p.sp) ∧ W.cell? ⟨w.heap.size + 1, 3, none⟩ = some (.int .i64 p.dp)
 cc : ∀ {x W}, G x W -> W.cell? ⟨w.heap.size + 1 + 1, 0, none⟩ = some (.int .i64 ch)
 cd : ∀ {x W}, G x W -> W.cell? ⟨D, 1, none⟩ = some (.int .i64 kd) ∧ W.cell? ⟨D, 2, none⟩ = some (.int .i64 dv.addr) ∧ W.cell? ⟨D, 3, none⟩ = some (.int .u8 (dv.pool : Int)) ∧ W.cell? ⟨D, 4, none⟩ = some vb ∧ W.cell? ⟨D, 5, none⟩ = some vr ∧ W.cell? ⟨D, 6, none⟩ = some vt
 cg : ∀ {x W}, G x W -> W.cell? ⟨g, 0, none⟩ = some (.slice A ds.length c) ∧ W.cell? ⟨g, 1, none⟩ = some (.slice L ls.length d) ∧ W.cell? ⟨g, 2, none⟩ = some (.slice F FL.length cF)
 cq : ∀ {x W}, G x W -> W.cell? ⟨Q, 0, none⟩ = some (.int .i64 x.s) ∧ W.cell? ⟨Q, 1, none⟩ = some (.int .i64 x.d) ∧ W.cell? ⟨Q, 2, none⟩ = some (.int .i64 x.sp) ∧ W.cell? ⟨Q, 3, none⟩ = some (.int .i64 x.dp) ∧ W.frozen? ⟨Q, 0, none⟩ = false ∧ W.frozen? ⟨Q, 1, none⟩ = false ∧ W.frozen? ⟨Q, 2, none⟩ = false ∧ W.frozen? ⟨Q, 3, none⟩ = false
 bq : ∀ {x W}, G x W -> Bk W Q #[.int .i64 x.s, .int .i64 x.d, .int .i64 x.sp, .int .i64 x.dp] 29
 cr : ∀ {x W}, G x W -> Bk W (w.heap.size + 1 + 1 + 1) #[.int .i64 0, .int .i64 0, .int .i64 0, .int .i64 0, .int .i64 0, .int .i64 0] 128
 s0 : ∀ {x W}, G x W -> ∀ n, G ⟨n, x.d, x.sp, x.dp⟩ (W.setCell ⟨Q, 0, none⟩ (.int .i64 n))
 s1 : ∀ {x W}, G x W -> ∀ n, G ⟨x.s, n, x.sp, x.dp⟩ (W.setCell ⟨Q, 1, none⟩ (.int .i64 n))
 s2 : ∀ {x W}, G x W -> ∀ n, G ⟨x.s, x.d, n, x.dp⟩ (W.setCell ⟨Q, 2, none⟩ (.int .i64 n))
 s3 : ∀ {x W}, G x W -> ∀ n, G ⟨x.s, x.d, x.sp, n⟩ (W.setCell ⟨Q, 3, none⟩ (.int .i64 n))
 fact : ∀ {x W}, G x W -> ∀ {k : Nat} {f : Ft}, FL[k]? = some f -> ∃ b o, F = some ⟨b, o, none⟩ ∧ W.cell? ⟨b, o + k * 6 + 1, none⟩ = some (.int .i64 f.p.s) ∧ W.cell? ⟨b, o + k * 6 + 1 + 2, none⟩ = some (.int .i64 f.p.sp) ∧ W.cell? ⟨b, o + k * 6 + 5, none⟩ = some (.int .i64 f.n) ∧ (0 : Int) <= (k : Int) ∧ (k : Int) < (FL.length : Int)
 back : ∀ {x W}, G x W -> ∃ Ab cb, vb = .slice Ab dv.backs.length cb ∧ ∀ {k : Nat} {n : Int}, dv.backs[k]? = some n -> ∃ b o, Ab = some ⟨b, o, none⟩ ∧ W.cell? ⟨b, o + k, none⟩ = some (.int .i64 n)
 out : ∀ {x W}, G x W -> Calls Tryz.prog 74 #[vt, .int .i64 p.d] W fun e w' => e = .returned (.tuple #[.int .i64 (outN (routesOf dv) p.d), .bool (outB (routesOf dv) p.d)]) ∧ Below W.heap.size W w'
 lets : ∀ {x W}, G x W -> Calls Tryz.prog 75 #[vr, .agg #[.int .i64 p.s, .int .i64 p.d, .int .i64 p.sp, .int .i64 p.dp]] W fun e w' => e = .returned (.bool (letsB (rulesOf dv) p.s p.d p.sp p.dp)) ∧ Below W.heap.size W w'
 f1 : ∀ {x W}, G x W -> Calls Tryz.prog 96 #[.pointer (some ⟨g, 0, none⟩), .func (.func 97) #[] #[.pointer (some ⟨w.heap.size, 0, none⟩), .pointer (some ⟨w.heap.size + 1, 0, none⟩)]] W fun e w' => ∃ j : Int, e = .returned (.int .i64 j) ∧ Hid (Idx (ofFlow i (flipP p)) FL j) ∧ Below W.heap.size W w'
 f2 : ∀ {x W}, G x W -> Calls Tryz.prog 96 #[.pointer (some ⟨g, 0, none⟩), .func (.func 98) #[] #[.pointer (some ⟨w.heap.size, 0, none⟩), .pointer (some ⟨w.heap.size + 1, 0, none⟩)]] W fun e w' => ∃ j : Int, e = .returned (.int .i64 j) ∧ Hid (Idx (ofPort i p.dp) FL j) ∧ Below W.heap.size W w'
 f3 : ∀ {x W}, G x W -> ∀ (O : Nat) (o : Pk), Bk W O #[.int .i64 o.s, .int .i64 o.d, .int .i64 o.sp, .int .i64 o.dp] 29 -> Calls Tryz.prog 96 #[.pointer (some ⟨g, 0, none⟩), .func (.func 99) #[] #[.pointer (some ⟨w.heap.size, 0, none⟩), .pointer (some ⟨O, 0, none⟩)]] W fun e w' => ∃ j : Int, e = .returned (.int .i64 j) ∧ Hid (Idx (ofFlow i o) FL j) ∧ Below W.heap.size W w'
 f4 : ∀ {x W}, G x W -> Calls Tryz.prog 96 #[.pointer (some ⟨g, 0, none⟩), .func (.func 100) #[] #[.pointer (some ⟨w.heap.size, 0, none⟩), .pointer (some ⟨w.heap.size + 1 + 1, 0, none⟩)]] W fun e w' => ∃ j : Int, e = .returned (.int .i64 j) ∧ Hid (Idx (ofPort i ch) FL j) ∧ Below W.heap.size W w'
 f5 : ∀ {x W}, G x W -> ∀ (O : Nat) (o : Pk), Bk W O #[.int .i64 o.s, .int .i64 o.d, .int .i64 o.sp, .int .i64 o.dp] 29 -> Calls Tryz.prog 96 #[.pointer (some ⟨g, 0, none⟩), .func (.func 101) #[] #[.pointer (some ⟨w.heap.size, 0, none⟩), .pointer (some ⟨O, 0, none⟩), .pointer (some ⟨w.heap.size + 1, 0, none⟩)]] W fun e w' => ∃ j : Int, e = .returned (.int .i64 j) ∧ Hid (Idx (fun f => ftB f ⟨i, o, p.s⟩) FL j) ∧ Below W.heap.size W w'
 f6 : ∀ {x W}, G x W -> Calls Tryz.prog 96 #[.pointer (some ⟨g, 0, none⟩), .func (.func 102) #[] #[.pointer (some ⟨w.heap.size, 0, none⟩), .pointer (some ⟨w.heap.size + 1, 0, none⟩)]] W fun e w' => ∃ j : Int, e = .returned (.int .i64 j) ∧ Hid (Idx (ofFlow i p) FL j) ∧ Below W.heap.size W w'
 peer : ∀ {x W}, G x W -> ∀ port : Int, Calls Tryz.prog 35 #[.agg #[.slice A ds.length c, .slice L ls.length d], .agg #[.int .i64 i, .int .i64 port]] W fun e w' => e = .returned (.tuple #[placeV (peerF ls i port), .bool (peerF ls i port).isSome]) ∧ Below W.heap.size W w'
 cont : ∀ {x W}, G x W -> ∀ f : Ft, Calls Tryz.prog 103 #[.slice F FL.length cF, .agg #[.int .i64 f.i, .int .i64 f.p.s, .int .i64 f.p.d, .int .i64 f.p.sp, .int .i64 f.p.dp, .int .i64 f.n]] W fun e w' => e = .returned (.bool (FL.any (fun x => ftB x f))) ∧ Below W.heap.size W w'
 mn : ∀ {x W}, G x W -> MnAt W g A L c d F cF ds ls FL
 bl : ∀ {x W}, G x W -> Below w.heap.size w W
 hb : g < w.heap.size
theorem hg_facts (w : World) (g : Nat) (A L : Option Addr) (c d : Nat) (F : Option Addr) (cF : Nat) (ds : List Dv) (ls : List Lk) (FL : List Ft) (i q : Int) (p : Pk) (ch : Int) (dv : Dv) (kd : Int) (vb vr vt : Value) (D Q : Nat) (hlt : g < w.heap.size) : HFacts w g A L c d F cF ds ls FL i q p ch dv kd vb vr vt D Q (HG w g A L c d F cF ds ls FL i q p ch dv kd vb vr vt D Q) where
 keep h hb := h.keep hb
 ca h := h.ba.two
 cp h := ⟨h.bp.at 0, h.bp.at 1, h.bp.at 2, h.bp.at 3⟩
 cc h := h.bc.at 0
 cd h := ⟨h.bd.at 1, h.bd.at 2, h.bd.at 3, h.bd.at 4, h.bd.at 5, h.bd.at 6⟩
 cg h := ⟨h.mn.blk.at 0, h.mn.blk.at 1, h.mn.blk.at 2⟩
 cq h := h.bq.four
 bq h := h.bq
 cr h := h.br
 s0 h n := h.s0 n
 s1 h n := h.s1 n
 s2 h n := h.s2 n
 s3 h n := h.s3 n
 fact h _ _ hf := h.fact hf
 back h := by
  obtain ⟨Ab, cb, e, _, _, _, h3⟩ := h.hb
  refine ⟨Ab, cb, e, fun {k n} hk => ?_⟩
  obtain ⟨b, o, ea, _, hr⟩ := h3 (fun e => by rw [e] at hk; cases hk)
  obtain ⟨cs, hl, hc, hcs⟩ := hr k n hk
  unfold IsI at hc
  subst hc
  have := hcs 0 _ rfl
  rw [Nat.mul_one, Nat.add_zero] at this
  exact ⟨b, o, ea, this⟩
 out h := rout_any p.d _ (routes_of (SlAt.mono h.ht (Nat.le_of_lt h.mn.blk.lt) (fun _ _ _ h => h)))
 lets h := rlets_any p.s p.d p.sp p.dp _ (rules_of (SlAt.mono h.hr (Nat.le_of_lt h.mn.blk.lt) (fun _ _ _ h => h)))
 f1 h := find_c1 _ _ g _ _ F cF FL _ _ _ (Nat.le_refl _) h.mn.blk h.mn.row (fun f W' hb => clo1 f i q p _ _ W' (h.keep hb).ba (h.keep hb).bp)
 f2 h := find_c2 _ _ g _ _ F cF FL _ _ _ (Nat.le_refl _) h.mn.blk h.mn.row (fun f W' hb => clo2 f i q p _ _ W' (h.keep hb).ba (h.keep hb).bp)
 f3 h O o hO := find_c3 _ _ g _ _ F cF FL _ _ _ (Nat.le_refl _) h.mn.blk h.mn.row (fun f W' hb => clo3 f i q o _ _ W' (h.keep hb).ba (hO.keep hb))
 f4 h := find_c4 _ _ g _ _ F cF FL _ _ _ (Nat.le_refl _) h.mn.blk h.mn.row (fun f W' hb => clo4 f i q ch _ _ W' (h.keep hb).ba (h.keep hb).bc)
 f5 h O o hO := find_c5 _ _ _ g _ _ F cF FL _ _ _ (Nat.le_refl _) h.mn.blk h.mn.row (fun f W' hb => clo5 f i q p o _ _ _ W' (h.keep hb).ba (hO.keep hb) (h.keep hb).bp)
 f6 h := find_c6 _ _ g _ _ F cF FL _ _ _ (Nat.le_refl _) h.mn.blk h.mn.row (fun f W' hb => clo6 f i q p _ _ W' (h.keep hb).ba (h.keep hb).bp)
 peer h port := rpeer_any _ L ls.length d ls i port _ (h.mn.links.mono (Nat.le_of_lt h.mn.blk.lt))
 cont h f := contains_ft F cF FL f _ _ (Nat.le_refl _) h.mn.row
 mn h := h.mn
 bl h := h.bl
 hb := hlt
theorem wp_build3 {P : Program} {o : Oper} {a : Act} {w : World} {K : Act -> World -> Prop} {Q : Exit -> Act -> World -> Prop} (t : TypeId) (x0 x1 x2 : Operand) (n0 n1 n2 : Nat) (ho : o.op = .build t #[(n0, x0), (n1, x1), (n2, x2)]) (v0 v1 v2 : Value) (cells : Array Value) (hr : (Instr.build t #[(n0, v0), (n1, v1), (n2, v2)]).run P w = .ok (.agg cells) w)
  (h0 : a.eval x0 = v0) (h1 : a.eval x1 = v1) (h2 : a.eval x2 = v2) (h : K (a.put o.dst (.agg cells)) w) : o.wp P a w K Q := by
 unfold Oper.wp execOp
 simp only [ho, List.map_toArray, List.map_cons, List.map_nil, h0, h1, h2, Sem.run_bind, hr, Result.andThen_ok]
 exact h
theorem wp_build2 {P : Program} {o : Oper} {a : Act} {w : World} {K : Act -> World -> Prop} {Q : Exit -> Act -> World -> Prop} (t : TypeId) (x0 x1 : Operand) (n0 n1 : Nat) (ho : o.op = .build t #[(n0, x0), (n1, x1)]) (v0 v1 : Value) (cells : Array Value) (hr : (Instr.build t #[(n0, v0), (n1, v1)]).run P w = .ok (.agg cells) w)
  (h0 : a.eval x0 = v0) (h1 : a.eval x1 = v1) (h : K (a.put o.dst (.agg cells)) w) : o.wp P a w K Q := by
 unfold Oper.wp execOp
 simp only [ho, List.map_toArray, List.map_cons, List.map_nil, h0, h1, Sem.run_bind, hr, Result.andThen_ok]
 exact h
theorem wp_build4 {P : Program} {o : Oper} {a : Act} {w : World} {K : Act -> World -> Prop} {Q : Exit -> Act -> World -> Prop} (t : TypeId) (x0 x1 x2 x3 : Operand) (n0 n1 n2 n3 : Nat) (ho : o.op = .build t #[(n0, x0), (n1, x1), (n2, x2), (n3, x3)]) (v0 v1 v2 v3 : Value) (cells : Array Value) (hr : (Instr.build t #[(n0, v0), (n1, v1), (n2, v2), (n3, v3)]).run P w = .ok (.agg cells) w)
  (h0 : a.eval x0 = v0) (h1 : a.eval x1 = v1) (h2 : a.eval x2 = v2) (h3 : a.eval x3 = v3) (h : K (a.put o.dst (.agg cells)) w) : o.wp P a w K Q := by
 unfold Oper.wp execOp
 simp only [ho, List.map_toArray, List.map_cons, List.map_nil, h0, h1, h2, h3, Sem.run_bind, hr, Result.andThen_ok]
 exact h
theorem yields_build3 {P : Program} {ops : Array Oper} {S : World -> Prop} {o : Oper} {a : Act} (hw : Region.wanted o (yielded ops a.tmps) = true) (t : TypeId) (x0 x1 x2 : Operand) (n0 n1 n2 : Nat) (ho : o.op = .build t #[(n0, x0), (n1, x1), (n2, x2)]) (v0 v1 v2 : Value) (cells : Array Value) (hr : ∀ w, (Instr.build t #[(n0, v0), (n1, v1), (n2, v2)]).run P w = .ok (.agg cells) w)
  (h0 : a.eval x0 = v0) (h1 : a.eval x1 = v1) (h2 : a.eval x2 = v2) : YieldsIf P ops S o (.agg cells) a := by
 refine Or.inl ⟨hw, fun w _ => ?_⟩
 unfold execOp
 simp only [ho, List.map_toArray, List.map_cons, List.map_nil, h0, h1, h2, Sem.run_bind, hr, Result.andThen_ok]
 rfl
theorem yields_build2 {P : Program} {ops : Array Oper} {S : World -> Prop} {o : Oper} {a : Act} (hw : Region.wanted o (yielded ops a.tmps) = true) (t : TypeId) (x0 x1 : Operand) (n0 n1 : Nat) (ho : o.op = .build t #[(n0, x0), (n1, x1)]) (v0 v1 : Value) (cells : Array Value) (hr : ∀ w, (Instr.build t #[(n0, v0), (n1, v1)]).run P w = .ok (.agg cells) w)
  (h0 : a.eval x0 = v0) (h1 : a.eval x1 = v1) : YieldsIf P ops S o (.agg cells) a := by
 refine Or.inl ⟨hw, fun w _ => ?_⟩
 unfold execOp
 simp only [ho, List.map_toArray, List.map_cons, List.map_nil, h0, h1, Sem.run_bind, hr, Result.andThen_ok]
 rfl
theorem pk_build2 (a c : Int) (w : World) : (Instr.build 29 #[(0, .int .i64 a), (2, .int .i64 c)]).run Tryz.prog w = .ok (.agg #[.int .i64 a, .int .i64 0, .int .i64 c, .int .i64 0]) w := by
 refine run_build w _ _ _ ?_
 kernel_rfl
theorem pk_build4 (a b c d : Int) (w : World) : (Instr.build 29 #[(0, .int .i64 a), (2, .int .i64 c), (1, .int .i64 b), (3, .int .i64 d)]).run Tryz.prog w = .ok (.agg #[.int .i64 a, .int .i64 b, .int .i64 c, .int .i64 d]) w := by
 refine run_build w _ _ _ ?_
 kernel_rfl
theorem pl_build2 (a b : Int) (w : World) : (Instr.build 27 #[(0, .int .i64 a), (1, .int .i64 b)]).run Tryz.prog w = .ok (.agg #[.int .i64 a, .int .i64 b]) w := by
 refine run_build w _ _ _ ?_
 kernel_rfl
theorem fact_build (i n : Int) (p : Pk) (w : World) : (Instr.build 178 #[(0, .int .i64 i), (1, .agg #[.int .i64 p.s, .int .i64 p.d, .int .i64 p.sp, .int .i64 p.dp]), (2, .int .i64 n)]).run Tryz.prog w = .ok (.agg #[.int .i64 i, .int .i64 p.s, .int .i64 p.d, .int .i64 p.sp, .int .i64 p.dp, .int .i64 n]) w := by
 refine run_build w _ _ _ ?_
 kernel_rfl
theorem fact_build0 (i : Int) (p : Pk) (w : World) : (Instr.build 178 #[(0, .int .i64 i), (1, .agg #[.int .i64 p.s, .int .i64 p.d, .int .i64 p.sp, .int .i64 p.dp]), (2, .int .i64 0)]).run Tryz.prog w = .ok (.agg #[.int .i64 i, .int .i64 p.s, .int .i64 p.d, .int .i64 p.sp, .int .i64 p.dp, .int .i64 0]) w := fact_build i 0 p w
theorem arrival_build (x y : Int) (p : Pk) (w : World) : (Instr.build 128 #[(0, .agg #[.int .i64 x, .int .i64 y]), (1, .agg #[.int .i64 p.s, .int .i64 p.d, .int .i64 p.sp, .int .i64 p.dp])]).run Tryz.prog w = .ok (.agg #[.int .i64 x, .int .i64 y, .int .i64 p.s, .int .i64 p.d, .int .i64 p.sp, .int .i64 p.dp]) w := by
 refine run_build w _ _ _ ?_
 kernel_rfl
def fBlock : Code -> Option Code
 | .block n c => some (.block n c)
 | .seq a b => match fBlock a with
   | some c => some c
   | none => fBlock b
 | .cond _ a b => match fBlock a with
   | some c => some c
   | none => fBlock b
 | .scope c => fBlock c
 | _ => none
def isReg (n : Nat) : Code -> Bool
 | .region m _ _ => m == n
 | _ => false
def fFrom (n : Nat) : Code -> Option Code
 | .seq a b => if isReg n a then some (.seq a b) else match fFrom n a with
   | some c => some c
   | none => fFrom n b
 | .cond _ a b => match fFrom n a with
   | some c => some c
   | none => fFrom n b
 | .block _ c => fFrom n c
 | .scope c => fFrom n c
 | _ => none
noncomputable def swCode : Code := ((Tryz.f55.body.bind fBlock).getD .skip)
noncomputable def QZ (R : Ending -> World -> Prop) : Exit -> Act -> World -> Prop := bodyPost Tryz.prog Tryz.f55 R
noncomputable def reCode : Code := ((Tryz.f55.body.bind (fFrom 49)).getD .skip)
def SwR (w : World) (g D Q : Nat) (kd : Int) (c1 c2 c3 c4 c21 c22 c23 c24 c25 c26 c27 c28 c29 c30 c31 c32 c33 c34 c35 c36 c37 c38 c39 c40 c41 c42 c43 c44 c45 c46 c47 c48 c49 c50 c51 c52 c53 c54 c55 c56 c57 c58 c59 c60 c61 c62 c63 c64 c65 c66 c67 c68 c69 c70 c252 c253 c254 c255 c256 c257 c258 c259 c260 c261 c262 c263 c264 c265 c266 c267 c268 c269 c270 c271 c272 c273 c274 c275 c276 c277 c278 c279 c280 c281 c282 c283 c284 c285 c286 c287 c288 c289 c290 c291 c292 c293 c294 c295 c296 c297 c298 : Value) (rel : Value -> Value -> Value -> World -> Prop) (a' : Act) (w' : World) : Prop := ∃ u11 u12 u14 u15 u16 u17 u18 u19 u20 u72 u73 u74 u75 u76 u77 u78 u79 u80 u81 u82 u83 u84 u85 u86 u87 u88 u89 u90 u91 u92 u93 u94 u95 u96 u97 u98 u99 u100 u101 u102 u103 u104 u105 u106 u107 u108 u109 u110 u111 u112 u113 u114 u115 u116 u117 u118 u119 u120 u121 u122 u123 u124 u125 u126 u127 u128 u129 u130 u131 u132 u133 u134 u135 u136 u137 u138 u139 u140 u141 u142 u143 u144 u145 u146 u147 u148 u149 u150 u151 u152 u153 u154 u155 u156 u157 u158 u159 u160 u161 u162 u163 u164 u165 u166 u167 u168 u169 u170 u171 u172 u173 u174 u175 u176 u177 u178 u179 u180 u181 u182 u183 u184 u185 u186 u187 u188 u189 u190 u191 u192 u193 u194 u195 u196 u197 u198 u199 u200 u201 u202 u203 u204 u205 u206 u207 u208 u209 u210 u211 u212 u213 u214 u215 u216 u217 u218 u219 u220 u221 u222 u223 u224 u225 u226 u227 u228 u229 u230 u231 u232 u233 u234 u235 u236 u237 u238 u239 u240 u241 u242 u243 u244 u245 u246 u247 u248 u249 u250 u251 : Value, rel u11 u12 u14 w' ∧ a' = ⟨#[.pointer (some ⟨g, 0, none⟩), c1, c2, c3, c4, .pointer (some ⟨w.heap.size, 0, none⟩), .pointer (some ⟨w.heap.size + 1, 0, none⟩), .pointer (some ⟨w.heap.size + 1 + 1, 0, none⟩), .pointer (some ⟨w.heap.size + 1 + 1 + 1, 0, none⟩), .int .i64 0, .pointer (some ⟨D, 0, none⟩), u11, u12, .pointer (some ⟨Q, 0, none⟩), u14, u15, u16, u17, u18, u19, u20, c21, c22, c23, c24, c25, c26, c27, c28, c29, c30, c31, c32, c33, c34, c35, c36, c37, c38, c39, c40, c41, c42, c43, c44, c45, c46, c47, c48, c49, c50, c51, c52, c53, c54, c55, c56, c57, c58, c59, c60, c61, c62, c63, c64, c65, c66, c67, c68, c69, c70, .int .i64 kd, u72, u73, u74, u75, u76, u77, u78, u79, u80, u81, u82, u83, u84, u85, u86, u87, u88, u89, u90, u91, u92, u93, u94, u95, u96, u97, u98, u99, u100, u101, u102, u103, u104, u105, u106, u107, u108, u109, u110, u111, u112, u113, u114, u115, u116, u117, u118, u119, u120, u121, u122, u123, u124, u125, u126, u127, u128, u129, u130, u131, u132, u133, u134, u135, u136, u137, u138, u139, u140, u141, u142, u143, u144, u145, u146, u147, u148, u149, u150, u151, u152, u153, u154, u155, u156, u157, u158, u159, u160, u161, u162, u163, u164, u165, u166, u167, u168, u169, u170, u171, u172, u173, u174, u175, u176, u177, u178, u179, u180, u181, u182, u183, u184, u185, u186, u187, u188, u189, u190, u191, u192, u193, u194, u195, u196, u197, u198, u199, u200, u201, u202, u203, u204, u205, u206, u207, u208, u209, u210, u211, u212, u213, u214, u215, u216, u217, u218, u219, u220, u221, u222, u223, u224, u225, u226, u227, u228, u229, u230, u231, u232, u233, u234, u235, u236, u237, u238, u239, u240, u241, u242, u243, u244, u245, u246, u247, u248, u249, u250, u251, c252, c253, c254, c255, c256, c257, c258, c259, c260, c261, c262, c263, c264, c265, c266, c267, c268, c269, c270, c271, c272, c273, c274, c275, c276, c277, c278, c279, c280, c281, c282, c283, c284, c285, c286, c287, c288, c289, c290, c291, c292, c293, c294, c295, c296, c297, c298], []⟩
def Rets (w : World) (g : Nat) (A L : Option Addr) (c d : Nat) (F : Option Addr) (ds : List Dv) (ls : List Lk) (FL : List Ft) (r : MR) (QQ : Exit -> Act -> World -> Prop) : Prop :=
 ∀ (a : Act) (W : World), a.defers = [] -> a.eval (.tmp 8) = .pointer (some ⟨w.heap.size + 1 + 1 + 1, 0, none⟩) -> a.eval (.tmp 9) = .int .i64 r.err -> r.err ≠ 0 -> Bk W (w.heap.size + 1 + 1 + 1) #[.int .i64 0, .int .i64 0, .int .i64 0, .int .i64 0, .int .i64 0, .int .i64 0] 128 -> MOut w g A L c d F ds ls FL W -> QQ .ret a W
theorem Bk.zero6 {W : World} {k : Nat} {t : TypeId} (h : Bk W k #[.int .i64 0, .int .i64 0, .int .i64 0, .int .i64 0, .int .i64 0, .int .i64 0] t) : Bk ((((((W.setCell ⟨k, 0, none⟩ (.int .i64 0)).setCell ⟨k, 1, none⟩ (.int .i64 0)).setCell ⟨k, 2, none⟩ (.int .i64 0)).setCell ⟨k, 3, none⟩ (.int .i64 0)).setCell ⟨k, 4, none⟩ (.int .i64 0)).setCell ⟨k, 5, none⟩ (.int .i64 0)) k #[.int .i64 0, .int .i64 0, .int .i64 0, .int .i64 0, .int .i64 0, .int .i64 0] t := (((((h.setS _).setS _).setS _).setS _).setS _).setS _
theorem res8 {a : Act} {W : World} {k : Nat} {c0 c1 c2 c3 c4 c5 : Int} {e : Int} (e8 : a.eval (.tmp 8) = .pointer (some ⟨k, 0, none⟩)) (e9 : a.eval (.tmp 9) = .int .i64 e) (hB : Bk W k #[.int .i64 c0, .int .i64 c1, .int .i64 c2, .int .i64 c3, .int .i64 c4, .int .i64 c5] 128) : (results Tryz.f55 a.tmps).run Tryz.prog W = .ok (.tuple #[.agg #[.int .i64 c0, .int .i64 c1, .int .i64 c2, .int .i64 c3, .int .i64 c4, .int .i64 c5], .int .i64 e]) W := by
 obtain ⟨⟨l0, l1, l2, l3, l4, l5⟩, _⟩ := hB.six
 obtain ⟨tm, df⟩ := a
 have e8' : tm[8]?.getD undef = .pointer (some ⟨k, 0, none⟩) := by simpa [Act.eval] using e8
 have e9' : tm[9]?.getD undef = .int .i64 e := by simpa [Act.eval] using e9
 simp [results, Tryz.results55, go_sem, e8', e9', l0, l1, l2, l3, l4, l5]
theorem hasB_pool {dv : Dv} {ch : Int} (h : poB ch = true) : hasB dv.pool ch = poolB dv ch := by
 unfold poolB
 rw [h]
 unfold poB at h
 simp only [Bool.and_eq_true, decide_eq_true_eq] at h
 unfold hasB
 simp only [Bool.true_and]
 first
  | (rw [show decide (0 <= ch) = true by simp; omega]; simp; done)
  | (simp; omega)
theorem sw_k2 {w w8 : World} {g b o : Nat} {L : Option Addr} {c d : Nat} {F : Option Addr} {cF : Nat} {ds : List Dv} {ls : List Lk} {FL : List Ft} {j : Nat} {q : Int} {p : Pk} {ch : Int} {dv : Dv} {Ab Ar At : Option Addr} {nb cb nr cr nt ct : Nat} {D Q : Nat} {G : Pk -> World -> Prop} {r : MR} (HR : Hid (mSend dv FL (j : Int) q p ch = r)) (HKK : Hid (dv.kind = 2)) (FX : HFacts w g (some ⟨b, o, none⟩) L c d F cF ds ls FL (j : Int) q p ch dv 2 (.slice Ab nb cb) (.slice Ar nr cr) (.slice At nt ct) D Q G) (G8 : G p w8) (R : Ending -> World -> Prop) (hret : Hid (Rets w g (some ⟨b, o, none⟩) L c d F ds ls FL r (QZ R))) (c1 c2 c3 c4 c15 c16 c17 c18 c19 c20 c21 c22 c23 c24 c25 c26 c27 c28 c29 c30 c31 c32 c33 c34 c35 c36 c37 c38 c39 c40 c41 c42 c43 c44 c45 c46 c47 c48 c49 c50 c51 c52 c53 c54 c55 c56 c57 c58 c59 c60 c61 c62 c63 c64 c65 c66 c67 c68 c69 c70 c72 c73 c74 c75 c76 c77 c78 c79 c80 c81 c82 c83 c84 c85 c86 c87 c88 c89 c90 c91 c92 c93 c94 c95 c96 c97 c98 c99 c100 c101 c102 c103 c104 c105 c106 c107 c108 c109 c110 c111 c112 c113 c114 c115 c116 c117 c118 c119 c120 c121 c122 c123 c124 c125 c126 c127 c128 c129 c130 c131 c132 c133 c134 c135 c136 c137 c138 c139 c140 c141 c142 c143 c144 c145 c146 c147 c148 c149 c150 c151 c152 c153 c154 c155 c156 c157 c158 c159 c160 c161 c162 c163 c164 c165 c166 c167 c168 c169 c170 c171 c172 c173 c174 c175 c176 c177 c178 c179 c180 c181 c182 c183 c184 c185 c186 c187 c188 c189 c190 c191 c192 c193 c194 c195 c196 c197 c198 c199 c200 c201 c202 c203 c204 c205 c206 c207 c208 c209 c210 c211 c212 c213 c214 c215 c216 c217 c218 c219 c220 c221 c222 c223 c224 c225 c226 c227 c228 c229 c230 c231 c232 c233 c234 c235 c236 c237 c238 c239 c240 c241 c242 c243 c244 c245 c246 c247 c248 c249 c250 c251 c252 c253 c254 c255 c256 c257 c258 c259 c260 c261 c262 c263 c264 c265 c266 c267 c268 c269 c270 c271 c272 c273 c274 c275 c276 c277 c278 c279 c280 c281 c282 c283 c284 c285 c286 c287 c288 c289 c290 c291 c292 c293 c294 c295 c296 c297 c298 : Value) (J K' : Act -> World -> Prop) (h1 : ∀ a' w', SwR w g D Q 2 c1 c2 c3 c4 c21 c22 c23 c24 c25 c26 c27 c28 c29 c30 c31 c32 c33 c34 c35 c36 c37 c38 c39 c40 c41 c42 c43 c44 c45 c46 c47 c48 c49 c50 c51 c52 c53 c54 c55 c56 c57 c58 c59 c60 c61 c62 c63 c64 c65 c66 c67 c68 c69 c70 c252 c253 c254 c255 c256 c257 c258 c259 c260 c261 c262 c263 c264 c265 c266 c267 c268 c269 c270 c271 c272 c273 c274 c275 c276 c277 c278 c279 c280 c281 c282 c283 c284 c285 c286 c287 c288 c289 c290 c291 c292 c293 c294 c295 c296 c297 c298 (fun v11 v12 v14 wx => v11 = .bool r.out ∧ v12 = .int .i64 r.port ∧ KN r.k v14 wx ∧ G r.p wx ∧ r.err = 0) a' w' -> J a' w') (h2 : ∀ a' w', Met J a' w' -> K' a' w') : swCode.wp Tryz.prog (Exit.then K' (QZ R)) ⟨#[.pointer (some ⟨g, 0, none⟩), c1, c2, c3, c4, .pointer (some ⟨w.heap.size, 0, none⟩), .pointer (some ⟨w.heap.size + 1, 0, none⟩), .pointer (some ⟨w.heap.size + 1 + 1, 0, none⟩), .pointer (some ⟨w.heap.size + 1 + 1 + 1, 0, none⟩), .int .i64 0, .pointer (some ⟨D, 0, none⟩), .bool false, .int .i64 (1 - q), .pointer (some ⟨Q, 0, none⟩), .pointer none, c15, c16, c17, c18, c19, c20, c21, c22, c23, c24, c25, c26, c27, c28, c29, c30, c31, c32, c33, c34, c35, c36, c37, c38, c39, c40, c41, c42, c43, c44, c45, c46, c47, c48, c49, c50, c51, c52, c53, c54, c55, c56, c57, c58, c59, c60, c61, c62, c63, c64, c65, c66, c67, c68, c69, c70, .int .i64 2, c72, c73, c74, c75, c76, c77, c78, c79, c80, c81, c82, c83, c84, c85, c86, c87, c88, c89, c90, c91, c92, c93, c94, c95, c96, c97, c98, c99, c100, c101, c102, c103, c104, c105, c106, c107, c108, c109, c110, c111, c112, c113, c114, c115, c116, c117, c118, c119, c120, c121, c122, c123, c124, c125, c126, c127, c128, c129, c130, c131, c132, c133, c134, c135, c136, c137, c138, c139, c140, c141, c142, c143, c144, c145, c146, c147, c148, c149, c150, c151, c152, c153, c154, c155, c156, c157, c158, c159, c160, c161, c162, c163, c164, c165, c166, c167, c168, c169, c170, c171, c172, c173, c174, c175, c176, c177, c178, c179, c180, c181, c182, c183, c184, c185, c186, c187, c188, c189, c190, c191, c192, c193, c194, c195, c196, c197, c198, c199, c200, c201, c202, c203, c204, c205, c206, c207, c208, c209, c210, c211, c212, c213, c214, c215, c216, c217, c218, c219, c220, c221, c222, c223, c224, c225, c226, c227, c228, c229, c230, c231, c232, c233, c234, c235, c236, c237, c238, c239, c240, c241, c242, c243, c244, c245, c246, c247, c248, c249, c250, c251, c252, c253, c254, c255, c256, c257, c258, c259, c260, c261, c262, c263, c264, c265, c266, c267, c268, c269, c270, c271, c272, c273, c274, c275, c276, c277, c278, c279, c280, c281, c282, c283, c284, c285, c286, c287, c288, c289, c290, c291, c292, c293, c294, c295, c296, c297, c298], []⟩ w8 := by
 unfold SwR at h1
 conv => arg 2; whnf
 have d1 := (FX.cd G8).1
 have hv : r = ⟨0, outB (routesOf dv) p.d && letsB (rulesOf dv) p.s p.d p.sp p.dp, outN (routesOf dv) p.d, p, none⟩ := by
  rw [<- HR.out]
  unfold mSend
  rw [if_pos HKK.out]
 subst hv
 clear HR hret
 have d6 := (FX.cd G8).2.2.2.2.2
 obtain ⟨p0, p1, p2, p3⟩ := FX.cp G8
 go_wp2_with fail
 refine (FX.out G8).mono ?_
 rintro e w9 ⟨rfl, hb9⟩
 dsimp only
 have G9 := FX.keep G8 hb9
 clear p0 p1 p2 p3 d1 d6 hb9
 have d5 := (FX.cd G9).2.2.2.2.1
 obtain ⟨p0, p1, p2, p3⟩ := FX.cp G9
 cases ho : outB (routesOf dv) p.d
 ·go_wp2_with fail
  go_meet
  exact ⟨by simp [ho], rfl, rfl, G9, rfl⟩
 ·go_wp2_with fail
  refine (FX.lets G9).mono ?_
  rintro e w10 ⟨rfl, hb10⟩
  dsimp only
  have G10 := FX.keep G9 hb10
  clear p0 p1 p2 p3 d5 hb10
  go_wp2_with fail
  go_meet
  exact ⟨by simp [ho], rfl, rfl, G10, rfl⟩
theorem sw_k3 {w w8 : World} {g b o : Nat} {L : Option Addr} {c d : Nat} {F : Option Addr} {cF : Nat} {ds : List Dv} {ls : List Lk} {FL : List Ft} {j : Nat} {q : Int} {p : Pk} {ch : Int} {dv : Dv} {Ab Ar At : Option Addr} {nb cb nr cr nt ct : Nat} {D Q : Nat} {G : Pk -> World -> Prop} {r : MR} (HR : Hid (mSend dv FL (j : Int) q p ch = r)) (HKK : Hid (dv.kind = 3)) (hq4 : 0 <= q) (hq5 : q < 2) (FX : HFacts w g (some ⟨b, o, none⟩) L c d F cF ds ls FL (j : Int) q p ch dv 3 (.slice Ab nb cb) (.slice Ar nr cr) (.slice At nt ct) D Q G) (G8 : G p w8) (R : Ending -> World -> Prop) (hret : Hid (Rets w g (some ⟨b, o, none⟩) L c d F ds ls FL r (QZ R))) (c1 c2 c3 c4 c15 c16 c17 c18 c19 c20 c21 c22 c23 c24 c25 c26 c27 c28 c29 c30 c31 c32 c33 c34 c35 c36 c37 c38 c39 c40 c41 c42 c43 c44 c45 c46 c47 c48 c49 c50 c51 c52 c53 c54 c55 c56 c57 c58 c59 c60 c61 c62 c63 c64 c65 c66 c67 c68 c69 c70 c72 c73 c74 c75 c76 c77 c78 c79 c80 c81 c82 c83 c84 c85 c86 c87 c88 c89 c90 c91 c92 c93 c94 c95 c96 c97 c98 c99 c100 c101 c102 c103 c104 c105 c106 c107 c108 c109 c110 c111 c112 c113 c114 c115 c116 c117 c118 c119 c120 c121 c122 c123 c124 c125 c126 c127 c128 c129 c130 c131 c132 c133 c134 c135 c136 c137 c138 c139 c140 c141 c142 c143 c144 c145 c146 c147 c148 c149 c150 c151 c152 c153 c154 c155 c156 c157 c158 c159 c160 c161 c162 c163 c164 c165 c166 c167 c168 c169 c170 c171 c172 c173 c174 c175 c176 c177 c178 c179 c180 c181 c182 c183 c184 c185 c186 c187 c188 c189 c190 c191 c192 c193 c194 c195 c196 c197 c198 c199 c200 c201 c202 c203 c204 c205 c206 c207 c208 c209 c210 c211 c212 c213 c214 c215 c216 c217 c218 c219 c220 c221 c222 c223 c224 c225 c226 c227 c228 c229 c230 c231 c232 c233 c234 c235 c236 c237 c238 c239 c240 c241 c242 c243 c244 c245 c246 c247 c248 c249 c250 c251 c252 c253 c254 c255 c256 c257 c258 c259 c260 c261 c262 c263 c264 c265 c266 c267 c268 c269 c270 c271 c272 c273 c274 c275 c276 c277 c278 c279 c280 c281 c282 c283 c284 c285 c286 c287 c288 c289 c290 c291 c292 c293 c294 c295 c296 c297 c298 : Value) (J K' : Act -> World -> Prop) (h1 : ∀ a' w', SwR w g D Q 3 c1 c2 c3 c4 c21 c22 c23 c24 c25 c26 c27 c28 c29 c30 c31 c32 c33 c34 c35 c36 c37 c38 c39 c40 c41 c42 c43 c44 c45 c46 c47 c48 c49 c50 c51 c52 c53 c54 c55 c56 c57 c58 c59 c60 c61 c62 c63 c64 c65 c66 c67 c68 c69 c70 c252 c253 c254 c255 c256 c257 c258 c259 c260 c261 c262 c263 c264 c265 c266 c267 c268 c269 c270 c271 c272 c273 c274 c275 c276 c277 c278 c279 c280 c281 c282 c283 c284 c285 c286 c287 c288 c289 c290 c291 c292 c293 c294 c295 c296 c297 c298 (fun v11 v12 v14 wx => v11 = .bool r.out ∧ v12 = .int .i64 r.port ∧ KN r.k v14 wx ∧ G r.p wx ∧ r.err = 0) a' w' -> J a' w') (h2 : ∀ a' w', Met J a' w' -> K' a' w') : swCode.wp Tryz.prog (Exit.then K' (QZ R)) ⟨#[.pointer (some ⟨g, 0, none⟩), c1, c2, c3, c4, .pointer (some ⟨w.heap.size, 0, none⟩), .pointer (some ⟨w.heap.size + 1, 0, none⟩), .pointer (some ⟨w.heap.size + 1 + 1, 0, none⟩), .pointer (some ⟨w.heap.size + 1 + 1 + 1, 0, none⟩), .int .i64 0, .pointer (some ⟨D, 0, none⟩), .bool false, .int .i64 (1 - q), .pointer (some ⟨Q, 0, none⟩), .pointer none, c15, c16, c17, c18, c19, c20, c21, c22, c23, c24, c25, c26, c27, c28, c29, c30, c31, c32, c33, c34, c35, c36, c37, c38, c39, c40, c41, c42, c43, c44, c45, c46, c47, c48, c49, c50, c51, c52, c53, c54, c55, c56, c57, c58, c59, c60, c61, c62, c63, c64, c65, c66, c67, c68, c69, c70, .int .i64 3, c72, c73, c74, c75, c76, c77, c78, c79, c80, c81, c82, c83, c84, c85, c86, c87, c88, c89, c90, c91, c92, c93, c94, c95, c96, c97, c98, c99, c100, c101, c102, c103, c104, c105, c106, c107, c108, c109, c110, c111, c112, c113, c114, c115, c116, c117, c118, c119, c120, c121, c122, c123, c124, c125, c126, c127, c128, c129, c130, c131, c132, c133, c134, c135, c136, c137, c138, c139, c140, c141, c142, c143, c144, c145, c146, c147, c148, c149, c150, c151, c152, c153, c154, c155, c156, c157, c158, c159, c160, c161, c162, c163, c164, c165, c166, c167, c168, c169, c170, c171, c172, c173, c174, c175, c176, c177, c178, c179, c180, c181, c182, c183, c184, c185, c186, c187, c188, c189, c190, c191, c192, c193, c194, c195, c196, c197, c198, c199, c200, c201, c202, c203, c204, c205, c206, c207, c208, c209, c210, c211, c212, c213, c214, c215, c216, c217, c218, c219, c220, c221, c222, c223, c224, c225, c226, c227, c228, c229, c230, c231, c232, c233, c234, c235, c236, c237, c238, c239, c240, c241, c242, c243, c244, c245, c246, c247, c248, c249, c250, c251, c252, c253, c254, c255, c256, c257, c258, c259, c260, c261, c262, c263, c264, c265, c266, c267, c268, c269, c270, c271, c272, c273, c274, c275, c276, c277, c278, c279, c280, c281, c282, c283, c284, c285, c286, c287, c288, c289, c290, c291, c292, c293, c294, c295, c296, c297, c298], []⟩ w8 := by
 unfold SwR at h1
 conv => arg 2; whnf
 have d1 := (FX.cd G8).1
 have n2 : ¬ dv.kind = 2 := by rw [HKK.out]; decide
 by_cases hq0 : q = 0
 ·subst hq0
  have hv : r = ⟨0, letsB (rulesOf dv) p.s p.d p.sp p.dp, 1, p, some ⟨(j : Int), p, 0⟩⟩ := by
   rw [<- HR.out]
   unfold mSend
   rw [if_neg n2, if_pos HKK.out, if_pos rfl]
  subst hv
  clear HR n2 hret
  obtain ⟨a0, a1⟩ := FX.ca G8
  have d5 := (FX.cd G8).2.2.2.2.1
  obtain ⟨p0, p1, p2, p3⟩ := FX.cp G8
  go_wp2_with fail
  refine (FX.lets G8).mono ?_
  rintro e w9 ⟨rfl, hb9⟩
  dsimp only
  have G9 := FX.keep G8 hb9
  have GA := FX.keep G9 ((Below.refl w9.heap.size w9).alloc (Nat.le_refl _) (.cells #[.int .i64 (j : Int), .int .i64 p.s, .int .i64 p.d, .int .i64 p.sp, .int .i64 p.dp, .int .i64 0] 178))
  clear p0 p1 p2 p3 d1 d5 hb9 a0 a1
  obtain ⟨a0, a1⟩ := FX.ca G9
  obtain ⟨p0, p1, p2, p3⟩ := FX.cp G9
  go_upto_region 16 with fail
  go_step
  go_step
  go_step
  go_step
  go_step
  go_step
  go_step
  go_step
  go_step
  go_step
  go_step
  refine wp_build3 178 _ _ _ 0 1 2 (by rfl) _ _ _ _ (fact_build0 (j : Int) p _) (by rfl) (by rfl) (by rfl) ?_
  go_wp2_with fail
  go_meet
  exact ⟨rfl, by simp, ⟨_, rfl, bk_new w9 _ _⟩, GA, rfl⟩
 ·obtain rfl : q = 1 := by omega
  have hv : r = ⟨0, FL.any (ofFlow (j : Int) (flipP p)), 0, p, none⟩ := by
   rw [<- HR.out]
   unfold mSend
   rw [if_neg n2, if_pos HKK.out, if_neg hq0]
  subst hv
  clear HR n2 hq0 hret
  obtain ⟨a0, a1⟩ := FX.ca G8
  go_wp2_with fail
  refine (FX.f1 G8).mono ?_
  rintro e w9 ⟨x, rfl, hx, hb9⟩
  dsimp only
  have G9 := FX.keep G8 hb9
  clear d1 a0 a1 hb9
  go_wp2_with fail
  go_meet
  refine ⟨?_, by simp, rfl, G9, rfl⟩
  rw [<- idx_any hx.out]
theorem sw_kx {w w8 : World} {g b o : Nat} {L : Option Addr} {c d : Nat} {F : Option Addr} {cF : Nat} {ds : List Dv} {ls : List Lk} {FL : List Ft} {j : Nat} {q : Int} {p : Pk} {ch : Int} {dv : Dv} {Ab Ar At : Option Addr} {nb cb nr cr nt ct : Nat} {D Q : Nat} {G : Pk -> World -> Prop} {r : MR} {kd : Int} (HR : Hid (mSend dv FL (j : Int) q p ch = r)) (HKK : Hid (dv.kind = kd)) (h2' : ¬ kd = 2) (h3 : ¬ kd = 3) (h4 : ¬ kd = 4) (h5 : ¬ kd = 5) (FX : HFacts w g (some ⟨b, o, none⟩) L c d F cF ds ls FL (j : Int) q p ch dv kd (.slice Ab nb cb) (.slice Ar nr cr) (.slice At nt ct) D Q G) (G8 : G p w8) (R : Ending -> World -> Prop) (hret : Hid (Rets w g (some ⟨b, o, none⟩) L c d F ds ls FL r (QZ R))) (c1 c2 c3 c4 c15 c16 c17 c18 c19 c20 c21 c22 c23 c24 c25 c26 c27 c28 c29 c30 c31 c32 c33 c34 c35 c36 c37 c38 c39 c40 c41 c42 c43 c44 c45 c46 c47 c48 c49 c50 c51 c52 c53 c54 c55 c56 c57 c58 c59 c60 c61 c62 c63 c64 c65 c66 c67 c68 c69 c70 c72 c73 c74 c75 c76 c77 c78 c79 c80 c81 c82 c83 c84 c85 c86 c87 c88 c89 c90 c91 c92 c93 c94 c95 c96 c97 c98 c99 c100 c101 c102 c103 c104 c105 c106 c107 c108 c109 c110 c111 c112 c113 c114 c115 c116 c117 c118 c119 c120 c121 c122 c123 c124 c125 c126 c127 c128 c129 c130 c131 c132 c133 c134 c135 c136 c137 c138 c139 c140 c141 c142 c143 c144 c145 c146 c147 c148 c149 c150 c151 c152 c153 c154 c155 c156 c157 c158 c159 c160 c161 c162 c163 c164 c165 c166 c167 c168 c169 c170 c171 c172 c173 c174 c175 c176 c177 c178 c179 c180 c181 c182 c183 c184 c185 c186 c187 c188 c189 c190 c191 c192 c193 c194 c195 c196 c197 c198 c199 c200 c201 c202 c203 c204 c205 c206 c207 c208 c209 c210 c211 c212 c213 c214 c215 c216 c217 c218 c219 c220 c221 c222 c223 c224 c225 c226 c227 c228 c229 c230 c231 c232 c233 c234 c235 c236 c237 c238 c239 c240 c241 c242 c243 c244 c245 c246 c247 c248 c249 c250 c251 c252 c253 c254 c255 c256 c257 c258 c259 c260 c261 c262 c263 c264 c265 c266 c267 c268 c269 c270 c271 c272 c273 c274 c275 c276 c277 c278 c279 c280 c281 c282 c283 c284 c285 c286 c287 c288 c289 c290 c291 c292 c293 c294 c295 c296 c297 c298 : Value) (J K' : Act -> World -> Prop) (h1 : ∀ a' w', SwR w g D Q kd c1 c2 c3 c4 c21 c22 c23 c24 c25 c26 c27 c28 c29 c30 c31 c32 c33 c34 c35 c36 c37 c38 c39 c40 c41 c42 c43 c44 c45 c46 c47 c48 c49 c50 c51 c52 c53 c54 c55 c56 c57 c58 c59 c60 c61 c62 c63 c64 c65 c66 c67 c68 c69 c70 c252 c253 c254 c255 c256 c257 c258 c259 c260 c261 c262 c263 c264 c265 c266 c267 c268 c269 c270 c271 c272 c273 c274 c275 c276 c277 c278 c279 c280 c281 c282 c283 c284 c285 c286 c287 c288 c289 c290 c291 c292 c293 c294 c295 c296 c297 c298 (fun v11 v12 v14 wx => v11 = .bool r.out ∧ v12 = .int .i64 r.port ∧ KN r.k v14 wx ∧ G r.p wx ∧ r.err = 0) a' w' -> J a' w') (h2 : ∀ a' w', Met J a' w' -> K' a' w') : swCode.wp Tryz.prog (Exit.then K' (QZ R)) ⟨#[.pointer (some ⟨g, 0, none⟩), c1, c2, c3, c4, .pointer (some ⟨w.heap.size, 0, none⟩), .pointer (some ⟨w.heap.size + 1, 0, none⟩), .pointer (some ⟨w.heap.size + 1 + 1, 0, none⟩), .pointer (some ⟨w.heap.size + 1 + 1 + 1, 0, none⟩), .int .i64 0, .pointer (some ⟨D, 0, none⟩), .bool false, .int .i64 (1 - q), .pointer (some ⟨Q, 0, none⟩), .pointer none, c15, c16, c17, c18, c19, c20, c21, c22, c23, c24, c25, c26, c27, c28, c29, c30, c31, c32, c33, c34, c35, c36, c37, c38, c39, c40, c41, c42, c43, c44, c45, c46, c47, c48, c49, c50, c51, c52, c53, c54, c55, c56, c57, c58, c59, c60, c61, c62, c63, c64, c65, c66, c67, c68, c69, c70, .int .i64 kd, c72, c73, c74, c75, c76, c77, c78, c79, c80, c81, c82, c83, c84, c85, c86, c87, c88, c89, c90, c91, c92, c93, c94, c95, c96, c97, c98, c99, c100, c101, c102, c103, c104, c105, c106, c107, c108, c109, c110, c111, c112, c113, c114, c115, c116, c117, c118, c119, c120, c121, c122, c123, c124, c125, c126, c127, c128, c129, c130, c131, c132, c133, c134, c135, c136, c137, c138, c139, c140, c141, c142, c143, c144, c145, c146, c147, c148, c149, c150, c151, c152, c153, c154, c155, c156, c157, c158, c159, c160, c161, c162, c163, c164, c165, c166, c167, c168, c169, c170, c171, c172, c173, c174, c175, c176, c177, c178, c179, c180, c181, c182, c183, c184, c185, c186, c187, c188, c189, c190, c191, c192, c193, c194, c195, c196, c197, c198, c199, c200, c201, c202, c203, c204, c205, c206, c207, c208, c209, c210, c211, c212, c213, c214, c215, c216, c217, c218, c219, c220, c221, c222, c223, c224, c225, c226, c227, c228, c229, c230, c231, c232, c233, c234, c235, c236, c237, c238, c239, c240, c241, c242, c243, c244, c245, c246, c247, c248, c249, c250, c251, c252, c253, c254, c255, c256, c257, c258, c259, c260, c261, c262, c263, c264, c265, c266, c267, c268, c269, c270, c271, c272, c273, c274, c275, c276, c277, c278, c279, c280, c281, c282, c283, c284, c285, c286, c287, c288, c289, c290, c291, c292, c293, c294, c295, c296, c297, c298], []⟩ w8 := by
 unfold SwR at h1
 conv => arg 2; whnf
 have d1 := (FX.cd G8).1
 have hv : r = ⟨0, false, 1 - q, p, none⟩ := by
  rw [<- HR.out]
  unfold mSend
  rw [if_neg (by rw [HKK.out]; exact h2'), if_neg (by rw [HKK.out]; exact h3), if_neg (by rw [HKK.out]; exact h4), if_neg (by rw [HKK.out]; exact h5)]
 subst hv
 have e2 : (kd == 2) = false := by simpa using h2'
 have e3 : (kd == 3) = false := by simpa using h3
 have e4 : (kd == 4) = false := by simpa using h4
 have e5 : (kd == 5) = false := by simpa using h5
 clear HR hret
 go_wp2_with fail
 all_goals first | exact absurd (by assumption) h2' | exact absurd (by assumption) h3 | exact absurd (by assumption) h4 | exact absurd (by assumption) h5 | skip
 go_meet
 exact ⟨rfl, rfl, rfl, G8, rfl⟩
theorem sw_k4a {w w8 : World} {g b o : Nat} {L : Option Addr} {c d : Nat} {F : Option Addr} {cF : Nat} {ds : List Dv} {ls : List Lk} {FL : List Ft} {j : Nat} {q : Int} {p : Pk} {ch : Int} {dv : Dv} {Ab Ar At : Option Addr} {nb cb nr cr nt ct : Nat} {D Q : Nat} {G : Pk -> World -> Prop} {r : MR} (HR : Hid (mSend dv FL (j : Int) q p ch = r)) (HKK : Hid (dv.kind = 4)) (hq4 : 0 <= q) (hq5 : q < 2) (hq0 : ¬ q = 0) (FX : HFacts w g (some ⟨b, o, none⟩) L c d F cF ds ls FL (j : Int) q p ch dv 4 (.slice Ab nb cb) (.slice Ar nr cr) (.slice At nt ct) D Q G) (G8 : G p w8) (R : Ending -> World -> Prop) (hret : Hid (Rets w g (some ⟨b, o, none⟩) L c d F ds ls FL r (QZ R))) (c1 c2 c3 c4 c15 c16 c17 c18 c19 c20 c21 c22 c23 c24 c25 c26 c27 c28 c29 c30 c31 c32 c33 c34 c35 c36 c37 c38 c39 c40 c41 c42 c43 c44 c45 c46 c47 c48 c49 c50 c51 c52 c53 c54 c55 c56 c57 c58 c59 c60 c61 c62 c63 c64 c65 c66 c67 c68 c69 c70 c72 c73 c74 c75 c76 c77 c78 c79 c80 c81 c82 c83 c84 c85 c86 c87 c88 c89 c90 c91 c92 c93 c94 c95 c96 c97 c98 c99 c100 c101 c102 c103 c104 c105 c106 c107 c108 c109 c110 c111 c112 c113 c114 c115 c116 c117 c118 c119 c120 c121 c122 c123 c124 c125 c126 c127 c128 c129 c130 c131 c132 c133 c134 c135 c136 c137 c138 c139 c140 c141 c142 c143 c144 c145 c146 c147 c148 c149 c150 c151 c152 c153 c154 c155 c156 c157 c158 c159 c160 c161 c162 c163 c164 c165 c166 c167 c168 c169 c170 c171 c172 c173 c174 c175 c176 c177 c178 c179 c180 c181 c182 c183 c184 c185 c186 c187 c188 c189 c190 c191 c192 c193 c194 c195 c196 c197 c198 c199 c200 c201 c202 c203 c204 c205 c206 c207 c208 c209 c210 c211 c212 c213 c214 c215 c216 c217 c218 c219 c220 c221 c222 c223 c224 c225 c226 c227 c228 c229 c230 c231 c232 c233 c234 c235 c236 c237 c238 c239 c240 c241 c242 c243 c244 c245 c246 c247 c248 c249 c250 c251 c252 c253 c254 c255 c256 c257 c258 c259 c260 c261 c262 c263 c264 c265 c266 c267 c268 c269 c270 c271 c272 c273 c274 c275 c276 c277 c278 c279 c280 c281 c282 c283 c284 c285 c286 c287 c288 c289 c290 c291 c292 c293 c294 c295 c296 c297 c298 : Value) (J K' : Act -> World -> Prop) (h1 : ∀ a' w', SwR w g D Q 4 c1 c2 c3 c4 c21 c22 c23 c24 c25 c26 c27 c28 c29 c30 c31 c32 c33 c34 c35 c36 c37 c38 c39 c40 c41 c42 c43 c44 c45 c46 c47 c48 c49 c50 c51 c52 c53 c54 c55 c56 c57 c58 c59 c60 c61 c62 c63 c64 c65 c66 c67 c68 c69 c70 c252 c253 c254 c255 c256 c257 c258 c259 c260 c261 c262 c263 c264 c265 c266 c267 c268 c269 c270 c271 c272 c273 c274 c275 c276 c277 c278 c279 c280 c281 c282 c283 c284 c285 c286 c287 c288 c289 c290 c291 c292 c293 c294 c295 c296 c297 c298 (fun v11 v12 v14 wx => v11 = .bool r.out ∧ v12 = .int .i64 r.port ∧ KN r.k v14 wx ∧ G r.p wx ∧ r.err = 0) a' w' -> J a' w') (h2 : ∀ a' w', Met J a' w' -> K' a' w') : swCode.wp Tryz.prog (Exit.then K' (QZ R)) ⟨#[.pointer (some ⟨g, 0, none⟩), c1, c2, c3, c4, .pointer (some ⟨w.heap.size, 0, none⟩), .pointer (some ⟨w.heap.size + 1, 0, none⟩), .pointer (some ⟨w.heap.size + 1 + 1, 0, none⟩), .pointer (some ⟨w.heap.size + 1 + 1 + 1, 0, none⟩), .int .i64 0, .pointer (some ⟨D, 0, none⟩), .bool false, .int .i64 (1 - q), .pointer (some ⟨Q, 0, none⟩), .pointer none, c15, c16, c17, c18, c19, c20, c21, c22, c23, c24, c25, c26, c27, c28, c29, c30, c31, c32, c33, c34, c35, c36, c37, c38, c39, c40, c41, c42, c43, c44, c45, c46, c47, c48, c49, c50, c51, c52, c53, c54, c55, c56, c57, c58, c59, c60, c61, c62, c63, c64, c65, c66, c67, c68, c69, c70, .int .i64 4, c72, c73, c74, c75, c76, c77, c78, c79, c80, c81, c82, c83, c84, c85, c86, c87, c88, c89, c90, c91, c92, c93, c94, c95, c96, c97, c98, c99, c100, c101, c102, c103, c104, c105, c106, c107, c108, c109, c110, c111, c112, c113, c114, c115, c116, c117, c118, c119, c120, c121, c122, c123, c124, c125, c126, c127, c128, c129, c130, c131, c132, c133, c134, c135, c136, c137, c138, c139, c140, c141, c142, c143, c144, c145, c146, c147, c148, c149, c150, c151, c152, c153, c154, c155, c156, c157, c158, c159, c160, c161, c162, c163, c164, c165, c166, c167, c168, c169, c170, c171, c172, c173, c174, c175, c176, c177, c178, c179, c180, c181, c182, c183, c184, c185, c186, c187, c188, c189, c190, c191, c192, c193, c194, c195, c196, c197, c198, c199, c200, c201, c202, c203, c204, c205, c206, c207, c208, c209, c210, c211, c212, c213, c214, c215, c216, c217, c218, c219, c220, c221, c222, c223, c224, c225, c226, c227, c228, c229, c230, c231, c232, c233, c234, c235, c236, c237, c238, c239, c240, c241, c242, c243, c244, c245, c246, c247, c248, c249, c250, c251, c252, c253, c254, c255, c256, c257, c258, c259, c260, c261, c262, c263, c264, c265, c266, c267, c268, c269, c270, c271, c272, c273, c274, c275, c276, c277, c278, c279, c280, c281, c282, c283, c284, c285, c286, c287, c288, c289, c290, c291, c292, c293, c294, c295, c296, c297, c298], []⟩ w8 := by
 unfold SwR at h1
 conv => arg 2; whnf
 have d1 := (FX.cd G8).1
 have n2 : ¬ dv.kind = 2 := by rw [HKK.out]; decide
 have n3 : ¬ dv.kind = 3 := by rw [HKK.out]; decide
 obtain rfl : q = 1 := by omega
 obtain ⟨a0, a1⟩ := FX.ca G8
 repeat (first | go_guarded | go_step)
 refine (FX.f2 G8).mono ?_
 rintro e w9 ⟨x, rfl, hx, hb9⟩
 dsimp only
 have G9 := FX.keep G8 hb9
 clear d1 a0 a1 hb9
 have d2 := (FX.cd G9).2.1
 have p1 := (FX.cp G9).2.1
 rcases hx.out with ⟨rfl, hno⟩ | ⟨k, f, rfl, hk, hfd, jk⟩
 ·have hv : r = ⟨0, false, 0, p, none⟩ := by
   rw [<- HR.out]
   unfold mSend
   rw [if_neg n2, if_neg n3, if_pos HKK.out, if_neg hq0, hno]
  subst hv
  clear HR n2 n3 hq0 hx hno hret
  cases hpa : (p.d == dv.addr)
  ·as_aux_lemma =>
    repeat (first | go_guarded | go_step)
    go_meet
    exact ⟨rfl, by simp, rfl, G9, rfl⟩
  ·as_aux_lemma =>
    repeat (first | go_guarded | go_step)
    go_meet
    exact ⟨rfl, by simp, rfl, G9, rfl⟩
 clear jk
 cases hpa : (p.d == dv.addr)
 ·have hv : r = ⟨0, false, 0, p, none⟩ := by
   rw [<- HR.out]
   unfold mSend
   rw [if_neg n2, if_neg n3, if_pos HKK.out, if_neg hq0, hfd]
   show (if (p.d == dv.addr) = true then _ else _) = _
   rw [hpa, if_neg Bool.false_ne_true]
  subst hv
  clear HR n2 n3 hq0 hx hk hfd hret
  as_aux_lemma =>
   repeat (first | go_guarded | go_step)
   go_meet
   exact ⟨rfl, by simp, rfl, G9, rfl⟩
 ·have hv : r = ⟨0, true, 0, ⟨p.s, f.p.s, p.sp, f.p.sp⟩, none⟩ := by
   rw [<- HR.out]
   unfold mSend
   rw [if_neg n2, if_neg n3, if_pos HKK.out, if_neg hq0, hfd]
   show (if (p.d == dv.addr) = true then _ else _) = _
   rw [hpa, if_pos rfl]
  subst hv
  obtain ⟨fb, fo, hF, y1, y3, y5, uu1, uu2⟩ := FX.fact G9 hk
  have g2 := (FX.cg G9).2.2
  obtain ⟨q0, q1, q2, q3, z0, z1, z2, z3⟩ := FX.cq G9
  have GC := FX.s3 (FX.s1 G9 f.p.s) f.p.sp
  rw [hF] at g2
  clear HR n2 n3 hq0 hx hk hfd hF y5 hret
  as_aux_lemma =>
   repeat (first | go_guarded | go_step)
   go_region
   all_goals
    repeat (first | go_guarded | go_step)
    go_meet
    exact ⟨rfl, by simp, rfl, FX.keep GC (Below.refl _ _).drew, rfl⟩
theorem sw_k4b {w w8 : World} {g b o : Nat} {L : Option Addr} {c d : Nat} {F : Option Addr} {cF : Nat} {ds : List Dv} {ls : List Lk} {FL : List Ft} {j : Nat} {q : Int} {p : Pk} {ch : Int} {dv : Dv} {Ab Ar At : Option Addr} {nb cb nr cr nt ct : Nat} {D Q : Nat} {G : Pk -> World -> Prop} {r : MR} (HR : Hid (mSend dv FL (j : Int) q p ch = r)) (HKK : Hid (dv.kind = 4)) (hq0 : q = 0) (FX : HFacts w g (some ⟨b, o, none⟩) L c d F cF ds ls FL (j : Int) q p ch dv 4 (.slice Ab nb cb) (.slice Ar nr cr) (.slice At nt ct) D Q G) (G8 : G p w8) (R : Ending -> World -> Prop) (hret : Hid (Rets w g (some ⟨b, o, none⟩) L c d F ds ls FL r (QZ R))) (c1 c2 c3 c4 c15 c16 c17 c18 c19 c20 c21 c22 c23 c24 c25 c26 c27 c28 c29 c30 c31 c32 c33 c34 c35 c36 c37 c38 c39 c40 c41 c42 c43 c44 c45 c46 c47 c48 c49 c50 c51 c52 c53 c54 c55 c56 c57 c58 c59 c60 c61 c62 c63 c64 c65 c66 c67 c68 c69 c70 c72 c73 c74 c75 c76 c77 c78 c79 c80 c81 c82 c83 c84 c85 c86 c87 c88 c89 c90 c91 c92 c93 c94 c95 c96 c97 c98 c99 c100 c101 c102 c103 c104 c105 c106 c107 c108 c109 c110 c111 c112 c113 c114 c115 c116 c117 c118 c119 c120 c121 c122 c123 c124 c125 c126 c127 c128 c129 c130 c131 c132 c133 c134 c135 c136 c137 c138 c139 c140 c141 c142 c143 c144 c145 c146 c147 c148 c149 c150 c151 c152 c153 c154 c155 c156 c157 c158 c159 c160 c161 c162 c163 c164 c165 c166 c167 c168 c169 c170 c171 c172 c173 c174 c175 c176 c177 c178 c179 c180 c181 c182 c183 c184 c185 c186 c187 c188 c189 c190 c191 c192 c193 c194 c195 c196 c197 c198 c199 c200 c201 c202 c203 c204 c205 c206 c207 c208 c209 c210 c211 c212 c213 c214 c215 c216 c217 c218 c219 c220 c221 c222 c223 c224 c225 c226 c227 c228 c229 c230 c231 c232 c233 c234 c235 c236 c237 c238 c239 c240 c241 c242 c243 c244 c245 c246 c247 c248 c249 c250 c251 c252 c253 c254 c255 c256 c257 c258 c259 c260 c261 c262 c263 c264 c265 c266 c267 c268 c269 c270 c271 c272 c273 c274 c275 c276 c277 c278 c279 c280 c281 c282 c283 c284 c285 c286 c287 c288 c289 c290 c291 c292 c293 c294 c295 c296 c297 c298 : Value) (J K' : Act -> World -> Prop) (h1 : ∀ a' w', SwR w g D Q 4 c1 c2 c3 c4 c21 c22 c23 c24 c25 c26 c27 c28 c29 c30 c31 c32 c33 c34 c35 c36 c37 c38 c39 c40 c41 c42 c43 c44 c45 c46 c47 c48 c49 c50 c51 c52 c53 c54 c55 c56 c57 c58 c59 c60 c61 c62 c63 c64 c65 c66 c67 c68 c69 c70 c252 c253 c254 c255 c256 c257 c258 c259 c260 c261 c262 c263 c264 c265 c266 c267 c268 c269 c270 c271 c272 c273 c274 c275 c276 c277 c278 c279 c280 c281 c282 c283 c284 c285 c286 c287 c288 c289 c290 c291 c292 c293 c294 c295 c296 c297 c298 (fun v11 v12 v14 wx => v11 = .bool r.out ∧ v12 = .int .i64 r.port ∧ KN r.k v14 wx ∧ G r.p wx ∧ r.err = 0) a' w' -> J a' w') (h2 : ∀ a' w', Met J a' w' -> K' a' w') : swCode.wp Tryz.prog (Exit.then K' (QZ R)) ⟨#[.pointer (some ⟨g, 0, none⟩), c1, c2, c3, c4, .pointer (some ⟨w.heap.size, 0, none⟩), .pointer (some ⟨w.heap.size + 1, 0, none⟩), .pointer (some ⟨w.heap.size + 1 + 1, 0, none⟩), .pointer (some ⟨w.heap.size + 1 + 1 + 1, 0, none⟩), .int .i64 0, .pointer (some ⟨D, 0, none⟩), .bool false, .int .i64 (1 - q), .pointer (some ⟨Q, 0, none⟩), .pointer none, c15, c16, c17, c18, c19, c20, c21, c22, c23, c24, c25, c26, c27, c28, c29, c30, c31, c32, c33, c34, c35, c36, c37, c38, c39, c40, c41, c42, c43, c44, c45, c46, c47, c48, c49, c50, c51, c52, c53, c54, c55, c56, c57, c58, c59, c60, c61, c62, c63, c64, c65, c66, c67, c68, c69, c70, .int .i64 4, c72, c73, c74, c75, c76, c77, c78, c79, c80, c81, c82, c83, c84, c85, c86, c87, c88, c89, c90, c91, c92, c93, c94, c95, c96, c97, c98, c99, c100, c101, c102, c103, c104, c105, c106, c107, c108, c109, c110, c111, c112, c113, c114, c115, c116, c117, c118, c119, c120, c121, c122, c123, c124, c125, c126, c127, c128, c129, c130, c131, c132, c133, c134, c135, c136, c137, c138, c139, c140, c141, c142, c143, c144, c145, c146, c147, c148, c149, c150, c151, c152, c153, c154, c155, c156, c157, c158, c159, c160, c161, c162, c163, c164, c165, c166, c167, c168, c169, c170, c171, c172, c173, c174, c175, c176, c177, c178, c179, c180, c181, c182, c183, c184, c185, c186, c187, c188, c189, c190, c191, c192, c193, c194, c195, c196, c197, c198, c199, c200, c201, c202, c203, c204, c205, c206, c207, c208, c209, c210, c211, c212, c213, c214, c215, c216, c217, c218, c219, c220, c221, c222, c223, c224, c225, c226, c227, c228, c229, c230, c231, c232, c233, c234, c235, c236, c237, c238, c239, c240, c241, c242, c243, c244, c245, c246, c247, c248, c249, c250, c251, c252, c253, c254, c255, c256, c257, c258, c259, c260, c261, c262, c263, c264, c265, c266, c267, c268, c269, c270, c271, c272, c273, c274, c275, c276, c277, c278, c279, c280, c281, c282, c283, c284, c285, c286, c287, c288, c289, c290, c291, c292, c293, c294, c295, c296, c297, c298], []⟩ w8 := by
 unfold SwR at h1
 conv => arg 2; whnf
 have d1 := (FX.cd G8).1
 have n2 : ¬ dv.kind = 2 := by rw [HKK.out]; decide
 have n3 : ¬ dv.kind = 3 := by rw [HKK.out]; decide
 subst hq0
 obtain ⟨a0, a1⟩ := FX.ca G8
 obtain ⟨p0, p1, p2, p3⟩ := FX.cp G8
 have GO := FX.keep G8 ((Below.refl w8.heap.size w8).alloc (Nat.le_refl _) (.cells #[.int .i64 p.s, .int .i64 0, .int .i64 p.sp, .int .i64 0] 29))
 have BO := bk_new w8 #[.int .i64 p.s, .int .i64 0, .int .i64 p.sp, .int .i64 0] 29
 go_upto_region 24 with fail
 go_step
 go_step
 go_step
 go_step
 go_step
 go_step
 go_step
 go_step
 go_step
 go_step
 go_step
 go_step
 go_step
 go_step
 refine wp_build2 29 _ _ 0 2 (by rfl) _ _ _ (pk_build2 p.s p.sp _) (by rfl) (by rfl) ?_
 repeat (first | go_guarded | go_step)
 refine (FX.f3 GO w8.heap.size ⟨p.s, 0, p.sp, 0⟩ BO).mono ?_
 rintro e w9 ⟨x, rfl, hx, hb9⟩
 dsimp only
 have G9 := FX.keep GO hb9
 have B9 := BO.keep hb9
 have c0 := FX.cc G9
 clear d1 a0 a1 p0 p1 p2 p3 GO BO hb9 G8
 generalize w8.heap.size = O at *
 rcases hx.out with ⟨rfl, hno⟩ | ⟨k, f, rfl, hk, hfd, jk⟩
 rotate_left
 ·clear jk
  as_aux_lemma =>
   have hv : r = ⟨0, true, 1, ⟨dv.addr, p.d, f.n, p.dp⟩, some ⟨(j : Int), ⟨p.s, 0, p.sp, 0⟩, f.n⟩⟩ := by
    rw [<- HR.out]
    unfold mSend
    rw [if_neg n2, if_neg n3, if_pos HKK.out, if_pos rfl, hfd]
   subst hv
   obtain ⟨fb, fo, hF, y1, y3, y5, uu1, uu2⟩ := FX.fact G9 hk
   have g2 := (FX.cg G9).2.2
   rw [hF] at g2
   clear HR n2 n3 hx hk hfd hF y1 y3 hret
   have AB := (Below.refl w9.heap.size w9).alloc (Nat.le_refl _) (.cells #[.int .i64 (j : Int), .int .i64 p.s, .int .i64 0, .int .i64 p.sp, .int .i64 0, .int .i64 f.n] 178)
   have GB := FX.keep G9 AB
   obtain ⟨a0, a1⟩ := FX.ca G9
   obtain ⟨o0, o1, o2, o3, jk⟩ := B9.four
   clear jk
   obtain ⟨b0, b1⟩ := FX.ca GB
   obtain ⟨r0, r1, r2, r3, jk⟩ := (B9.keep AB).four
   clear jk b1 a1
   have KB := bk_new w9 #[.int .i64 (j : Int), .int .i64 p.s, .int .i64 0, .int .i64 p.sp, .int .i64 0, .int .i64 f.n] 178
   go_upto_region 33 with fail
   go_cut [11, 14] from 180 to 185 (fun v11 v14 wx => v11 = .bool true ∧ ∃ K, v14 = .pointer (some ⟨K, 0, none⟩) ∧ Bk wx K #[.int .i64 (j : Int), .int .i64 p.s, .int .i64 0, .int .i64 p.sp, .int .i64 0, .int .i64 f.n] 178 ∧ G p wx)
   case first =>
    refine wp_region_held_drew (S := fun w' => w'.cell? ⟨w.heap.size, 0, none⟩ = some (.int .i64 (j : Int)) ∧ w'.cell? ⟨O, 0, none⟩ = some (.int .i64 p.s) ∧ w'.cell? ⟨O, 1, none⟩ = some (.int .i64 0) ∧ w'.cell? ⟨O, 2, none⟩ = some (.int .i64 p.sp) ∧ w'.cell? ⟨O, 3, none⟩ = some (.int .i64 0)) (by kernel_rfl) ⟨a0, o0, o1, o2, o3⟩ (fun hHeld => ?_)
    refine tk 0 ?_; try simp only [ly]
    refine tk 1 ?_; try simp only [ly]
    refine tk 2 ?_; try simp only [ly]
    refine tk 3 ?_; try simp only [ly]
    refine' wpAnyH_take (i := 4) (v := _) rfl (by kernel_rfl) (by kernel_rfl) (by kernel_rfl) (fun _ _ _ h => h) (yields_build3 (by rfl) 178 _ _ _ 0 1 2 (by rfl) _ _ _ _ (fun w => fact_build (j : Int) f.n ⟨p.s, 0, p.sp, 0⟩ w) (by rfl) (by rfl) (by rfl)) (by assumption) ?gr5
    try simp only [ly]
    refine tk 6 ?_; try simp only [ly]
    refine rd 5 (fun K hK => ?_)
    go_simp
    skip
    try go_wp2_with fail
    clear hHeld
    refine hK.out _ _ (⟨b0, r0, r1, r2, r3⟩) (fun hHeld => ?_)
    clear hK K
    try simp only [ly]
    refine tk 7 ?_; try simp only [ly]
    refine wpAnyH_done (by kernel_rfl) ?_ _
    repeat (first | go_guarded | go_step)
    go_meet
    first
     | exact ⟨rfl, _, rfl, KB, GB⟩
     | exact ⟨rfl, _, rfl, KB, FX.keep GB (Below.refl _ _).drew⟩
   case rest =>
    clear GB KB AB a0 o0 o1 o2 o3 b0 r0 r1 r2 r3
    obtain ⟨rfl, K, rfl, KB, GB⟩ := hcut
    have hKQ : K ≠ Q := fun e => by
     have hq := FX.bq GB
     rw [<- e] at hq
     unfold Bk at KB hq
     rw [KB] at hq
     simp only [Option.some.injEq, Obj.cells.injEq] at hq
     exact absurd hq.2.1 (by decide)
    have d2 := (FX.cd GB).2.1
    obtain ⟨q0, q1, q2, q3, z0, z1, z2, z3⟩ := FX.cq GB
    have GC := FX.s2 (FX.s0 GB dv.addr) f.n
    have KC : Bk ((wc.setCell ⟨Q, 0, none⟩ (.int .i64 dv.addr)).setCell ⟨Q, 2, none⟩ (.int .i64 f.n)) K #[.int .i64 (j : Int), .int .i64 p.s, .int .i64 0, .int .i64 p.sp, .int .i64 0, .int .i64 f.n] 178 := (KB.setO hKQ _).setO hKQ _
    clear q1 q3 z1 z3
    repeat (first | go_guarded | go_step)
    go_meet
    exact ⟨rfl, by simp, ⟨K, rfl, KC⟩, GC, rfl⟩
 have IC : Hid (∀ W, Calls Tryz.prog 8 #[.int .i64 ch, .int .i64 0, .int .i64 7] W fun e w' => e = .returned (.bool (poB ch)) ∧ w' = W) := fun W => by
  have := finR ch 0 7 W
  rw [poB_in] at this
  exact this
 have HC : Hid (∀ W, Calls Tryz.prog 77 #[.int .i64 (dv.pool : Int), .int .i64 ch] W fun e w' => e = .returned (.bool (hasB dv.pool ch)) ∧ w' = W) := fun W => rhas_int dv.pool ch W (Nat.lt_trans dv.hp (by decide))
 have d3 := (FX.cd G9).2.2.1
 have hwp : wrap64 (dv.pool : Int) = (dv.pool : Int) := by
  have := dv.hp
  unfold wrap64
  omega
 clear hx
 repeat (first | go_guarded | go_step)
 refine (IC.out _).mono ?_
 rintro e w' ⟨rfl, hx⟩
 obtain rfl := hx.symm
 dsimp only
 cases hpo : poB ch
 ·as_aux_lemma =>
   have hv : r = ⟨1, false, 0, p, none⟩ := by
    rw [<- HR.out]
    unfold mSend
    rw [if_neg n2, if_neg n3, if_pos HKK.out, if_pos rfl, hno]
    show (if poolB dv ch = true then _ else _) = _
    rw [show poolB dv ch = false by unfold poolB; rw [hpo]; rfl, if_neg Bool.false_ne_true]
   subst hv
   clear HR HC IC
   have R9 := FX.cr G9
   obtain ⟨⟨l0, l1, l2, l3, l4, l5⟩, ⟨f0, f1, f2, f3, f4, f5⟩⟩ := R9.six
   have hf : Hid (MOut w g (some ⟨b, o, none⟩) L c d F ds ls FL w9) := MOut.same (FX.mn G9) (FX.bl G9)
   have RQ : Hid (Bk _ _ _ _) := R9
   have hGG := FX.hb
   clear R9
   repeat (first | go_guarded | go_step)
   exact hret.out _ _ rfl rfl rfl (show (1 : Int) ≠ 0 by decide) (Bk.zero6 RQ.out) (MOut.set6 hf.out RQ.out hGG (by omega) (by decide))
 have hhb : hasB dv.pool ch = poolB dv ch := hasB_pool hpo
 rw [hhb] at HC
 repeat (first | go_guarded | go_step)
 rw [hwp]
 refine (HC.out _).mono ?_
 rintro e w' ⟨rfl, hx⟩
 obtain rfl := hx.symm
 dsimp only
 cases hpl : poolB dv ch
 ·as_aux_lemma =>
   have hv : r = ⟨1, false, 0, p, none⟩ := by
    rw [<- HR.out]
    unfold mSend
    rw [if_neg n2, if_neg n3, if_pos HKK.out, if_pos rfl, hno]
    show (if poolB dv ch = true then _ else _) = _
    rw [hpl, if_neg Bool.false_ne_true]
   subst hv
   clear HR HC IC
   have R9 := FX.cr G9
   obtain ⟨⟨l0, l1, l2, l3, l4, l5⟩, ⟨f0, f1, f2, f3, f4, f5⟩⟩ := R9.six
   have hf : Hid (MOut w g (some ⟨b, o, none⟩) L c d F ds ls FL w9) := MOut.same (FX.mn G9) (FX.bl G9)
   have RQ : Hid (Bk _ _ _ _) := R9
   have hGG := FX.hb
   clear R9
   repeat (first | go_guarded | go_step)
   exact hret.out _ _ rfl rfl rfl (show (1 : Int) ≠ 0 by decide) (Bk.zero6 RQ.out) (MOut.set6 hf.out RQ.out hGG (by omega) (by decide))
 repeat (first | go_guarded | go_step)
 refine (FX.f4 G9).mono ?_
 rintro e w10 ⟨x, rfl, hx, hb10⟩
 dsimp only
 have GX := FX.keep G9 hb10
 have BX := B9.keep hb10
 clear c0 d3 HC IC hb10 G9 B9
 cases hal : FL.any (ofPort (j : Int) ch)
 rotate_left
 ·as_aux_lemma =>
   have hv : r = ⟨6, false, 0, p, none⟩ := by
    rw [<- HR.out]
    unfold mSend
    rw [if_neg n2, if_neg n3, if_pos HKK.out, if_pos rfl, hno]
    show (if poolB dv ch = true then _ else _) = _
    rw [hpl, if_pos rfl]
    show (if FL.any (ofPort (j : Int) ch) = true then _ else _) = _
    rw [hal, if_pos rfl]
   subst hv
   have hxa := idx_any hx.out
   rw [hal] at hxa
   clear HR hx
   have R9 := FX.cr GX
   obtain ⟨⟨l0, l1, l2, l3, l4, l5⟩, ⟨f0, f1, f2, f3, f4, f5⟩⟩ := R9.six
   have hf : Hid (MOut w g (some ⟨b, o, none⟩) L c d F ds ls FL w10) := MOut.same (FX.mn GX) (FX.bl GX)
   have RQ : Hid (Bk _ _ _ _) := R9
   have hGG := FX.hb
   clear R9
   repeat (first | go_guarded | go_step)
   exact hret.out _ _ rfl rfl rfl (show (6 : Int) ≠ 0 by decide) (Bk.zero6 RQ.out) (MOut.set6 hf.out RQ.out hGG (by omega) (by decide))
 as_aux_lemma =>
  have hv : r = ⟨0, true, 1, ⟨dv.addr, p.d, ch, p.dp⟩, some ⟨(j : Int), ⟨p.s, 0, p.sp, 0⟩, ch⟩⟩ := by
   rw [<- HR.out]
   unfold mSend
   rw [if_neg n2, if_neg n3, if_pos HKK.out, if_pos rfl, hno]
   show (if poolB dv ch = true then _ else _) = _
   rw [hpl, if_pos rfl]
   show (if FL.any (ofPort (j : Int) ch) = true then _ else _) = _
   rw [hal, if_neg Bool.false_ne_true]
  subst hv
  have hxa := idx_any hx.out
  rw [hal] at hxa
  clear HR n2 n3 hx hret
  have AB := (Below.refl w10.heap.size w10).alloc (Nat.le_refl _) (.cells #[.int .i64 (j : Int), .int .i64 p.s, .int .i64 0, .int .i64 p.sp, .int .i64 0, .int .i64 ch] 178)
  have GB := FX.keep GX AB
  obtain ⟨a0, a1⟩ := FX.ca GX
  obtain ⟨o0, o1, o2, o3, jk⟩ := BX.four
  clear jk
  obtain ⟨b0, b1⟩ := FX.ca GB
  obtain ⟨r0, r1, r2, r3, jk⟩ := (BX.keep AB).four
  clear jk b1 a1
  have KB := bk_new w10 #[.int .i64 (j : Int), .int .i64 p.s, .int .i64 0, .int .i64 p.sp, .int .i64 0, .int .i64 ch] 178
  go_upto_region 33 with fail
  go_cut [11, 14] from 180 to 185 (fun v11 v14 wx => v11 = .bool true ∧ ∃ K, v14 = .pointer (some ⟨K, 0, none⟩) ∧ Bk wx K #[.int .i64 (j : Int), .int .i64 p.s, .int .i64 0, .int .i64 p.sp, .int .i64 0, .int .i64 ch] 178 ∧ G p wx)
  case first =>
   refine wp_region_held_drew (S := fun w' => w'.cell? ⟨w.heap.size, 0, none⟩ = some (.int .i64 (j : Int)) ∧ w'.cell? ⟨O, 0, none⟩ = some (.int .i64 p.s) ∧ w'.cell? ⟨O, 1, none⟩ = some (.int .i64 0) ∧ w'.cell? ⟨O, 2, none⟩ = some (.int .i64 p.sp) ∧ w'.cell? ⟨O, 3, none⟩ = some (.int .i64 0)) (by kernel_rfl) ⟨a0, o0, o1, o2, o3⟩ (fun hHeld => ?_)
   refine tk 0 ?_; try simp only [ly]
   refine tk 1 ?_; try simp only [ly]
   refine tk 2 ?_; try simp only [ly]
   refine tk 3 ?_; try simp only [ly]
   refine' wpAnyH_take (i := 4) (v := _) rfl (by kernel_rfl) (by kernel_rfl) (by kernel_rfl) (fun _ _ _ h => h) (yields_build3 (by rfl) 178 _ _ _ 0 1 2 (by rfl) _ _ _ _ (fun w => fact_build (j : Int) ch ⟨p.s, 0, p.sp, 0⟩ w) (by rfl) (by rfl) (by rfl)) (by assumption) ?gr12
   try simp only [ly]
   refine tk 6 ?_; try simp only [ly]
   refine rd 5 (fun K hK => ?_)
   go_simp
   skip
   try go_wp2_with fail
   clear hHeld
   refine hK.out _ _ (⟨b0, r0, r1, r2, r3⟩) (fun hHeld => ?_)
   clear hK K
   try simp only [ly]
   refine tk 7 ?_; try simp only [ly]
   refine wpAnyH_done (by kernel_rfl) ?_ _
   repeat (first | go_guarded | go_step)
   go_meet
   first
    | exact ⟨rfl, _, rfl, KB, GB⟩
    | exact ⟨rfl, _, rfl, KB, FX.keep GB (Below.refl _ _).drew⟩
  case rest =>
   clear GB KB AB a0 o0 o1 o2 o3 b0 r0 r1 r2 r3
   obtain ⟨rfl, K, rfl, KB, GB⟩ := hcut
   have hKQ : K ≠ Q := fun e => by
    have hq := FX.bq GB
    rw [<- e] at hq
    unfold Bk at KB hq
    rw [KB] at hq
    simp only [Option.some.injEq, Obj.cells.injEq] at hq
    exact absurd hq.2.1 (by decide)
   have d2 := (FX.cd GB).2.1
   obtain ⟨q0, q1, q2, q3, z0, z1, z2, z3⟩ := FX.cq GB
   have GC := FX.s2 (FX.s0 GB dv.addr) ch
   have KC : Bk ((wc.setCell ⟨Q, 0, none⟩ (.int .i64 dv.addr)).setCell ⟨Q, 2, none⟩ (.int .i64 ch)) K #[.int .i64 (j : Int), .int .i64 p.s, .int .i64 0, .int .i64 p.sp, .int .i64 0, .int .i64 ch] 178 := (KB.setO hKQ _).setO hKQ _
   clear q1 q3 z1 z3
   repeat (first | go_guarded | go_step)
   go_meet
   exact ⟨rfl, by simp, ⟨K, rfl, KC⟩, GC, rfl⟩
theorem sw_k5a {w w8 : World} {g b o : Nat} {L : Option Addr} {c d : Nat} {F : Option Addr} {cF : Nat} {ds : List Dv} {ls : List Lk} {FL : List Ft} {j : Nat} {q : Int} {p : Pk} {ch : Int} {dv : Dv} {Ab Ar At : Option Addr} {nb cb nr cr nt ct : Nat} {D Q : Nat} {G : Pk -> World -> Prop} {r : MR} (HR : Hid (mSend dv FL (j : Int) q p ch = r)) (HKK : Hid (dv.kind = 5)) (hq4 : 0 <= q) (hq5 : q < 2) (hq0 : ¬ q = 0) (FX : HFacts w g (some ⟨b, o, none⟩) L c d F cF ds ls FL (j : Int) q p ch dv 5 (.slice Ab nb cb) (.slice Ar nr cr) (.slice At nt ct) D Q G) (G8 : G p w8) (R : Ending -> World -> Prop) (c1 c2 c3 c4 c15 c16 c17 c18 c19 c20 c21 c22 c23 c24 c25 c26 c27 c28 c29 c30 c31 c32 c33 c34 c35 c36 c37 c38 c39 c40 c41 c42 c43 c44 c45 c46 c47 c48 c49 c50 c51 c52 c53 c54 c55 c56 c57 c58 c59 c60 c61 c62 c63 c64 c65 c66 c67 c68 c69 c70 c72 c73 c74 c75 c76 c77 c78 c79 c80 c81 c82 c83 c84 c85 c86 c87 c88 c89 c90 c91 c92 c93 c94 c95 c96 c97 c98 c99 c100 c101 c102 c103 c104 c105 c106 c107 c108 c109 c110 c111 c112 c113 c114 c115 c116 c117 c118 c119 c120 c121 c122 c123 c124 c125 c126 c127 c128 c129 c130 c131 c132 c133 c134 c135 c136 c137 c138 c139 c140 c141 c142 c143 c144 c145 c146 c147 c148 c149 c150 c151 c152 c153 c154 c155 c156 c157 c158 c159 c160 c161 c162 c163 c164 c165 c166 c167 c168 c169 c170 c171 c172 c173 c174 c175 c176 c177 c178 c179 c180 c181 c182 c183 c184 c185 c186 c187 c188 c189 c190 c191 c192 c193 c194 c195 c196 c197 c198 c199 c200 c201 c202 c203 c204 c205 c206 c207 c208 c209 c210 c211 c212 c213 c214 c215 c216 c217 c218 c219 c220 c221 c222 c223 c224 c225 c226 c227 c228 c229 c230 c231 c232 c233 c234 c235 c236 c237 c238 c239 c240 c241 c242 c243 c244 c245 c246 c247 c248 c249 c250 c251 c252 c253 c254 c255 c256 c257 c258 c259 c260 c261 c262 c263 c264 c265 c266 c267 c268 c269 c270 c271 c272 c273 c274 c275 c276 c277 c278 c279 c280 c281 c282 c283 c284 c285 c286 c287 c288 c289 c290 c291 c292 c293 c294 c295 c296 c297 c298 : Value) (J K' : Act -> World -> Prop) (h1 : ∀ a' w', SwR w g D Q 5 c1 c2 c3 c4 c21 c22 c23 c24 c25 c26 c27 c28 c29 c30 c31 c32 c33 c34 c35 c36 c37 c38 c39 c40 c41 c42 c43 c44 c45 c46 c47 c48 c49 c50 c51 c52 c53 c54 c55 c56 c57 c58 c59 c60 c61 c62 c63 c64 c65 c66 c67 c68 c69 c70 c252 c253 c254 c255 c256 c257 c258 c259 c260 c261 c262 c263 c264 c265 c266 c267 c268 c269 c270 c271 c272 c273 c274 c275 c276 c277 c278 c279 c280 c281 c282 c283 c284 c285 c286 c287 c288 c289 c290 c291 c292 c293 c294 c295 c296 c297 c298 (fun v11 v12 v14 wx => v11 = .bool r.out ∧ v12 = .int .i64 r.port ∧ KN r.k v14 wx ∧ G r.p wx ∧ r.err = 0) a' w' -> J a' w') (h2 : ∀ a' w', Met J a' w' -> K' a' w') : swCode.wp Tryz.prog (Exit.then K' (QZ R)) ⟨#[.pointer (some ⟨g, 0, none⟩), c1, c2, c3, c4, .pointer (some ⟨w.heap.size, 0, none⟩), .pointer (some ⟨w.heap.size + 1, 0, none⟩), .pointer (some ⟨w.heap.size + 1 + 1, 0, none⟩), .pointer (some ⟨w.heap.size + 1 + 1 + 1, 0, none⟩), .int .i64 0, .pointer (some ⟨D, 0, none⟩), .bool false, .int .i64 (1 - q), .pointer (some ⟨Q, 0, none⟩), .pointer none, c15, c16, c17, c18, c19, c20, c21, c22, c23, c24, c25, c26, c27, c28, c29, c30, c31, c32, c33, c34, c35, c36, c37, c38, c39, c40, c41, c42, c43, c44, c45, c46, c47, c48, c49, c50, c51, c52, c53, c54, c55, c56, c57, c58, c59, c60, c61, c62, c63, c64, c65, c66, c67, c68, c69, c70, .int .i64 5, c72, c73, c74, c75, c76, c77, c78, c79, c80, c81, c82, c83, c84, c85, c86, c87, c88, c89, c90, c91, c92, c93, c94, c95, c96, c97, c98, c99, c100, c101, c102, c103, c104, c105, c106, c107, c108, c109, c110, c111, c112, c113, c114, c115, c116, c117, c118, c119, c120, c121, c122, c123, c124, c125, c126, c127, c128, c129, c130, c131, c132, c133, c134, c135, c136, c137, c138, c139, c140, c141, c142, c143, c144, c145, c146, c147, c148, c149, c150, c151, c152, c153, c154, c155, c156, c157, c158, c159, c160, c161, c162, c163, c164, c165, c166, c167, c168, c169, c170, c171, c172, c173, c174, c175, c176, c177, c178, c179, c180, c181, c182, c183, c184, c185, c186, c187, c188, c189, c190, c191, c192, c193, c194, c195, c196, c197, c198, c199, c200, c201, c202, c203, c204, c205, c206, c207, c208, c209, c210, c211, c212, c213, c214, c215, c216, c217, c218, c219, c220, c221, c222, c223, c224, c225, c226, c227, c228, c229, c230, c231, c232, c233, c234, c235, c236, c237, c238, c239, c240, c241, c242, c243, c244, c245, c246, c247, c248, c249, c250, c251, c252, c253, c254, c255, c256, c257, c258, c259, c260, c261, c262, c263, c264, c265, c266, c267, c268, c269, c270, c271, c272, c273, c274, c275, c276, c277, c278, c279, c280, c281, c282, c283, c284, c285, c286, c287, c288, c289, c290, c291, c292, c293, c294, c295, c296, c297, c298], []⟩ w8 := by
 unfold SwR at h1
 conv => arg 2; whnf
 have d1 := (FX.cd G8).1
 have n2 : ¬ dv.kind = 2 := by rw [HKK.out]; decide
 have n3 : ¬ dv.kind = 3 := by rw [HKK.out]; decide
 have n4 : ¬ dv.kind = 4 := by rw [HKK.out]; decide
 obtain rfl : q = 1 := by omega
 obtain ⟨a0, a1⟩ := FX.ca G8
 obtain ⟨p0, p1, p2, p3⟩ := FX.cp G8
 have d2 := (FX.cd G8).2.1
 have GO := FX.keep G8 ((Below.refl w8.heap.size w8).alloc (Nat.le_refl _) (.cells #[.int .i64 p.d, .int .i64 dv.addr, .int .i64 p.dp, .int .i64 p.sp] 29))
 have BO := bk_new w8 #[.int .i64 p.d, .int .i64 dv.addr, .int .i64 p.dp, .int .i64 p.sp] 29
 go_upto_region 38 with fail
 go_step
 go_step
 go_step
 go_step
 go_step
 go_step
 go_step
 go_step
 go_step
 go_step
 go_step
 go_step
 go_step
 go_step
 go_step
 go_step
 go_step
 go_step
 go_step
 go_step
 go_step
 go_step
 go_step
 go_step
 go_step
 go_step
 refine wp_build4 29 _ _ _ _ 0 2 1 3 (by rfl) _ _ _ _ _ (pk_build4 p.d dv.addr p.dp p.sp _) (by rfl) (by rfl) (by rfl) (by rfl) ?_
 repeat (first | go_guarded | go_step)
 refine (FX.f5 GO w8.heap.size ⟨p.d, dv.addr, p.dp, p.sp⟩ BO).mono ?_
 rintro e w9 ⟨x, rfl, hx, hb9⟩
 dsimp only
 have G9 := FX.keep GO hb9
 have d2 := (FX.cd G9).2.1
 obtain ⟨q0, q1, q2, q3, z0, z1, z2, z3⟩ := FX.cq G9
 have hxa := idx_any hx.out
 clear d1 a0 a1 p0 p1 p2 p3 GO BO hb9 G8 hx
 cases hal : FL.any (fun f => ftB f ⟨(j : Int), ⟨p.d, dv.addr, p.dp, p.sp⟩, p.s⟩)
 ·rw [hal] at hxa
  as_aux_lemma =>
   have hv : r = ⟨0, true, 0, p, none⟩ := by
    rw [<- HR.out]
    unfold mSend
    rw [if_neg n2, if_neg n3, if_neg n4, if_pos HKK.out, if_neg hq0, if_neg (by rw [hal]; exact Bool.false_ne_true)]
   subst hv
   clear HR n2 n3 n4 hq0
   repeat (first | go_guarded | go_step)
   go_meet
   exact ⟨rfl, by simp, rfl, G9, rfl⟩
 rw [hal] at hxa
 as_aux_lemma =>
  have hv : r = ⟨0, true, 0, ⟨dv.addr, p.d, p.sp, p.dp⟩, none⟩ := by
   rw [<- HR.out]
   unfold mSend
   rw [if_neg n2, if_neg n3, if_neg n4, if_pos HKK.out, if_neg hq0, if_pos hal]
  subst hv
  have GC := FX.s0 G9 dv.addr
  clear HR n2 n3 n4 hq0 q1 q2 q3 z1 z2 z3
  repeat (first | go_guarded | go_step)
  go_meet
  exact ⟨rfl, by simp, rfl, GC, rfl⟩
end Go.Proofs.YtppbfikimalojaaGreat
