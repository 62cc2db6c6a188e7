/-
  XAG.
-/
import Derived.Test.YtmcklkkkkigflaaGreatXAF
import Derived.Deep.DeepCutAuto
set_option maxHeartbeats 8000000
set_option maxRecDepth 100000
namespace Go.Proofs.YtmcklkkkkigflaaGreat
open Go.RowKit Go.Maps
section
variable {base q a M : Nat} {w0 w : World} {ns : List Nd} {er : Int}
theorem sl_one {W : World} {k : Nat} {x : Int} {t : TypeId} (h : Bz W k #[.int .i64 x] t) : SlAt W.heap.size W 1 IsI (.slice (some ⟨k, 0, none⟩) 1 1) [x] := by
 refine ⟨some ⟨k, 0, none⟩, 1, rfl, (fun e => by cases e), Nat.le_refl _, (by unfold maxLen; omega), fun _ => ⟨k, 0, rfl, h.lt, fun j y hj => ?_⟩⟩
 rcases j with _ | j
 ·obtain rfl : x = y := by simpa using hj
  refine ⟨[.int .i64 x], rfl, rfl, fun i u hi => ?_⟩
  rcases i with _ | i
  ·obtain rfl : Value.int .i64 x = u := by simpa using hi
   exact h.cell 0 _ rfl
  ·simp at hi
 ·simp at hj
theorem set_one {x : Int} (h0 : 0 <= x) (h16 : x < 16) : setL [x] 0 < 65536 := setL_lt _ _ (fun y hy => by simp at hy; omega) (by omega)
def AnB (F : FuncId) (base q a M : Nat) (w0 : World) (φ ψ : Env -> Bool) (g : Nat) : Prop :=
 ∀ w ns er (i : Nat), Bn base q a M w0 w ns er -> Fn ns er i φ -> Calls Tryz.prog F #[.pointer (some ⟨q, 0, none⟩), .int .i64 (i : Int)] w (BOut base q a M w0 w ns er g ψ)
theorem own_b (h : Bn base q a M w0 w ns er) {nm : ByteArray} {kd ad pl : Int} {Ab A At : Option Addr} {nb cb n cap nt ct : Nat} {f0 f1 f2 f3 : Nat} {gA : Nat} {φ : Env -> Bool} (h0 : 0 <= ad) (h16 : ad < 16) (AB : AndB base q a M w0 φ (phi 65535 (setL [ad] 0) 255 255) gA) (hf : Fn ns er f0 φ) :
  Calls Tryz.prog 137 #[.pointer (some ⟨q, 0, none⟩), .agg #[.string nm, .int .i64 kd, .int .i64 ad, .int .u8 pl, .slice Ab nb cb, .slice A n cap, .slice At nt ct], .agg #[.int .i64 (f0 : Int), .int .i64 (f1 : Int), .int .i64 (f2 : Int), .int .i64 (f3 : Int)]] w (BOut base q a M w0 w ns er (0 + 44 + gA) (fun x => φ x && (phi 65535 (setL [ad] 0) 255 255) x)) := by
 have h1 := ((h.alloc (.cells #[.string nm, .int .i64 kd, .int .i64 ad, .int .u8 pl, .slice Ab nb cb, .slice A n cap, .slice At nt ct] 91)).alloc (.cells #[.int .i64 (f0 : Int), .int .i64 (f1 : Int), .int .i64 (f2 : Int), .int .i64 (f3 : Int)] 80)).drew
 have Z1 : Bz ((w.alloc (.cells #[.string nm, .int .i64 kd, .int .i64 ad, .int .u8 pl, .slice Ab nb cb, .slice A n cap, .slice At nt ct] 91)).alloc (.cells #[.int .i64 (f0 : Int), .int .i64 (f1 : Int), .int .i64 (f2 : Int), .int .i64 (f3 : Int)] 80)).drew w.heap.size #[.string nm, .int .i64 kd, .int .i64 ad, .int .u8 pl, .slice Ab nb cb, .slice A n cap, .slice At nt ct] 91 := (Bz.new w _ _ _ rfl).al _
 have Z2 : Bz ((w.alloc (.cells #[.string nm, .int .i64 kd, .int .i64 ad, .int .u8 pl, .slice Ab nb cb, .slice A n cap, .slice At nt ct] 91)).alloc (.cells #[.int .i64 (f0 : Int), .int .i64 (f1 : Int), .int .i64 (f2 : Int), .int .i64 (f3 : Int)] 80)).drew (w.heap.size + 1) #[.int .i64 (f0 : Int), .int .i64 (f1 : Int), .int .i64 (f2 : Int), .int .i64 (f3 : Int)] 80 := Bz.new (w.alloc _) _ _ _ (by show _ = (w.heap.push _).size; rw [Array.size_push])
 have s0 := Stt.start h1 (T := w) (by exact (tf_two w _ _).trans (TF.below (Below.refl _ _).drew))
 have d2 := Z1.cell 2 (.int .i64 ad) rfl
 have p0 := Z2.cell 0 (.int .i64 (f0 : Int)) rfl
 have CH : ∃ v, Hq (Calls Tryz.prog 134 #[.slice (some ⟨w.heap.size + 1 + 1, 0, none⟩) 1 1] (((w.alloc (.cells #[.string nm, .int .i64 kd, .int .i64 ad, .int .u8 pl, .slice Ab nb cb, .slice A n cap, .slice At nt ct] 91)).alloc (.cells #[.int .i64 (f0 : Int), .int .i64 (f1 : Int), .int .i64 (f2 : Int), .int .i64 (f3 : Int)] 80)).drew.alloc (.cells #[.int .i64 ad] 3)) (Nv (fun w1 => w1.cell? ⟨w.heap.size, 2, none⟩ = some (.int .i64 ad) ∧ w1.cell? ⟨w.heap.size + 1, 0, none⟩ = some (.int .i64 (f0 : Int))) v fun w1 => Calls Tryz.prog 133 #[.pointer (some ⟨q, 0, none⟩), v] w1 (Nx (fun w1 => w1.cell? ⟨w.heap.size, 2, none⟩ = some (.int .i64 ad) ∧ w1.cell? ⟨w.heap.size + 1, 0, none⟩ = some (.int .i64 (f0 : Int))) fun fm w2 => Calls Tryz.prog 127 #[.pointer (some ⟨q, 0, none⟩), .int .i64 (f0 : Int), .int .i64 (fm : Int)] w2 (Nx (fun w1 => w1.cell? ⟨w.heap.size, 2, none⟩ = some (.int .i64 ad) ∧ w1.cell? ⟨w.heap.size + 1, 0, none⟩ = some (.int .i64 (f0 : Int))) fun ff w3 => BOut base q a M w0 w ns er (0 + 44 + gA) (fun x => φ x && (phi 65535 (setL [ad] 0) 255 255) x) (.returned (.int .i64 (ff : Int))) w3)))) := ⟨mt 65535 (setL [ad] 0) 255 255, by
  have hC : ∀ w1, TF ((w.alloc (.cells #[.string nm, .int .i64 kd, .int .i64 ad, .int .u8 pl, .slice Ab nb cb, .slice A n cap, .slice At nt ct] 91)).alloc (.cells #[.int .i64 (f0 : Int), .int .i64 (f1 : Int), .int .i64 (f2 : Int), .int .i64 (f3 : Int)] 80)).drew w1 -> (fun w1 => w1.cell? ⟨w.heap.size, 2, none⟩ = some (.int .i64 ad) ∧ w1.cell? ⟨w.heap.size + 1, 0, none⟩ = some (.int .i64 (f0 : Int))) w1 := fun w1 tf => ⟨(tf _ _ _ Z1 (by decide)).cell 2 _ rfl, (tf _ _ _ Z2 (by decide)).cell 0 _ rfl⟩
  have Z3 : Bz (((w.alloc (.cells #[.string nm, .int .i64 kd, .int .i64 ad, .int .u8 pl, .slice Ab nb cb, .slice A n cap, .slice At nt ct] 91)).alloc (.cells #[.int .i64 (f0 : Int), .int .i64 (f1 : Int), .int .i64 (f2 : Int), .int .i64 (f3 : Int)] 80)).drew.alloc (.cells #[.int .i64 ad] 3)) (w.heap.size + 1 + 1) #[.int .i64 ad] 3 := Bz.new _ _ _ _ (by show _ = ((w.heap.push _).push _).size; rw [Array.size_push, Array.size_push])
  have s1 := s0.grow ((Below.refl _ _).alloc (Nat.le_refl _) (.cells #[.int .i64 ad] 3))
  refine Hq.mk ?_
  exact s1.quiet hC (dstIn_any _ [ad] _ (sl_one Z3) (fun y hy => by simp at hy; omega)) fun w1 s2 => s2.call hC (match_b s2.bn 65535 (setL [ad] 0) 255 255 (by omega) (set_one h0 h16) (by omega) (by omega)) fun fm w2 ns2 er2 s3 hm l1 => s3.call hC (AB _ _ _ _ _ s3.bn (l1 hf) hm) fun ff w3 ns3 er3 s4 hb _ => s4.fin hb⟩
 obtain ⟨v, CH⟩ := CH
 clear h h1 Z1 Z2 s0 AB hf
 go_enter Tryz.func137, Tryz.ntmps137
 go_wp2_with fail
 go_region_held3 (fun w' => w'.cell? ⟨w.heap.size, 2, none⟩ = some (.int .i64 ad) ∧ w'.cell? ⟨w.heap.size + 1, 0, none⟩ = some (.int .i64 (f0 : Int))) (go_keep)
  ((first
    | (go_at_call 134; refine CH.out.mono ?_; rintro e w1 ⟨rfl, ⟨y0, y1⟩, C2⟩; have CH2 := Hq.mk C2; clear C2)
    | (go_at_call 133; refine CH2.out.mono ?_; rintro e w2 ⟨fm, rfl, ⟨x0, x1⟩, C3⟩; have CH3 := Hq.mk C3; clear C3)
    | (go_at_call 127; refine CH3.out.mono ?_; rintro e w3 ⟨ff, rfl, ⟨u0, u1⟩, FF⟩)))
 all_goals
  go_wp2_with fail
  go_ret
  exact FF
theorem hide_b (h : Bn base q a M w0 w ns er) {nm : ByteArray} {kd ad pl : Int} {Ab A At : Option Addr} {nb cb n cap nt ct : Nat} {f0 f1 f2 f3 : Nat} {pn g1 g2 gA : Nat} {φ φ1 φ2 : Env -> Bool} (h0 : 0 <= ad) (h16 : ad < 16) (hp : pl = (pn : Int)) (hpn : pn < 256) (N1 : AnB 132 base q a M w0 φ φ1 g1) (N2 : AnB 131 base q a M w0 φ1 φ2 g2) (AB : AndB base q a M w0 φ2 (phi (setL [ad] 0) 65535 pn 255) gA) (hf : Fn ns er f0 φ) :
  Calls Tryz.prog 107 #[.pointer (some ⟨q, 0, none⟩), .agg #[.string nm, .int .i64 kd, .int .i64 ad, .int .u8 pl, .slice Ab nb cb, .slice A n cap, .slice At nt ct], .agg #[.int .i64 (f0 : Int), .int .i64 (f1 : Int), .int .i64 (f2 : Int), .int .i64 (f3 : Int)]] w (BOut base q a M w0 w ns er (0 + g1 + g2 + 44 + gA) (fun x => φ2 x && (phi (setL [ad] 0) 65535 pn 255) x)) := by
 subst hp
 have h1 := ((h.alloc (.cells #[.string nm, .int .i64 kd, .int .i64 ad, .int .u8 (pn : Int), .slice Ab nb cb, .slice A n cap, .slice At nt ct] 91)).alloc (.cells #[.int .i64 (f0 : Int), .int .i64 (f1 : Int), .int .i64 (f2 : Int), .int .i64 (f3 : Int)] 80))
 have Z1 : Bz ((w.alloc (.cells #[.string nm, .int .i64 kd, .int .i64 ad, .int .u8 (pn : Int), .slice Ab nb cb, .slice A n cap, .slice At nt ct] 91)).alloc (.cells #[.int .i64 (f0 : Int), .int .i64 (f1 : Int), .int .i64 (f2 : Int), .int .i64 (f3 : Int)] 80)) w.heap.size #[.string nm, .int .i64 kd, .int .i64 ad, .int .u8 (pn : Int), .slice Ab nb cb, .slice A n cap, .slice At nt ct] 91 := (Bz.new w _ _ _ rfl).al _
 have Z2 : Bz ((w.alloc (.cells #[.string nm, .int .i64 kd, .int .i64 ad, .int .u8 (pn : Int), .slice Ab nb cb, .slice A n cap, .slice At nt ct] 91)).alloc (.cells #[.int .i64 (f0 : Int), .int .i64 (f1 : Int), .int .i64 (f2 : Int), .int .i64 (f3 : Int)] 80)) (w.heap.size + 1) #[.int .i64 (f0 : Int), .int .i64 (f1 : Int), .int .i64 (f2 : Int), .int .i64 (f3 : Int)] 80 := Bz.new (w.alloc _) _ _ _ (by show _ = (w.heap.push _).size; rw [Array.size_push])
 have s0 := Stt.start h1 (T := w) (by exact tf_two w _ _)
 have d2 := Z1.cell 2 (.int .i64 ad) rfl
 have d3 := Z1.cell 3 (.int .u8 (pn : Int)) rfl
 have p0 := Z2.cell 0 (.int .i64 (f0 : Int)) rfl
 have hz := set_one h0 h16
 have HS : Hid (Calls Tryz.prog 49 #[.slice (some ⟨w.heap.size + 1 + 1, 0, none⟩) 1 1] (((w.alloc (.cells #[.string nm, .int .i64 kd, .int .i64 ad, .int .u8 (pn : Int), .slice Ab nb cb, .slice A n cap, .slice At nt ct] 91)).alloc (.cells #[.int .i64 (f0 : Int), .int .i64 (f1 : Int), .int .i64 (f2 : Int), .int .i64 (f3 : Int)] 80)).alloc (.cells #[.int .i64 ad] 3)) fun e w' => e = .returned (mt (setL [ad] 0) 65535 255 255) ∧ Below (((w.alloc (.cells #[.string nm, .int .i64 kd, .int .i64 ad, .int .u8 (pn : Int), .slice Ab nb cb, .slice A n cap, .slice At nt ct] 91)).alloc (.cells #[.int .i64 (f0 : Int), .int .i64 (f1 : Int), .int .i64 (f2 : Int), .int .i64 (f3 : Int)] 80)).alloc (.cells #[.int .i64 ad] 3)).heap.size (((w.alloc (.cells #[.string nm, .int .i64 kd, .int .i64 ad, .int .u8 (pn : Int), .slice Ab nb cb, .slice A n cap, .slice At nt ct] 91)).alloc (.cells #[.int .i64 (f0 : Int), .int .i64 (f1 : Int), .int .i64 (f2 : Int), .int .i64 (f3 : Int)] 80)).alloc (.cells #[.int .i64 ad] 3)) w') := srcIn_any _ [ad] _ (sl_one (Bz.new _ _ _ _ (by show _ = ((w.heap.push _).push _).size; rw [Array.size_push, Array.size_push]))) (fun y hy => by simp at hy; omega)
 generalize setL [ad] 0 = z at *
 have CH : Hq (Calls Tryz.prog 49 #[.slice (some ⟨w.heap.size + 1 + 1, 0, none⟩) 1 1] (((w.alloc (.cells #[.string nm, .int .i64 kd, .int .i64 ad, .int .u8 (pn : Int), .slice Ab nb cb, .slice A n cap, .slice At nt ct] 91)).alloc (.cells #[.int .i64 (f0 : Int), .int .i64 (f1 : Int), .int .i64 (f2 : Int), .int .i64 (f3 : Int)] 80)).alloc (.cells #[.int .i64 ad] 3)) (Nv (fun w1 => w1.cell? ⟨w.heap.size, 3, none⟩ = some (.int .u8 (pn : Int)) ∧ w1.cell? ⟨w.heap.size + 1, 0, none⟩ = some (.int .i64 (f0 : Int))) (mt z 65535 255 255) fun w2 => w.heap.size + 1 < w2.heap.size ∧ Calls Tryz.prog 132 #[.pointer (some ⟨q, 0, none⟩), .int .i64 (f0 : Int)] ((w2.alloc (.cells #[.int .u16 (z : Int), .int .u16 65535, .int .u8 (pn : Int), .int .u8 255] 34)).drew) (Nx (fun w1 => w1.cell? ⟨w.heap.size + 1, 0, none⟩ = some (.int .i64 (f0 : Int)) ∧ w1.cell? ⟨w2.heap.size, 0, none⟩ = some (.int .u16 (z : Int)) ∧ w1.cell? ⟨w2.heap.size, 1, none⟩ = some (.int .u16 65535) ∧ w1.cell? ⟨w2.heap.size, 2, none⟩ = some (.int .u8 (pn : Int)) ∧ w1.cell? ⟨w2.heap.size, 3, none⟩ = some (.int .u8 255)) fun fa w3 => Calls Tryz.prog 131 #[.pointer (some ⟨q, 0, none⟩), .int .i64 (fa : Int)] w3 (Nx (fun w1 => w1.cell? ⟨w.heap.size + 1, 0, none⟩ = some (.int .i64 (f0 : Int)) ∧ w1.cell? ⟨w2.heap.size, 0, none⟩ = some (.int .u16 (z : Int)) ∧ w1.cell? ⟨w2.heap.size, 1, none⟩ = some (.int .u16 65535) ∧ w1.cell? ⟨w2.heap.size, 2, none⟩ = some (.int .u8 (pn : Int)) ∧ w1.cell? ⟨w2.heap.size, 3, none⟩ = some (.int .u8 255)) fun fb w4 => Calls Tryz.prog 133 #[.pointer (some ⟨q, 0, none⟩), .agg #[.int .u16 (z : Int), .int .u16 65535, .int .u8 (pn : Int), .int .u8 255]] w4 (Nx (fun w1 => w1.cell? ⟨w.heap.size + 1, 0, none⟩ = some (.int .i64 (f0 : Int)) ∧ w1.cell? ⟨w2.heap.size, 0, none⟩ = some (.int .u16 (z : Int)) ∧ w1.cell? ⟨w2.heap.size, 1, none⟩ = some (.int .u16 65535) ∧ w1.cell? ⟨w2.heap.size, 2, none⟩ = some (.int .u8 (pn : Int)) ∧ w1.cell? ⟨w2.heap.size, 3, none⟩ = some (.int .u8 255)) fun fm w5 => Calls Tryz.prog 127 #[.pointer (some ⟨q, 0, none⟩), .int .i64 (fb : Int), .int .i64 (fm : Int)] w5 (Nx (fun w1 => w1.cell? ⟨w.heap.size + 1, 0, none⟩ = some (.int .i64 (f0 : Int)) ∧ w1.cell? ⟨w2.heap.size, 0, none⟩ = some (.int .u16 (z : Int)) ∧ w1.cell? ⟨w2.heap.size, 1, none⟩ = some (.int .u16 65535) ∧ w1.cell? ⟨w2.heap.size, 2, none⟩ = some (.int .u8 (pn : Int)) ∧ w1.cell? ⟨w2.heap.size, 3, none⟩ = some (.int .u8 255)) fun ff w6 => BOut base q a M w0 w ns er (0 + g1 + g2 + 44 + gA) (fun x => φ2 x && (phi z 65535 pn 255) x) (.returned (.int .i64 (ff : Int))) w6)))))) := ⟨by
  have hC : ∀ w1, TF ((w.alloc (.cells #[.string nm, .int .i64 kd, .int .i64 ad, .int .u8 (pn : Int), .slice Ab nb cb, .slice A n cap, .slice At nt ct] 91)).alloc (.cells #[.int .i64 (f0 : Int), .int .i64 (f1 : Int), .int .i64 (f2 : Int), .int .i64 (f3 : Int)] 80)) w1 -> (fun w1 => w1.cell? ⟨w.heap.size, 3, none⟩ = some (.int .u8 (pn : Int)) ∧ w1.cell? ⟨w.heap.size + 1, 0, none⟩ = some (.int .i64 (f0 : Int))) w1 := fun w1 tf => ⟨(tf _ _ _ Z1 (by decide)).cell 3 _ rfl, (tf _ _ _ Z2 (by decide)).cell 0 _ rfl⟩
  have s1 := s0.grow ((Below.refl _ _).alloc (Nat.le_refl _) (.cells #[.int .i64 ad] 3))
  refine s1.quiet hC HS.out fun w2 s2 => ?_
  have b3 := (s2.bn.alloc (.cells #[.int .u16 (z : Int), .int .u16 65535, .int .u8 (pn : Int), .int .u8 255] 34)).drew
  have s3 := Stt.start b3 (T := w) (s2.tt.trans ((TF.below ((Below.refl _ w2).alloc (Nat.le_refl _) _)).trans (TF.below (Below.refl _ _).drew)))
  have Y2 := s2.tf _ _ _ Z2 (by decide)
  have Y3 : Bz ((w2.alloc (.cells #[.int .u16 (z : Int), .int .u16 65535, .int .u8 (pn : Int), .int .u8 255] 34)).drew) (w.heap.size + 1) _ _ := Y2.al _
  have Z3 : Bz ((w2.alloc (.cells #[.int .u16 (z : Int), .int .u16 65535, .int .u8 (pn : Int), .int .u8 255] 34)).drew) w2.heap.size #[.int .u16 (z : Int), .int .u16 65535, .int .u8 (pn : Int), .int .u8 255] 34 := Bz.new w2 _ _ _ rfl
  have hC3 : ∀ w1, TF ((w2.alloc (.cells #[.int .u16 (z : Int), .int .u16 65535, .int .u8 (pn : Int), .int .u8 255] 34)).drew) w1 -> (fun w1 => w1.cell? ⟨w.heap.size + 1, 0, none⟩ = some (.int .i64 (f0 : Int)) ∧ w1.cell? ⟨w2.heap.size, 0, none⟩ = some (.int .u16 (z : Int)) ∧ w1.cell? ⟨w2.heap.size, 1, none⟩ = some (.int .u16 65535) ∧ w1.cell? ⟨w2.heap.size, 2, none⟩ = some (.int .u8 (pn : Int)) ∧ w1.cell? ⟨w2.heap.size, 3, none⟩ = some (.int .u8 255)) w1 := fun w1 tf => ⟨(tf _ _ _ Y3 (by decide)).cell 0 _ rfl, (tf _ _ _ Z3 (by decide)).cell 0 _ rfl, (tf _ _ _ Z3 (by decide)).cell 1 _ rfl, (tf _ _ _ Z3 (by decide)).cell 2 _ rfl, (tf _ _ _ Z3 (by decide)).cell 3 _ rfl⟩
  exact ⟨Y2.lt, s3.call hC3 (N1 _ _ _ _ s3.bn hf) fun fa w3 _ _ s4 ha l1 => s4.call hC3 (N2 _ _ _ _ s4.bn ha) fun fb w4 _ _ s5 hb l2 => s5.call hC3 (match_b s5.bn z 65535 pn 255 hz (by omega) hpn (by omega)) fun fm w5 _ _ s6 hm l3 => s6.call hC3 (AB _ _ _ _ _ s6.bn (l3 hb) hm) fun ff w6 _ _ s7 hh _ => s7.fin hh⟩⟩
 unfold mt at CH
 clear h h1 Z1 Z2 s0 AB hf N1 N2 HS
 go_enter Tryz.func107, Tryz.ntmps107
 go_wp2_with fail
 refine CH.out.mono ?_
 rintro e w2 ⟨rfl, ⟨y3, y0⟩, lt2, C2⟩
 have CH2 := Hq.mk C2
 have lt1 : w.heap.size < w2.heap.size := by omega
 have ne1 : ¬ w.heap.size = w2.heap.size := by omega
 have ne2 : ¬ w.heap.size + 1 = w2.heap.size := by omega
 have t3 := (Below.cell ((Below.refl _ w2).alloc (Nat.le_refl _) (.cells #[.int .u16 (z : Int), .int .u16 65535, .int .u8 255, .int .u8 255] 34)) (p := ⟨w.heap.size, 3, none⟩) lt1).trans y3
 clear C2 CH
 go_wp2_with fail
 go_region_held3 ((fun w1 => w1.cell? ⟨w.heap.size + 1, 0, none⟩ = some (.int .i64 (f0 : Int)) ∧ w1.cell? ⟨w2.heap.size, 0, none⟩ = some (.int .u16 (z : Int)) ∧ w1.cell? ⟨w2.heap.size, 1, none⟩ = some (.int .u16 65535) ∧ w1.cell? ⟨w2.heap.size, 2, none⟩ = some (.int .u8 (pn : Int)) ∧ w1.cell? ⟨w2.heap.size, 3, none⟩ = some (.int .u8 255))) (go_keep)
  ((first
    | (go_at_call 132; refine CH2.out.mono ?_; rintro e w3 ⟨fa, rfl, ⟨a0, a1, a2, a3, a4⟩, C3⟩; have CH3 := Hq.mk C3; clear C3)
    | (go_at_call 131; refine CH3.out.mono ?_; rintro e w4 ⟨fb, rfl, ⟨b0, b1, b2, b3, b4⟩, C4⟩; have CH4 := Hq.mk C4; clear C4)
    | (go_at_call 133; refine CH4.out.mono ?_; rintro e w5 ⟨fm, rfl, ⟨c0, c1, c2, c3, c4⟩, C5⟩; have CH5 := Hq.mk C5; clear C5)
    | (go_at_call 127; refine CH5.out.mono ?_; rintro e w6 ⟨ff, rfl, ⟨e0, e1, e2, e3, e4⟩, FF⟩)))
 all_goals
  go_wp2_with fail
  go_ret
  exact FF
end
section
variable {base q a M : Nat} {w0 w : World} {ns : List Nd} {er : Int}
abbrev Bx := Nat × Array Value × TypeId
structure Qs (base q a M : Nat) (w0 T : World) (ns : List Nd) (er : Int) (g : Nat) (fs : List (Nat × (Env -> Bool))) (bx : List Bx) (W : World) : Prop where
 st : ∃ ns1 er1, Stt base q a M w0 T T ns er g W ns1 er1 ∧ ∀ x ∈ fs, Fn ns1 er1 x.1 x.2
 bz : ∀ b ∈ bx, Bz W b.1 b.2.1 b.2.2 ∧ okT b.2.2
 bT : base <= T.heap.size
variable {T W W' : World} {g g' : Nat} {fs : List (Nat × (Env -> Bool))} {bx : List Bx}
theorem Stt.next {U w1 w2 : World} {ns1 ns2 : List Nd} {er1 er2 : Int} (s : Stt base q a M w0 T U ns er g w1 ns1 er1) (b1 : Bn base q a M w0 w2 ns2 er2) (tf : TF w1 w2) (X : Ext ns1 ns2) (ho : er2 = 0 -> er1 = 0) (hg : Hid (er1 = 0 -> ns2.length <= ns1.length + g' ∧ (er2 ≠ 0 -> 40000 <= ns1.length + g'))) : Stt base q a M w0 T U ns er (g + g') w2 ns2 er2 := by
 refine ⟨b1, s.tf.trans tf, s.tt.trans tf, s.ext.trans X, s.wf, fun e => s.ok (ho e), fun e0 => ?_⟩
 have a1 := s.fit.out e0
 have a2 := b1.ar.le
 by_cases e1 : er1 = 0
 ·have a3 := hg.out e1
  refine ⟨by omega, fun e2 => ?_⟩
  have := a3.2 e2
  omega
 ·have := a1.2 e1
  exact ⟨by omega, fun _ => by omega⟩
theorem Qs.start (h : Bn base q a M w0 T ns er) (hf : ∀ x ∈ fs, Fn ns er x.1 x.2) : Qs base q a M w0 T ns er 0 fs [] T := ⟨⟨ns, er, Stt.start h (TF.refl _), hf⟩, (fun b hb => by cases hb), h.size⟩
theorem Qs.call {F : FuncId} {args : Array Value} {φ : Env -> Bool} (s : Qs base q a M w0 T ns er g fs bx W) (c : ∀ ns1 er1, Bn base q a M w0 W ns1 er1 -> (∀ x ∈ fs, Fn ns1 er1 x.1 x.2) -> Calls Tryz.prog F args W (BOut base q a M w0 W ns1 er1 g' φ)) :
  Calls Tryz.prog F args W fun e w' => ∃ f : Nat, e = .returned (.int .i64 (f : Int)) ∧ Qs base q a M w0 T ns er (g + g') ((f, φ) :: fs) bx w' := by
 obtain ⟨ns1, er1, s1, hf⟩ := s.st
 refine (c ns1 er1 s1.bn hf).mono fun e w2 B => ?_
 obtain ⟨f, ns2, er2, rfl, ⟨b1, tf⟩, X, ho, h1, hg⟩ := B
 refine ⟨f, rfl, ⟨ns2, er2, s1.next b1 tf X ho hg, fun x hx => ?_⟩, fun b hb => ?_, s.bT⟩
 ·rcases List.mem_cons.1 hx with rfl | hx
  ·exact h1
  ·exact (hf x hx).step s1.bn.ar.wf b1.ar.wf X ho
 ·obtain ⟨k1, k2⟩ := s.bz b hb
  exact ⟨tf _ _ _ k1 k2, k2⟩
theorem Qs.grow (s : Qs base q a M w0 T ns er g fs bx W) (hb : Below W.heap.size W W') : Qs base q a M w0 T ns er g fs bx W' := by
 obtain ⟨ns1, er1, s1, hf⟩ := s.st
 exact ⟨⟨ns1, er1, s1.grow hb, hf⟩, fun b hb' => ⟨(hb.block _ (s.bz b hb').1.lt).trans (s.bz b hb').1, (s.bz b hb').2⟩, s.bT⟩
theorem Qs.drew (s : Qs base q a M w0 T ns er g fs bx W) : Qs base q a M w0 T ns er g fs bx W.drew := s.grow (Below.refl _ _).drew
theorem Qs.box (s : Qs base q a M w0 T ns er g fs bx W) {k : Nat} {c : Array Value} {t : TypeId} (hk : k = W.heap.size) (ht : okT t) : Qs base q a M w0 T ns er g fs ((k, c, t) :: bx) (W.alloc (.cells c t)) := by
 have s2 := s.grow ((Below.refl _ _).alloc (Nat.le_refl _) (.cells c t))
 refine ⟨s2.st, fun b hb => ?_, s.bT⟩
 rcases List.mem_cons.1 hb with rfl | hb
 ·exact ⟨Bz.new W _ _ _ hk, ht⟩
 ·exact s2.bz b hb
theorem Qs.boxed (s : Qs base q a M w0 T ns er g fs bx W) {k : Nat} {c : Array Value} {t : TypeId} (hk : Bz W k c t) (ht : okT t) : Qs base q a M w0 T ns er g fs ((k, c, t) :: bx) W :=
 ⟨s.st, fun b hb => by
  rcases List.mem_cons.1 hb with rfl | hb
  ·exact ⟨hk, ht⟩
  ·exact s.bz b hb, s.bT⟩
theorem Qs.set {k j : Nat} {c : Array Value} {t : TypeId} (s : Qs base q a M w0 T ns er g fs ((k, c, t) :: bx) W) (hT : T.heap.size <= k) (hk : ∀ b ∈ bx, b.1 ≠ k) (u : Value) : Qs base q a M w0 T ns er g fs ((k, c.setIfInBounds j u, t) :: bx) (W.setCell ⟨k, j, none⟩ u) := by
 obtain ⟨ns1, er1, s1, hf⟩ := s.st
 obtain ⟨z, ok⟩ := s.bz (k, c, t) List.mem_cons_self
 have hF : ∀ b, b ≠ k -> (W.setCell ⟨k, j, none⟩ u).heap[b]? = W.heap[b]? := fun b hb => Below.heap_setCell W ⟨k, j, none⟩ u b hb
 have L := (s1.bn.ar.outBox z ok.1 ok.2.1).out
 have hq : q ≠ k := fun e => by
  have hz := s1.bn.blk
  unfold Bz at hz z
  dsimp only at z
  rw [e, z] at hz
  simp only [Option.some.injEq, Obj.cells.injEq] at hz
  exact ok.2.2 hz.2.1
 have tf : TF T (W.setCell ⟨k, j, none⟩ u) := fun i c' t' hb ht => (hF i (fun e => by have := hb.lt; omega)).trans (s1.tf i c' t' hb ht)
 have hbk : base <= k := Nat.le_trans s.bT hT
 refine ⟨⟨ns1, er1, ⟨⟨s1.bn.ar.same (hF _ (fun e => L.not (Or.inl e.symm))) (hF _ (fun e => L.not (Or.inr (Or.inr (Or.inl e.symm))))) (hF _ (fun e => L.ne e.symm)), (hF _ hq).trans s1.bn.blk, s1.bn.lo, s1.bn.er6, s1.bn.bel.setCell (p := ⟨k, j, none⟩) hbk _⟩, tf, tf, s1.ext, s1.wf, s1.ok, s1.fit⟩, hf⟩, fun b hb => ?_, s.bT⟩
 rcases List.mem_cons.1 hb with rfl | hb
 ·exact ⟨z.set (j := j) u, ok⟩
 ·obtain ⟨k1, k2⟩ := s.bz b (List.mem_cons_of_mem _ hb)
  exact ⟨(hF _ (hk b hb)).trans k1, k2⟩
theorem Qs.fn (s : Qs base q a M w0 T ns er g fs bx W) {f : Nat} {φ : Env -> Bool} (hf : (f, φ) ∈ fs) {U : World} (hU : TF U T) : BOut base q a M w0 U ns er g φ (.returned (.int .i64 (f : Int))) W := by
 obtain ⟨ns1, er1, s1, h1⟩ := s.st
 exact ⟨f, ns1, er1, rfl, ⟨s1.bn, hU.trans s1.tt⟩, s1.ext, s1.ok, h1 _ hf, s1.fit⟩
end
section
variable {base q a M : Nat} {w0 w : World} {ns : List Nd} {er : Int}
theorem Qs.never {T W : World} {g : Nat} {fs : List (Nat × (Env -> Bool))} {bx : List Bx} (s : Qs base q a M w0 T ns er g fs bx W) : Qs base q a M w0 T ns er g ((0, fun _ => false) :: fs) bx W := by
 obtain ⟨ns1, er1, s1, hf⟩ := s.st
 refine ⟨⟨ns1, er1, s1, fun x hx => ?_⟩, s.bz, s.bT⟩
 rcases List.mem_cons.1 hx with rfl | hx
 ·exact ⟨Nat.lt_of_lt_of_le (by omega) s1.bn.ar.wf.len, fun _ x => ev0 _ x⟩
 ·exact hf x hx
def orP (φ0 φ1 φ2 φ3 : Env -> Bool) : Nat -> Env -> Bool
 | 0 => fun _ => false
 | 1 => fun x => false || φ0 x
 | 2 => fun x => (false || φ0 x) || φ1 x
 | 3 => fun x => ((false || φ0 x) || φ1 x) || φ2 x
 | _ => fun x => (((false || φ0 x) || φ1 x) || φ2 x) || φ3 x
def RtB (base q a M : Nat) (w0 : World) (v : Value) (pt : Int) (g : Nat) (χ : Env -> Bool) : Prop :=
 ∀ w ns er, Bn base q a M w0 w ns er -> Calls Tryz.prog 128 #[.pointer (some ⟨q, 0, none⟩), v, .int .i64 pt] w (BOut base q a M w0 w ns er g χ)
theorem route_b (h : Bn base q a M w0 w ns er) {nm : ByteArray} {kd ad pl : Int} {Ab A At : Option Addr} {nb cb n cap nt ct : Nat} {f0 f1 f2 f3 : Nat} {pt : Int} {gO gT gA1 gR gA2 : Nat} {φ0 φ1 φ2 φ3 χt χ : Env -> Bool} (OB : ∀ k φ, (k = 0 ∧ φ = φ0) ∨ (k = 1 ∧ φ = φ1) ∨ (k = 2 ∧ φ = φ2) ∨ (k = 3 ∧ φ = φ3) -> OrB base q a M w0 (orP φ0 φ1 φ2 φ3 k) φ gO) (TB : RtB base q a M w0 (.slice At nt ct) pt gT χt) (A1 : AndB base q a M w0 (orP φ0 φ1 φ2 φ3 4) χt gA1) (RB : RulB base q a M w0 (.slice A n cap) gR χ) (A2 : AndB base q a M w0 (fun x => orP φ0 φ1 φ2 φ3 4 x && χt x) χ gA2) (hf0 : Fn ns er f0 φ0) (hf1 : Fn ns er f1 φ1) (hf2 : Fn ns er f2 φ2) (hf3 : Fn ns er f3 φ3) :
  Calls Tryz.prog 104 #[.pointer (some ⟨q, 0, none⟩), .agg #[.string nm, .int .i64 kd, .int .i64 ad, .int .u8 pl, .slice Ab nb cb, .slice A n cap, .slice At nt ct], .int .i64 pt, .agg #[.int .i64 (f0 : Int), .int .i64 (f1 : Int), .int .i64 (f2 : Int), .int .i64 (f3 : Int)]] w (BOut base q a M w0 w ns er (4 * gO + gT + gA1 + gR + gA2) (fun x => (fun x => orP φ0 φ1 φ2 φ3 4 x && χt x) x && χ x)) := by
 have h1 := ((h.alloc (.cells #[.string nm, .int .i64 kd, .int .i64 ad, .int .u8 pl, .slice Ab nb cb, .slice A n cap, .slice At nt ct] 91)).alloc (.cells #[.int .i64 (f0 : Int), .int .i64 (f1 : Int), .int .i64 (f2 : Int), .int .i64 (f3 : Int)] 80))
 have Z1 : Bz ((w.alloc (.cells #[.string nm, .int .i64 kd, .int .i64 ad, .int .u8 pl, .slice Ab nb cb, .slice A n cap, .slice At nt ct] 91)).alloc (.cells #[.int .i64 (f0 : Int), .int .i64 (f1 : Int), .int .i64 (f2 : Int), .int .i64 (f3 : Int)] 80)) w.heap.size #[.string nm, .int .i64 kd, .int .i64 ad, .int .u8 pl, .slice Ab nb cb, .slice A n cap, .slice At nt ct] 91 := (Bz.new w _ _ _ rfl).al _
 have Z2 : Bz ((w.alloc (.cells #[.string nm, .int .i64 kd, .int .i64 ad, .int .u8 pl, .slice Ab nb cb, .slice A n cap, .slice At nt ct] 91)).alloc (.cells #[.int .i64 (f0 : Int), .int .i64 (f1 : Int), .int .i64 (f2 : Int), .int .i64 (f3 : Int)] 80)) (w.heap.size + 1) #[.int .i64 (f0 : Int), .int .i64 (f1 : Int), .int .i64 (f2 : Int), .int .i64 (f3 : Int)] 80 := Bz.new (w.alloc _) _ _ _ (by show _ = (w.heap.push _).size; rw [Array.size_push])
 have tfw : TF w ((w.alloc (.cells #[.string nm, .int .i64 kd, .int .i64 ad, .int .u8 pl, .slice Ab nb cb, .slice A n cap, .slice At nt ct] 91)).alloc (.cells #[.int .i64 (f0 : Int), .int .i64 (f1 : Int), .int .i64 (f2 : Int), .int .i64 (f3 : Int)] 80)) := tf_two w _ _
 have Q0 : Qs base q a M w0 ((w.alloc (.cells #[.string nm, .int .i64 kd, .int .i64 ad, .int .u8 pl, .slice Ab nb cb, .slice A n cap, .slice At nt ct] 91)).alloc (.cells #[.int .i64 (f0 : Int), .int .i64 (f1 : Int), .int .i64 (f2 : Int), .int .i64 (f3 : Int)] 80)) ns er 0 ((0, fun _ => false) :: [(f0, φ0), (f1, φ1), (f2, φ2), (f3, φ3)]) [(w.heap.size + 1, #[.int .i64 (f0 : Int), .int .i64 (f1 : Int), .int .i64 (f2 : Int), .int .i64 (f3 : Int)], 80), (w.heap.size, #[.string nm, .int .i64 kd, .int .i64 ad, .int .u8 pl, .slice Ab nb cb, .slice A n cap, .slice At nt ct], 91)] ((w.alloc (.cells #[.string nm, .int .i64 kd, .int .i64 ad, .int .u8 pl, .slice Ab nb cb, .slice A n cap, .slice At nt ct] 91)).alloc (.cells #[.int .i64 (f0 : Int), .int .i64 (f1 : Int), .int .i64 (f2 : Int), .int .i64 (f3 : Int)] 80)) := (((Qs.start h1 (fs := [(f0, φ0), (f1, φ1), (f2, φ2), (f3, φ3)]) (fun x hx => by
  simp only [List.mem_cons, List.not_mem_nil, or_false] at hx
  rcases hx with rfl | rfl | rfl | rfl
  ·exact hf0
  ·exact hf1
  ·exact hf2
  ·exact hf3)).boxed Z1 (by decide)).boxed Z2 (by decide)).never
 obtain ⟨V, hV⟩ : ∃ V : Nat -> List (Nat × (Env -> Bool)) -> World -> Prop, V = fun g fs W => Qs base q a M w0 ((w.alloc (.cells #[.string nm, .int .i64 kd, .int .i64 ad, .int .u8 pl, .slice Ab nb cb, .slice A n cap, .slice At nt ct] 91)).alloc (.cells #[.int .i64 (f0 : Int), .int .i64 (f1 : Int), .int .i64 (f2 : Int), .int .i64 (f3 : Int)] 80)) ns er g fs [(w.heap.size + 1, #[.int .i64 (f0 : Int), .int .i64 (f1 : Int), .int .i64 (f2 : Int), .int .i64 (f3 : Int)], 80), (w.heap.size, #[.string nm, .int .i64 kd, .int .i64 ad, .int .u8 pl, .slice Ab nb cb, .slice A n cap, .slice At nt ct], 91)] W := ⟨_, rfl⟩
 have V0 : V (0 * gO) ((0, fun _ => false) :: [(f0, φ0), (f1, φ1), (f2, φ2), (f3, φ3)]) ((w.alloc (.cells #[.string nm, .int .i64 kd, .int .i64 ad, .int .u8 pl, .slice Ab nb cb, .slice A n cap, .slice At nt ct] 91)).alloc (.cells #[.int .i64 (f0 : Int), .int .i64 (f1 : Int), .int .i64 (f2 : Int), .int .i64 (f3 : Int)] 80)) := by rw [hV, Nat.zero_mul]; exact Q0
 have p0 := Z2.cell 0 (.int .i64 (f0 : Int)) rfl
 have p1 := Z2.cell 1 (.int .i64 (f1 : Int)) rfl
 have p2 := Z2.cell 2 (.int .i64 (f2 : Int)) rfl
 have p3 := Z2.cell 3 (.int .i64 (f3 : Int)) rfl
 have CO : Hid (∀ (k : Nat) (φ : Env -> Bool), (k = 0 ∧ φ = φ0) ∨ (k = 1 ∧ φ = φ1) ∨ (k = 2 ∧ φ = φ2) ∨ (k = 3 ∧ φ = φ3) -> ∀ {fs : List (Nat × (Env -> Bool))} {W : World} (i j : Nat), V (k * gO) fs W -> (i, orP φ0 φ1 φ2 φ3 k) ∈ fs -> (j, φ) ∈ fs -> Calls Tryz.prog 79 #[.pointer (some ⟨q, 0, none⟩), .int .i64 (i : Int), .int .i64 (j : Int)] W fun e w' => ∃ f : Nat, e = .returned (.int .i64 (f : Int)) ∧ V ((k + 1) * gO) ((f, orP φ0 φ1 φ2 φ3 (k + 1)) :: fs) w') := fun k φ hkφ {fs W} i j hq m1 m2 => by
  rw [hV] at hq ⊢
  refine (hq.call fun _ _ b hf => OB k φ hkφ _ _ _ _ _ b (hf _ m1) (hf _ m2)).mono fun e w' ⟨f, e1, e2⟩ => ⟨f, e1, ?_⟩
  have : (fun x => orP φ0 φ1 φ2 φ3 k x || φ x) = orP φ0 φ1 φ2 φ3 (k + 1) := by
   rcases hkφ with ⟨rfl, rfl⟩ | ⟨rfl, rfl⟩ | ⟨rfl, rfl⟩ | ⟨rfl, rfl⟩ <;> rfl
  rw [this] at e2
  rw [Nat.add_mul, Nat.one_mul]
  exact e2
 have HC : Hid (∀ {g : Nat} {fs : List (Nat × (Env -> Bool))} {W : World}, V g fs W -> W.cell? ⟨w.heap.size, 5, none⟩ = some (.slice A n cap) ∧ W.cell? ⟨w.heap.size, 6, none⟩ = some (.slice At nt ct)) := fun {g fs W} hq => by
  rw [hV] at hq
  have k3 := (hq.bz _ (List.mem_cons_of_mem _ List.mem_cons_self)).1
  exact ⟨k3.cell 5 _ rfl, k3.cell 6 _ rfl⟩
 have CT : Hid (∀ {g : Nat} {fs : List (Nat × (Env -> Bool))} {W : World}, V g fs W -> Calls Tryz.prog 128 #[.pointer (some ⟨q, 0, none⟩), .slice At nt ct, .int .i64 pt] W fun e w' => ∃ f : Nat, e = .returned (.int .i64 (f : Int)) ∧ V (g + gT) ((f, χt) :: fs) w') := fun {g fs W} hq => by
  rw [hV] at hq ⊢
  exact hq.call fun _ _ b _ => TB _ _ _ b
 have CR : Hid (∀ {g : Nat} {fs : List (Nat × (Env -> Bool))} {W : World}, V g fs W -> Calls Tryz.prog 129 #[.pointer (some ⟨q, 0, none⟩), .slice A n cap] W fun e w' => ∃ f : Nat, e = .returned (.int .i64 (f : Int)) ∧ V (g + gR) ((f, χ) :: fs) w') := fun {g fs W} hq => by
  rw [hV] at hq ⊢
  exact hq.call fun _ _ b _ => RB _ _ _ b
 have CA : Hid (∀ {g : Nat} {fs : List (Nat × (Env -> Bool))} {W : World} (i j : Nat), V g fs W -> (i, (orP φ0 φ1 φ2 φ3 4)) ∈ fs -> (j, χt) ∈ fs -> Calls Tryz.prog 127 #[.pointer (some ⟨q, 0, none⟩), .int .i64 (i : Int), .int .i64 (j : Int)] W fun e w' => ∃ f : Nat, e = .returned (.int .i64 (f : Int)) ∧ V (g + gA1) ((f, fun x => (orP φ0 φ1 φ2 φ3 4) x && χt x) :: fs) w') := fun {g fs W} i j hq m1 m2 => by
  rw [hV] at hq ⊢
  exact hq.call fun _ _ b hf => A1 _ _ _ _ _ b (hf _ m1) (hf _ m2)
 have CB : Hid (∀ {g : Nat} {fs : List (Nat × (Env -> Bool))} {W : World} (i j : Nat), V g fs W -> (i, (fun x => orP φ0 φ1 φ2 φ3 4 x && χt x)) ∈ fs -> (j, χ) ∈ fs -> Calls Tryz.prog 127 #[.pointer (some ⟨q, 0, none⟩), .int .i64 (i : Int), .int .i64 (j : Int)] W fun e w' => ∃ f : Nat, e = .returned (.int .i64 (f : Int)) ∧ V (g + gA2) ((f, fun x => (fun x => orP φ0 φ1 φ2 φ3 4 x && χt x) x && χ x) :: fs) w') := fun {g fs W} i j hq m1 m2 => by
  rw [hV] at hq ⊢
  exact hq.call fun _ _ b hf => A2 _ _ _ _ _ b (hf _ m1) (hf _ m2)
 have FIN : Hid (∀ {fs : List (Nat × (Env -> Bool))} {W : World} (f : Nat), V (4 * gO + gT + gA1 + gR + gA2) fs W -> (f, (fun x => (fun x => orP φ0 φ1 φ2 φ3 4 x && χt x) x && χ x)) ∈ fs -> BOut base q a M w0 w ns er (4 * gO + gT + gA1 + gR + gA2) (fun x => (fun x => orP φ0 φ1 φ2 φ3 4 x && χt x) x && χ x) (.returned (.int .i64 (f : Int))) W) := fun {fs W} f hq m => by
  rw [hV] at hq
  exact hq.fn m tfw
 have DRW : ∀ {g : Nat} {fs : List (Nat × (Env -> Bool))} {W : World}, V g fs W -> V g fs W.drew := fun {g fs W} hq => by rw [hV] at hq ⊢; exact hq.drew
 clear hV Q0 h1 Z1 Z2 h hf0 hf1 hf2 hf3 tfw OB TB A1 RB A2
 have ix0 : ∀ W : World, (Instr.index 80 (.agg #[.int .i64 (f0 : Int), .int .i64 (f1 : Int), .int .i64 (f2 : Int), .int .i64 (f3 : Int)]) (.int .i64 0)).run Tryz.prog W = .ok (.int .i64 (f0 : Int)) W := fun W => by
  first
   | rfl
   | kernel_rfl
   | (simp [go_sem, Tryz.underlying80])
 have ix1 : ∀ W : World, (Instr.index 80 (.agg #[.int .i64 (f0 : Int), .int .i64 (f1 : Int), .int .i64 (f2 : Int), .int .i64 (f3 : Int)]) (.int .i64 1)).run Tryz.prog W = .ok (.int .i64 (f1 : Int)) W := fun W => by
  first
   | rfl
   | kernel_rfl
   | (simp [go_sem, Tryz.underlying80])
 have ix2 : ∀ W : World, (Instr.index 80 (.agg #[.int .i64 (f0 : Int), .int .i64 (f1 : Int), .int .i64 (f2 : Int), .int .i64 (f3 : Int)]) (.int .i64 2)).run Tryz.prog W = .ok (.int .i64 (f2 : Int)) W := fun W => by
  first
   | rfl
   | kernel_rfl
   | (simp [go_sem, Tryz.underlying80])
 have ix3 : ∀ W : World, (Instr.index 80 (.agg #[.int .i64 (f0 : Int), .int .i64 (f1 : Int), .int .i64 (f2 : Int), .int .i64 (f3 : Int)]) (.int .i64 3)).run Tryz.prog W = .ok (.int .i64 (f3 : Int)) W := fun W => by
  first
   | rfl
   | kernel_rfl
   | (simp [go_sem, Tryz.underlying80])
 generalize hP : orP φ0 φ1 φ2 φ3 = P at *
 have hP0 : P 0 = fun _ => false := by rw [<- hP]; rfl
 rw [<- hP0] at V0
 clear hP hP0
 go_enter Tryz.func104, Tryz.ntmps104
 go_wp2_with fail
 go_loopw [9, 13] (fun v i wr => ∃ (k fa : Nat) (fs : List (Nat × (Env -> Bool))), i = .int .i64 (k : Int) ∧ v = .int .i64 (fa : Int) ∧ k <= 4 ∧ V (k * gO) ((fa, P k) :: fs) wr ∧ Hid ((f0, φ0) ∈ fs ∧ (f1, φ1) ∈ fs ∧ (f2, φ2) ∈ fs ∧ (f3, φ3) ∈ fs)) (fun _ i _ => 4 - (intOf i).toNat)
 case atStart => exact ⟨0, 0, [(f0, φ0), (f1, φ1), (f2, φ2), (f3, φ3)], rfl, rfl, by omega, V0, ⟨(List.Mem.head _), (List.Mem.tail _ (List.Mem.head _)), (List.Mem.tail _ (List.Mem.tail _ (List.Mem.head _))), (List.Mem.tail _ (List.Mem.tail _ (List.Mem.tail _ (List.Mem.head _))))⟩⟩
 case round =>
  clear V0 p0 p1 p2 p3
  obtain ⟨k, fa, fs, rfl, rfl, hk, V1, hm⟩ := hrel
  by_cases hlt : k < 4
  ·have CK : Hid (∃ (fj : Nat) (φ : Env -> Bool), ((k = 0 ∧ fj = f0) ∨ (k = 1 ∧ fj = f1) ∨ (k = 2 ∧ fj = f2) ∨ (k = 3 ∧ fj = f3)) ∧ ((k = 0 ∧ φ = φ0) ∨ (k = 1 ∧ φ = φ1) ∨ (k = 2 ∧ φ = φ2) ∨ (k = 3 ∧ φ = φ3)) ∧ (fj, φ) ∈ fs) := by
    obtain ⟨m0, m1, m2, m3⟩ := hm.out
    have : k = 0 ∨ k = 1 ∨ k = 2 ∨ k = 3 := by omega
    rcases this with rfl | rfl | rfl | rfl
    ·exact ⟨f0, φ0, by simp, by simp, m0⟩
    ·exact ⟨f1, φ1, by simp, by simp, m1⟩
    ·exact ⟨f2, φ2, by simp, by simp, m2⟩
    ·exact ⟨f3, φ3, by simp, by simp, m3⟩
   obtain ⟨fj, φ, hkf, hkφ, mj⟩ := CK.out
   have C1 : Hid (Calls Tryz.prog 79 #[.pointer (some ⟨q, 0, none⟩), .int .i64 (fa : Int), .int .i64 (fj : Int)] wr fun e w' => ∃ f : Nat, e = .returned (.int .i64 (f : Int)) ∧ V ((k + 1) * gO) ((f, P (k + 1)) :: (fa, P k) :: fs) w') := CO.out k φ hkφ fa fj V1 (List.Mem.head _) (List.Mem.tail _ mj)
   have hm' : Hid ((f0, φ0) ∈ (fa, P k) :: fs ∧ (f1, φ1) ∈ (fa, P k) :: fs ∧ (f2, φ2) ∈ (fa, P k) :: fs ∧ (f3, φ3) ∈ (fa, P k) :: fs) := ⟨List.Mem.tail _ hm.out.1, List.Mem.tail _ hm.out.2.1, List.Mem.tail _ hm.out.2.2.1, List.Mem.tail _ hm.out.2.2.2⟩
   clear CO CT CR CA CB FIN DRW HC V1 hm CK hkφ mj
   have hK : k = 0 ∨ k = 1 ∨ k = 2 ∨ k = 3 := by omega
   rcases hkf with ⟨rfl, rfl⟩ | ⟨rfl, rfl⟩ | ⟨rfl, rfl⟩ | ⟨rfl, rfl⟩
   all_goals
    clear hK
    go_wp2_with fail
    with_reducible refine C1.out.mono ?_
    rintro e w2 ⟨fx, rfl, V2⟩
    go_wp2_with fail
    go_roundw
    case rel => first | exact ⟨1, fx, _, rfl, rfl, by decide, V2, hm'⟩ | exact ⟨2, fx, _, rfl, rfl, by decide, V2, hm'⟩ | exact ⟨3, fx, _, rfl, rfl, by decide, V2, hm'⟩ | exact ⟨4, fx, _, rfl, rfl, by decide, V2, hm'⟩
    case measure => simp [intOf]
  ·obtain rfl : k = 4 := by omega
   have V2 := DRW V1
   clear CO V1 hm hlt hk
   go_wp2_with fail
   go_region_held3 (fun W => W.cell? ⟨w.heap.size, 5, none⟩ = some (.slice A n cap) ∧ W.cell? ⟨w.heap.size, 6, none⟩ = some (.slice At nt ct)) (exact HC.out (by assumption))
    ((first
      | (go_at_call 128; (with_reducible refine (CT.out V2).mono ?_); rintro e w3 ⟨fr, rfl, V3⟩; skip)
      | (go_at_call 127; (with_reducible refine (CA.out _ _ V3 (List.Mem.tail _ (List.Mem.head _)) (List.Mem.head _)).mono ?_); rintro e w4 ⟨fy, rfl, V4⟩; skip)
      | (go_at_call 129; (with_reducible refine (CR.out V4).mono ?_); rintro e w5 ⟨fu, rfl, V5⟩; skip)
      | (go_at_call 127; (with_reducible refine (CB.out _ _ V5 (List.Mem.tail _ (List.Mem.head _)) (List.Mem.head _)).mono ?_); rintro e w6 ⟨fz, rfl, V6⟩; have FF := FIN.out _ V6 (List.Mem.head _))))
   all_goals
    go_wp2_with fail
    go_ret
    exact FF
end
section
variable {base q a M : Nat} {w0 w : World} {ns : List Nd} {er : Int}
theorem send_route (h : Bn base q a M w0 w ns er) {nm : ByteArray} {ad pl : Int} {Ab A At : Option Addr} {nb cb n cap nt ct : Nat} {f0 f1 f2 f3 : Nat} {pt : Int} {g : Nat} {ψ : Env -> Bool} (C : ∀ W, Bn base q a M w0 W ns er -> Calls Tryz.prog 104 #[.pointer (some ⟨q, 0, none⟩), .agg #[.string nm, .int .i64 2, .int .i64 ad, .int .u8 pl, .slice Ab nb cb, .slice A n cap, .slice At nt ct], .int .i64 pt, .agg #[.int .i64 (f0 : Int), .int .i64 (f1 : Int), .int .i64 (f2 : Int), .int .i64 (f3 : Int)]] W (BOut base q a M w0 W ns er g ψ)) :
  Calls Tryz.prog 80 #[.pointer (some ⟨q, 0, none⟩), .agg #[.string nm, .int .i64 2, .int .i64 ad, .int .u8 pl, .slice Ab nb cb, .slice A n cap, .slice At nt ct], .int .i64 pt, .agg #[.int .i64 (f0 : Int), .int .i64 (f1 : Int), .int .i64 (f2 : Int), .int .i64 (f3 : Int)]] w (BOut base q a M w0 w ns er g ψ) := by
 have h1 := ((h.alloc (.cells #[.string nm, .int .i64 2, .int .i64 ad, .int .u8 pl, .slice Ab nb cb, .slice A n cap, .slice At nt ct] 91)).alloc (.cells #[.int .i64 (f0 : Int), .int .i64 (f1 : Int), .int .i64 (f2 : Int), .int .i64 (f3 : Int)] 80))
 have Z1 : Bz ((w.alloc (.cells #[.string nm, .int .i64 2, .int .i64 ad, .int .u8 pl, .slice Ab nb cb, .slice A n cap, .slice At nt ct] 91)).alloc (.cells #[.int .i64 (f0 : Int), .int .i64 (f1 : Int), .int .i64 (f2 : Int), .int .i64 (f3 : Int)] 80)) w.heap.size #[.string nm, .int .i64 2, .int .i64 ad, .int .u8 pl, .slice Ab nb cb, .slice A n cap, .slice At nt ct] 91 := (Bz.new w _ _ _ rfl).al _
 have Z2 : Bz ((w.alloc (.cells #[.string nm, .int .i64 2, .int .i64 ad, .int .u8 pl, .slice Ab nb cb, .slice A n cap, .slice At nt ct] 91)).alloc (.cells #[.int .i64 (f0 : Int), .int .i64 (f1 : Int), .int .i64 (f2 : Int), .int .i64 (f3 : Int)] 80)) (w.heap.size + 1) #[.int .i64 (f0 : Int), .int .i64 (f1 : Int), .int .i64 (f2 : Int), .int .i64 (f3 : Int)] 80 := Bz.new (w.alloc _) _ _ _ (by show _ = (w.heap.push _).size; rw [Array.size_push])
 have C1 : Hid (Calls Tryz.prog 104 #[.pointer (some ⟨q, 0, none⟩), .agg #[.string nm, .int .i64 2, .int .i64 ad, .int .u8 pl, .slice Ab nb cb, .slice A n cap, .slice At nt ct], .int .i64 pt, .agg #[.int .i64 (f0 : Int), .int .i64 (f1 : Int), .int .i64 (f2 : Int), .int .i64 (f3 : Int)]] ((w.alloc (.cells #[.string nm, .int .i64 2, .int .i64 ad, .int .u8 pl, .slice Ab nb cb, .slice A n cap, .slice At nt ct] 91)).alloc (.cells #[.int .i64 (f0 : Int), .int .i64 (f1 : Int), .int .i64 (f2 : Int), .int .i64 (f3 : Int)] 80)) fun e w' => ∃ f : Nat, e = .returned (.int .i64 (f : Int)) ∧ BOut base q a M w0 w ns er g ψ (.returned (.int .i64 (f : Int))) w') := (C _ h1).mono fun e w' B => by
  obtain ⟨f, ns1, er1, rfl, r⟩ := id B
  exact ⟨f, rfl, B.from (tf_two w _ _)⟩
 have d0 := Z1.cell 0 (.string nm) rfl
 have d1 := Z1.cell 1 (.int .i64 2) rfl
 have d2 := Z1.cell 2 (.int .i64 ad) rfl
 have d3 := Z1.cell 3 (.int .u8 pl) rfl
 have d4 := Z1.cell 4 (.slice Ab nb cb) rfl
 have d5 := Z1.cell 5 (.slice A n cap) rfl
 have d6 := Z1.cell 6 (.slice At nt ct) rfl
 have p0 := Z2.cell 0 (.int .i64 (f0 : Int)) rfl
 have p1 := Z2.cell 1 (.int .i64 (f1 : Int)) rfl
 have p2 := Z2.cell 2 (.int .i64 (f2 : Int)) rfl
 have p3 := Z2.cell 3 (.int .i64 (f3 : Int)) rfl
 clear h h1 Z1 Z2 C
 go_enter Tryz.func80, Tryz.ntmps80
 go_wp2_with fail
 with_reducible refine C1.out.mono ?_
 rintro e w2 ⟨fx, rfl, FF⟩
 go_wp2_with fail
 go_ret
 exact FF
theorem send_ask (h : Bn base q a M w0 w ns er) {nm : ByteArray} {ad pl : Int} {Ab A At : Option Addr} {nb cb n cap nt ct : Nat} {f0 f1 f2 f3 : Nat} {pt : Int} (hpt : pt = 1) {g : Nat} {ψ : Env -> Bool} (C : ∀ W, Bn base q a M w0 W ns er -> Calls Tryz.prog 105 #[.pointer (some ⟨q, 0, none⟩), .agg #[.string nm, .int .i64 3, .int .i64 ad, .int .u8 pl, .slice Ab nb cb, .slice A n cap, .slice At nt ct], .agg #[.int .i64 (f0 : Int), .int .i64 (f1 : Int), .int .i64 (f2 : Int), .int .i64 (f3 : Int)]] W (BOut base q a M w0 W ns er g ψ)) :
  Calls Tryz.prog 80 #[.pointer (some ⟨q, 0, none⟩), .agg #[.string nm, .int .i64 3, .int .i64 ad, .int .u8 pl, .slice Ab nb cb, .slice A n cap, .slice At nt ct], .int .i64 pt, .agg #[.int .i64 (f0 : Int), .int .i64 (f1 : Int), .int .i64 (f2 : Int), .int .i64 (f3 : Int)]] w (BOut base q a M w0 w ns er g ψ) := by
 subst hpt
 have h1 := ((h.alloc (.cells #[.string nm, .int .i64 3, .int .i64 ad, .int .u8 pl, .slice Ab nb cb, .slice A n cap, .slice At nt ct] 91)).alloc (.cells #[.int .i64 (f0 : Int), .int .i64 (f1 : Int), .int .i64 (f2 : Int), .int .i64 (f3 : Int)] 80))
 have Z1 : Bz ((w.alloc (.cells #[.string nm, .int .i64 3, .int .i64 ad, .int .u8 pl, .slice Ab nb cb, .slice A n cap, .slice At nt ct] 91)).alloc (.cells #[.int .i64 (f0 : Int), .int .i64 (f1 : Int), .int .i64 (f2 : Int), .int .i64 (f3 : Int)] 80)) w.heap.size #[.string nm, .int .i64 3, .int .i64 ad, .int .u8 pl, .slice Ab nb cb, .slice A n cap, .slice At nt ct] 91 := (Bz.new w _ _ _ rfl).al _
 have Z2 : Bz ((w.alloc (.cells #[.string nm, .int .i64 3, .int .i64 ad, .int .u8 pl, .slice Ab nb cb, .slice A n cap, .slice At nt ct] 91)).alloc (.cells #[.int .i64 (f0 : Int), .int .i64 (f1 : Int), .int .i64 (f2 : Int), .int .i64 (f3 : Int)] 80)) (w.heap.size + 1) #[.int .i64 (f0 : Int), .int .i64 (f1 : Int), .int .i64 (f2 : Int), .int .i64 (f3 : Int)] 80 := Bz.new (w.alloc _) _ _ _ (by show _ = (w.heap.push _).size; rw [Array.size_push])
 have C1 : Hid (Calls Tryz.prog 105 #[.pointer (some ⟨q, 0, none⟩), .agg #[.string nm, .int .i64 3, .int .i64 ad, .int .u8 pl, .slice Ab nb cb, .slice A n cap, .slice At nt ct], .agg #[.int .i64 (f0 : Int), .int .i64 (f1 : Int), .int .i64 (f2 : Int), .int .i64 (f3 : Int)]] ((w.alloc (.cells #[.string nm, .int .i64 3, .int .i64 ad, .int .u8 pl, .slice Ab nb cb, .slice A n cap, .slice At nt ct] 91)).alloc (.cells #[.int .i64 (f0 : Int), .int .i64 (f1 : Int), .int .i64 (f2 : Int), .int .i64 (f3 : Int)] 80)) fun e w' => ∃ f : Nat, e = .returned (.int .i64 (f : Int)) ∧ BOut base q a M w0 w ns er g ψ (.returned (.int .i64 (f : Int))) w') := (C _ h1).mono fun e w' B => by
  obtain ⟨f, ns1, er1, rfl, r⟩ := id B
  exact ⟨f, rfl, B.from (tf_two w _ _)⟩
 have d0 := Z1.cell 0 (.string nm) rfl
 have d1 := Z1.cell 1 (.int .i64 3) rfl
 have d2 := Z1.cell 2 (.int .i64 ad) rfl
 have d3 := Z1.cell 3 (.int .u8 pl) rfl
 have d4 := Z1.cell 4 (.slice Ab nb cb) rfl
 have d5 := Z1.cell 5 (.slice A n cap) rfl
 have d6 := Z1.cell 6 (.slice At nt ct) rfl
 have p0 := Z2.cell 0 (.int .i64 (f0 : Int)) rfl
 have p1 := Z2.cell 1 (.int .i64 (f1 : Int)) rfl
 have p2 := Z2.cell 2 (.int .i64 (f2 : Int)) rfl
 have p3 := Z2.cell 3 (.int .i64 (f3 : Int)) rfl
 clear h h1 Z1 Z2 C
 go_enter Tryz.func80, Tryz.ntmps80
 go_wp2_with fail
 with_reducible refine C1.out.mono ?_
 rintro e w2 ⟨fx, rfl, FF⟩
 go_wp2_with fail
 go_ret
 exact FF
theorem send_answer (h : Bn base q a M w0 w ns er) {nm : ByteArray} {ad pl : Int} {Ab A At : Option Addr} {nb cb n cap nt ct : Nat} {f0 f1 f2 f3 : Nat} {pt : Int} (hpt : ¬ pt = 1) {g : Nat} {ψ : Env -> Bool} (C : ∀ W, Bn base q a M w0 W ns er -> Calls Tryz.prog 106 #[.pointer (some ⟨q, 0, none⟩), .agg #[.string nm, .int .i64 3, .int .i64 ad, .int .u8 pl, .slice Ab nb cb, .slice A n cap, .slice At nt ct], .agg #[.int .i64 (f0 : Int), .int .i64 (f1 : Int), .int .i64 (f2 : Int), .int .i64 (f3 : Int)]] W (BOut base q a M w0 W ns er g ψ)) :
  Calls Tryz.prog 80 #[.pointer (some ⟨q, 0, none⟩), .agg #[.string nm, .int .i64 3, .int .i64 ad, .int .u8 pl, .slice Ab nb cb, .slice A n cap, .slice At nt ct], .int .i64 pt, .agg #[.int .i64 (f0 : Int), .int .i64 (f1 : Int), .int .i64 (f2 : Int), .int .i64 (f3 : Int)]] w (BOut base q a M w0 w ns er g ψ) := by
 have hp1 : (pt == 1) = false := by simpa using hpt
 have h1 := ((h.alloc (.cells #[.string nm, .int .i64 3, .int .i64 ad, .int .u8 pl, .slice Ab nb cb, .slice A n cap, .slice At nt ct] 91)).alloc (.cells #[.int .i64 (f0 : Int), .int .i64 (f1 : Int), .int .i64 (f2 : Int), .int .i64 (f3 : Int)] 80))
 have Z1 : Bz ((w.alloc (.cells #[.string nm, .int .i64 3, .int .i64 ad, .int .u8 pl, .slice Ab nb cb, .slice A n cap, .slice At nt ct] 91)).alloc (.cells #[.int .i64 (f0 : Int), .int .i64 (f1 : Int), .int .i64 (f2 : Int), .int .i64 (f3 : Int)] 80)) w.heap.size #[.string nm, .int .i64 3, .int .i64 ad, .int .u8 pl, .slice Ab nb cb, .slice A n cap, .slice At nt ct] 91 := (Bz.new w _ _ _ rfl).al _
 have Z2 : Bz ((w.alloc (.cells #[.string nm, .int .i64 3, .int .i64 ad, .int .u8 pl, .slice Ab nb cb, .slice A n cap, .slice At nt ct] 91)).alloc (.cells #[.int .i64 (f0 : Int), .int .i64 (f1 : Int), .int .i64 (f2 : Int), .int .i64 (f3 : Int)] 80)) (w.heap.size + 1) #[.int .i64 (f0 : Int), .int .i64 (f1 : Int), .int .i64 (f2 : Int), .int .i64 (f3 : Int)] 80 := Bz.new (w.alloc _) _ _ _ (by show _ = (w.heap.push _).size; rw [Array.size_push])
 have C1 : Hid (Calls Tryz.prog 106 #[.pointer (some ⟨q, 0, none⟩), .agg #[.string nm, .int .i64 3, .int .i64 ad, .int .u8 pl, .slice Ab nb cb, .slice A n cap, .slice At nt ct], .agg #[.int .i64 (f0 : Int), .int .i64 (f1 : Int), .int .i64 (f2 : Int), .int .i64 (f3 : Int)]] ((w.alloc (.cells #[.string nm, .int .i64 3, .int .i64 ad, .int .u8 pl, .slice Ab nb cb, .slice A n cap, .slice At nt ct] 91)).alloc (.cells #[.int .i64 (f0 : Int), .int .i64 (f1 : Int), .int .i64 (f2 : Int), .int .i64 (f3 : Int)] 80)) fun e w' => ∃ f : Nat, e = .returned (.int .i64 (f : Int)) ∧ BOut base q a M w0 w ns er g ψ (.returned (.int .i64 (f : Int))) w') := (C _ h1).mono fun e w' B => by
  obtain ⟨f, ns1, er1, rfl, r⟩ := id B
  exact ⟨f, rfl, B.from (tf_two w _ _)⟩
 have d0 := Z1.cell 0 (.string nm) rfl
 have d1 := Z1.cell 1 (.int .i64 3) rfl
 have d2 := Z1.cell 2 (.int .i64 ad) rfl
 have d3 := Z1.cell 3 (.int .u8 pl) rfl
 have d4 := Z1.cell 4 (.slice Ab nb cb) rfl
 have d5 := Z1.cell 5 (.slice A n cap) rfl
 have d6 := Z1.cell 6 (.slice At nt ct) rfl
 have p0 := Z2.cell 0 (.int .i64 (f0 : Int)) rfl
 have p1 := Z2.cell 1 (.int .i64 (f1 : Int)) rfl
 have p2 := Z2.cell 2 (.int .i64 (f2 : Int)) rfl
 have p3 := Z2.cell 3 (.int .i64 (f3 : Int)) rfl
 clear h h1 Z1 Z2 C
 go_enter Tryz.func80, Tryz.ntmps80
 go_wp2_with fail
 with_reducible refine C1.out.mono ?_
 rintro e w2 ⟨fx, rfl, FF⟩
 go_wp2_with fail
 go_ret
 exact FF
theorem send_hide (h : Bn base q a M w0 w ns er) {nm : ByteArray} {ad pl : Int} {Ab A At : Option Addr} {nb cb n cap nt ct : Nat} {f0 f1 f2 f3 : Nat} {pt : Int} (hpt : pt = 1) {g : Nat} {ψ : Env -> Bool} (C : ∀ W, Bn base q a M w0 W ns er -> Calls Tryz.prog 107 #[.pointer (some ⟨q, 0, none⟩), .agg #[.string nm, .int .i64 4, .int .i64 ad, .int .u8 pl, .slice Ab nb cb, .slice A n cap, .slice At nt ct], .agg #[.int .i64 (f0 : Int), .int .i64 (f1 : Int), .int .i64 (f2 : Int), .int .i64 (f3 : Int)]] W (BOut base q a M w0 W ns er g ψ)) :
  Calls Tryz.prog 80 #[.pointer (some ⟨q, 0, none⟩), .agg #[.string nm, .int .i64 4, .int .i64 ad, .int .u8 pl, .slice Ab nb cb, .slice A n cap, .slice At nt ct], .int .i64 pt, .agg #[.int .i64 (f0 : Int), .int .i64 (f1 : Int), .int .i64 (f2 : Int), .int .i64 (f3 : Int)]] w (BOut base q a M w0 w ns er g ψ) := by
 subst hpt
 have h1 := ((h.alloc (.cells #[.string nm, .int .i64 4, .int .i64 ad, .int .u8 pl, .slice Ab nb cb, .slice A n cap, .slice At nt ct] 91)).alloc (.cells #[.int .i64 (f0 : Int), .int .i64 (f1 : Int), .int .i64 (f2 : Int), .int .i64 (f3 : Int)] 80))
 have Z1 : Bz ((w.alloc (.cells #[.string nm, .int .i64 4, .int .i64 ad, .int .u8 pl, .slice Ab nb cb, .slice A n cap, .slice At nt ct] 91)).alloc (.cells #[.int .i64 (f0 : Int), .int .i64 (f1 : Int), .int .i64 (f2 : Int), .int .i64 (f3 : Int)] 80)) w.heap.size #[.string nm, .int .i64 4, .int .i64 ad, .int .u8 pl, .slice Ab nb cb, .slice A n cap, .slice At nt ct] 91 := (Bz.new w _ _ _ rfl).al _
 have Z2 : Bz ((w.alloc (.cells #[.string nm, .int .i64 4, .int .i64 ad, .int .u8 pl, .slice Ab nb cb, .slice A n cap, .slice At nt ct] 91)).alloc (.cells #[.int .i64 (f0 : Int), .int .i64 (f1 : Int), .int .i64 (f2 : Int), .int .i64 (f3 : Int)] 80)) (w.heap.size + 1) #[.int .i64 (f0 : Int), .int .i64 (f1 : Int), .int .i64 (f2 : Int), .int .i64 (f3 : Int)] 80 := Bz.new (w.alloc _) _ _ _ (by show _ = (w.heap.push _).size; rw [Array.size_push])
 have C1 : Hid (Calls Tryz.prog 107 #[.pointer (some ⟨q, 0, none⟩), .agg #[.string nm, .int .i64 4, .int .i64 ad, .int .u8 pl, .slice Ab nb cb, .slice A n cap, .slice At nt ct], .agg #[.int .i64 (f0 : Int), .int .i64 (f1 : Int), .int .i64 (f2 : Int), .int .i64 (f3 : Int)]] ((w.alloc (.cells #[.string nm, .int .i64 4, .int .i64 ad, .int .u8 pl, .slice Ab nb cb, .slice A n cap, .slice At nt ct] 91)).alloc (.cells #[.int .i64 (f0 : Int), .int .i64 (f1 : Int), .int .i64 (f2 : Int), .int .i64 (f3 : Int)] 80)) fun e w' => ∃ f : Nat, e = .returned (.int .i64 (f : Int)) ∧ BOut base q a M w0 w ns er g ψ (.returned (.int .i64 (f : Int))) w') := (C _ h1).mono fun e w' B => by
  obtain ⟨f, ns1, er1, rfl, r⟩ := id B
  exact ⟨f, rfl, B.from (tf_two w _ _)⟩
 have d0 := Z1.cell 0 (.string nm) rfl
 have d1 := Z1.cell 1 (.int .i64 4) rfl
 have d2 := Z1.cell 2 (.int .i64 ad) rfl
 have d3 := Z1.cell 3 (.int .u8 pl) rfl
 have d4 := Z1.cell 4 (.slice Ab nb cb) rfl
 have d5 := Z1.cell 5 (.slice A n cap) rfl
 have d6 := Z1.cell 6 (.slice At nt ct) rfl
 have p0 := Z2.cell 0 (.int .i64 (f0 : Int)) rfl
 have p1 := Z2.cell 1 (.int .i64 (f1 : Int)) rfl
 have p2 := Z2.cell 2 (.int .i64 (f2 : Int)) rfl
 have p3 := Z2.cell 3 (.int .i64 (f3 : Int)) rfl
 clear h h1 Z1 Z2 C
 go_enter Tryz.func80, Tryz.ntmps80
 go_wp2_with fail
 with_reducible refine C1.out.mono ?_
 rintro e w2 ⟨fx, rfl, FF⟩
 go_wp2_with fail
 go_ret
 exact FF
theorem send_unhide (h : Bn base q a M w0 w ns er) {nm : ByteArray} {ad pl : Int} {Ab A At : Option Addr} {nb cb n cap nt ct : Nat} {f0 f1 f2 f3 : Nat} {pt : Int} (hpt : ¬ pt = 1) {g : Nat} {ψ : Env -> Bool} (C : ∀ W, Bn base q a M w0 W ns er -> Calls Tryz.prog 108 #[.pointer (some ⟨q, 0, none⟩), .agg #[.string nm, .int .i64 4, .int .i64 ad, .int .u8 pl, .slice Ab nb cb, .slice A n cap, .slice At nt ct], .agg #[.int .i64 (f0 : Int), .int .i64 (f1 : Int), .int .i64 (f2 : Int), .int .i64 (f3 : Int)]] W (BOut base q a M w0 W ns er g ψ)) :
  Calls Tryz.prog 80 #[.pointer (some ⟨q, 0, none⟩), .agg #[.string nm, .int .i64 4, .int .i64 ad, .int .u8 pl, .slice Ab nb cb, .slice A n cap, .slice At nt ct], .int .i64 pt, .agg #[.int .i64 (f0 : Int), .int .i64 (f1 : Int), .int .i64 (f2 : Int), .int .i64 (f3 : Int)]] w (BOut base q a M w0 w ns er g ψ) := by
 have hp1 : (pt == 1) = false := by simpa using hpt
 have h1 := ((h.alloc (.cells #[.string nm, .int .i64 4, .int .i64 ad, .int .u8 pl, .slice Ab nb cb, .slice A n cap, .slice At nt ct] 91)).alloc (.cells #[.int .i64 (f0 : Int), .int .i64 (f1 : Int), .int .i64 (f2 : Int), .int .i64 (f3 : Int)] 80))
 have Z1 : Bz ((w.alloc (.cells #[.string nm, .int .i64 4, .int .i64 ad, .int .u8 pl, .slice Ab nb cb, .slice A n cap, .slice At nt ct] 91)).alloc (.cells #[.int .i64 (f0 : Int), .int .i64 (f1 : Int), .int .i64 (f2 : Int), .int .i64 (f3 : Int)] 80)) w.heap.size #[.string nm, .int .i64 4, .int .i64 ad, .int .u8 pl, .slice Ab nb cb, .slice A n cap, .slice At nt ct] 91 := (Bz.new w _ _ _ rfl).al _
 have Z2 : Bz ((w.alloc (.cells #[.string nm, .int .i64 4, .int .i64 ad, .int .u8 pl, .slice Ab nb cb, .slice A n cap, .slice At nt ct] 91)).alloc (.cells #[.int .i64 (f0 : Int), .int .i64 (f1 : Int), .int .i64 (f2 : Int), .int .i64 (f3 : Int)] 80)) (w.heap.size + 1) #[.int .i64 (f0 : Int), .int .i64 (f1 : Int), .int .i64 (f2 : Int), .int .i64 (f3 : Int)] 80 := Bz.new (w.alloc _) _ _ _ (by show _ = (w.heap.push _).size; rw [Array.size_push])
 have C1 : Hid (Calls Tryz.prog 108 #[.pointer (some ⟨q, 0, none⟩), .agg #[.string nm, .int .i64 4, .int .i64 ad, .int .u8 pl, .slice Ab nb cb, .slice A n cap, .slice At nt ct], .agg #[.int .i64 (f0 : Int), .int .i64 (f1 : Int), .int .i64 (f2 : Int), .int .i64 (f3 : Int)]] ((w.alloc (.cells #[.string nm, .int .i64 4, .int .i64 ad, .int .u8 pl, .slice Ab nb cb, .slice A n cap, .slice At nt ct] 91)).alloc (.cells #[.int .i64 (f0 : Int), .int .i64 (f1 : Int), .int .i64 (f2 : Int), .int .i64 (f3 : Int)] 80)) fun e w' => ∃ f : Nat, e = .returned (.int .i64 (f : Int)) ∧ BOut base q a M w0 w ns er g ψ (.returned (.int .i64 (f : Int))) w') := (C _ h1).mono fun e w' B => by
  obtain ⟨f, ns1, er1, rfl, r⟩ := id B
  exact ⟨f, rfl, B.from (tf_two w _ _)⟩
 have d0 := Z1.cell 0 (.string nm) rfl
 have d1 := Z1.cell 1 (.int .i64 4) rfl
 have d2 := Z1.cell 2 (.int .i64 ad) rfl
 have d3 := Z1.cell 3 (.int .u8 pl) rfl
 have d4 := Z1.cell 4 (.slice Ab nb cb) rfl
 have d5 := Z1.cell 5 (.slice A n cap) rfl
 have d6 := Z1.cell 6 (.slice At nt ct) rfl
 have p0 := Z2.cell 0 (.int .i64 (f0 : Int)) rfl
 have p1 := Z2.cell 1 (.int .i64 (f1 : Int)) rfl
 have p2 := Z2.cell 2 (.int .i64 (f2 : Int)) rfl
 have p3 := Z2.cell 3 (.int .i64 (f3 : Int)) rfl
 clear h h1 Z1 Z2 C
 go_enter Tryz.func80, Tryz.ntmps80
 go_wp2_with fail
 with_reducible refine C1.out.mono ?_
 rintro e w2 ⟨fx, rfl, FF⟩
 go_wp2_with fail
 go_ret
 exact FF
theorem send_spread (h : Bn base q a M w0 w ns er) {nm : ByteArray} {ad pl : Int} {Ab A At : Option Addr} {nb cb n cap nt ct : Nat} {f0 f1 f2 f3 : Nat} {pt : Int} (hpt : pt = 1) {g : Nat} {ψ : Env -> Bool} (C : ∀ W, Bn base q a M w0 W ns er -> Calls Tryz.prog 109 #[.pointer (some ⟨q, 0, none⟩), .agg #[.string nm, .int .i64 5, .int .i64 ad, .int .u8 pl, .slice Ab nb cb, .slice A n cap, .slice At nt ct], .agg #[.int .i64 (f0 : Int), .int .i64 (f1 : Int), .int .i64 (f2 : Int), .int .i64 (f3 : Int)]] W (BOut base q a M w0 W ns er g ψ)) :
  Calls Tryz.prog 80 #[.pointer (some ⟨q, 0, none⟩), .agg #[.string nm, .int .i64 5, .int .i64 ad, .int .u8 pl, .slice Ab nb cb, .slice A n cap, .slice At nt ct], .int .i64 pt, .agg #[.int .i64 (f0 : Int), .int .i64 (f1 : Int), .int .i64 (f2 : Int), .int .i64 (f3 : Int)]] w (BOut base q a M w0 w ns er g ψ) := by
 subst hpt
 have h1 := ((h.alloc (.cells #[.string nm, .int .i64 5, .int .i64 ad, .int .u8 pl, .slice Ab nb cb, .slice A n cap, .slice At nt ct] 91)).alloc (.cells #[.int .i64 (f0 : Int), .int .i64 (f1 : Int), .int .i64 (f2 : Int), .int .i64 (f3 : Int)] 80))
 have Z1 : Bz ((w.alloc (.cells #[.string nm, .int .i64 5, .int .i64 ad, .int .u8 pl, .slice Ab nb cb, .slice A n cap, .slice At nt ct] 91)).alloc (.cells #[.int .i64 (f0 : Int), .int .i64 (f1 : Int), .int .i64 (f2 : Int), .int .i64 (f3 : Int)] 80)) w.heap.size #[.string nm, .int .i64 5, .int .i64 ad, .int .u8 pl, .slice Ab nb cb, .slice A n cap, .slice At nt ct] 91 := (Bz.new w _ _ _ rfl).al _
 have Z2 : Bz ((w.alloc (.cells #[.string nm, .int .i64 5, .int .i64 ad, .int .u8 pl, .slice Ab nb cb, .slice A n cap, .slice At nt ct] 91)).alloc (.cells #[.int .i64 (f0 : Int), .int .i64 (f1 : Int), .int .i64 (f2 : Int), .int .i64 (f3 : Int)] 80)) (w.heap.size + 1) #[.int .i64 (f0 : Int), .int .i64 (f1 : Int), .int .i64 (f2 : Int), .int .i64 (f3 : Int)] 80 := Bz.new (w.alloc _) _ _ _ (by show _ = (w.heap.push _).size; rw [Array.size_push])
 have C1 : Hid (Calls Tryz.prog 109 #[.pointer (some ⟨q, 0, none⟩), .agg #[.string nm, .int .i64 5, .int .i64 ad, .int .u8 pl, .slice Ab nb cb, .slice A n cap, .slice At nt ct], .agg #[.int .i64 (f0 : Int), .int .i64 (f1 : Int), .int .i64 (f2 : Int), .int .i64 (f3 : Int)]] ((w.alloc (.cells #[.string nm, .int .i64 5, .int .i64 ad, .int .u8 pl, .slice Ab nb cb, .slice A n cap, .slice At nt ct] 91)).alloc (.cells #[.int .i64 (f0 : Int), .int .i64 (f1 : Int), .int .i64 (f2 : Int), .int .i64 (f3 : Int)] 80)) fun e w' => ∃ f : Nat, e = .returned (.int .i64 (f : Int)) ∧ BOut base q a M w0 w ns er g ψ (.returned (.int .i64 (f : Int))) w') := (C _ h1).mono fun e w' B => by
  obtain ⟨f, ns1, er1, rfl, r⟩ := id B
  exact ⟨f, rfl, B.from (tf_two w _ _)⟩
 have d0 := Z1.cell 0 (.string nm) rfl
 have d1 := Z1.cell 1 (.int .i64 5) rfl
 have d2 := Z1.cell 2 (.int .i64 ad) rfl
 have d3 := Z1.cell 3 (.int .u8 pl) rfl
 have d4 := Z1.cell 4 (.slice Ab nb cb) rfl
 have d5 := Z1.cell 5 (.slice A n cap) rfl
 have d6 := Z1.cell 6 (.slice At nt ct) rfl
 have p0 := Z2.cell 0 (.int .i64 (f0 : Int)) rfl
 have p1 := Z2.cell 1 (.int .i64 (f1 : Int)) rfl
 have p2 := Z2.cell 2 (.int .i64 (f2 : Int)) rfl
 have p3 := Z2.cell 3 (.int .i64 (f3 : Int)) rfl
 clear h h1 Z1 Z2 C
 go_enter Tryz.func80, Tryz.ntmps80
 go_wp2_with fail
 with_reducible refine C1.out.mono ?_
 rintro e w2 ⟨fx, rfl, FF⟩
 go_wp2_with fail
 go_ret
 exact FF
theorem send_gather (h : Bn base q a M w0 w ns er) {nm : ByteArray} {ad pl : Int} {Ab A At : Option Addr} {nb cb n cap nt ct : Nat} {f0 f1 f2 f3 : Nat} {pt : Int} (hpt : ¬ pt = 1) {g : Nat} {ψ : Env -> Bool} (C : ∀ W, Bn base q a M w0 W ns er -> Calls Tryz.prog 110 #[.pointer (some ⟨q, 0, none⟩), .agg #[.string nm, .int .i64 5, .int .i64 ad, .int .u8 pl, .slice Ab nb cb, .slice A n cap, .slice At nt ct], .agg #[.int .i64 (f0 : Int), .int .i64 (f1 : Int), .int .i64 (f2 : Int), .int .i64 (f3 : Int)]] W (BOut base q a M w0 W ns er g ψ)) :
  Calls Tryz.prog 80 #[.pointer (some ⟨q, 0, none⟩), .agg #[.string nm, .int .i64 5, .int .i64 ad, .int .u8 pl, .slice Ab nb cb, .slice A n cap, .slice At nt ct], .int .i64 pt, .agg #[.int .i64 (f0 : Int), .int .i64 (f1 : Int), .int .i64 (f2 : Int), .int .i64 (f3 : Int)]] w (BOut base q a M w0 w ns er g ψ) := by
 have hp1 : (pt == 1) = false := by simpa using hpt
 have h1 := ((h.alloc (.cells #[.string nm, .int .i64 5, .int .i64 ad, .int .u8 pl, .slice Ab nb cb, .slice A n cap, .slice At nt ct] 91)).alloc (.cells #[.int .i64 (f0 : Int), .int .i64 (f1 : Int), .int .i64 (f2 : Int), .int .i64 (f3 : Int)] 80))
 have Z1 : Bz ((w.alloc (.cells #[.string nm, .int .i64 5, .int .i64 ad, .int .u8 pl, .slice Ab nb cb, .slice A n cap, .slice At nt ct] 91)).alloc (.cells #[.int .i64 (f0 : Int), .int .i64 (f1 : Int), .int .i64 (f2 : Int), .int .i64 (f3 : Int)] 80)) w.heap.size #[.string nm, .int .i64 5, .int .i64 ad, .int .u8 pl, .slice Ab nb cb, .slice A n cap, .slice At nt ct] 91 := (Bz.new w _ _ _ rfl).al _
 have Z2 : Bz ((w.alloc (.cells #[.string nm, .int .i64 5, .int .i64 ad, .int .u8 pl, .slice Ab nb cb, .slice A n cap, .slice At nt ct] 91)).alloc (.cells #[.int .i64 (f0 : Int), .int .i64 (f1 : Int), .int .i64 (f2 : Int), .int .i64 (f3 : Int)] 80)) (w.heap.size + 1) #[.int .i64 (f0 : Int), .int .i64 (f1 : Int), .int .i64 (f2 : Int), .int .i64 (f3 : Int)] 80 := Bz.new (w.alloc _) _ _ _ (by show _ = (w.heap.push _).size; rw [Array.size_push])
 have C1 : Hid (Calls Tryz.prog 110 #[.pointer (some ⟨q, 0, none⟩), .agg #[.string nm, .int .i64 5, .int .i64 ad, .int .u8 pl, .slice Ab nb cb, .slice A n cap, .slice At nt ct], .agg #[.int .i64 (f0 : Int), .int .i64 (f1 : Int), .int .i64 (f2 : Int), .int .i64 (f3 : Int)]] ((w.alloc (.cells #[.string nm, .int .i64 5, .int .i64 ad, .int .u8 pl, .slice Ab nb cb, .slice A n cap, .slice At nt ct] 91)).alloc (.cells #[.int .i64 (f0 : Int), .int .i64 (f1 : Int), .int .i64 (f2 : Int), .int .i64 (f3 : Int)] 80)) fun e w' => ∃ f : Nat, e = .returned (.int .i64 (f : Int)) ∧ BOut base q a M w0 w ns er g ψ (.returned (.int .i64 (f : Int))) w') := (C _ h1).mono fun e w' B => by
  obtain ⟨f, ns1, er1, rfl, r⟩ := id B
  exact ⟨f, rfl, B.from (tf_two w _ _)⟩
 have d0 := Z1.cell 0 (.string nm) rfl
 have d1 := Z1.cell 1 (.int .i64 5) rfl
 have d2 := Z1.cell 2 (.int .i64 ad) rfl
 have d3 := Z1.cell 3 (.int .u8 pl) rfl
 have d4 := Z1.cell 4 (.slice Ab nb cb) rfl
 have d5 := Z1.cell 5 (.slice A n cap) rfl
 have d6 := Z1.cell 6 (.slice At nt ct) rfl
 have p0 := Z2.cell 0 (.int .i64 (f0 : Int)) rfl
 have p1 := Z2.cell 1 (.int .i64 (f1 : Int)) rfl
 have p2 := Z2.cell 2 (.int .i64 (f2 : Int)) rfl
 have p3 := Z2.cell 3 (.int .i64 (f3 : Int)) rfl
 clear h h1 Z1 Z2 C
 go_enter Tryz.func80, Tryz.ntmps80
 go_wp2_with fail
 with_reducible refine C1.out.mono ?_
 rintro e w2 ⟨fx, rfl, FF⟩
 go_wp2_with fail
 go_ret
 exact FF
theorem send_host (h : Bn base q a M w0 w ns er) {nm : ByteArray} {ad pl : Int} {Ab A At : Option Addr} {nb cb n cap nt ct : Nat} {f0 f1 f2 f3 : Nat} {pt : Int} :
  Calls Tryz.prog 80 #[.pointer (some ⟨q, 0, none⟩), .agg #[.string nm, .int .i64 1, .int .i64 ad, .int .u8 pl, .slice Ab nb cb, .slice A n cap, .slice At nt ct], .int .i64 pt, .agg #[.int .i64 (f0 : Int), .int .i64 (f1 : Int), .int .i64 (f2 : Int), .int .i64 (f3 : Int)]] w (BOut base q a M w0 w ns er 0 (fun _ => false)) := by
 have h1 := ((h.alloc (.cells #[.string nm, .int .i64 1, .int .i64 ad, .int .u8 pl, .slice Ab nb cb, .slice A n cap, .slice At nt ct] 91)).alloc (.cells #[.int .i64 (f0 : Int), .int .i64 (f1 : Int), .int .i64 (f2 : Int), .int .i64 (f3 : Int)] 80))
 have FF : Hid (BOut base q a M w0 w ns er 0 (fun _ => false) (.returned (.int .i64 0)) ((w.alloc (.cells #[.string nm, .int .i64 1, .int .i64 ad, .int .u8 pl, .slice Ab nb cb, .slice A n cap, .slice At nt ct] 91)).alloc (.cells #[.int .i64 (f0 : Int), .int .i64 (f1 : Int), .int .i64 (f2 : Int), .int .i64 (f3 : Int)] 80))) := ⟨0, ns, er, rfl, ⟨h1, tf_two w _ _⟩, Ext.refl _, id, ⟨Nat.lt_of_lt_of_le (by omega) h1.ar.wf.len, fun _ x => ev0 _ x⟩, fun e => ⟨by omega, fun h => absurd e h⟩⟩
 have Z1 : Bz ((w.alloc (.cells #[.string nm, .int .i64 1, .int .i64 ad, .int .u8 pl, .slice Ab nb cb, .slice A n cap, .slice At nt ct] 91)).alloc (.cells #[.int .i64 (f0 : Int), .int .i64 (f1 : Int), .int .i64 (f2 : Int), .int .i64 (f3 : Int)] 80)) w.heap.size #[.string nm, .int .i64 1, .int .i64 ad, .int .u8 pl, .slice Ab nb cb, .slice A n cap, .slice At nt ct] 91 := (Bz.new w _ _ _ rfl).al _
 have d1 := Z1.cell 1 (.int .i64 1) rfl
 clear h h1 Z1
 go_enter Tryz.func80, Tryz.ntmps80
 go_wp2_with fail
 go_ret
 exact FF.out
end
end Go.Proofs.YtmcklkkkkigflaaGreat
