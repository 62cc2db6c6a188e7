/-
  Reach: what devices send: gather.
-/
import Derived.Test.YtlmmeppifkigeaaGreatXAG
import Derived.Deep.DeepCutAuto
import Derived.Test.YtlmmeppifkigeaaGreatProg
import Derived.WalkKit
import Derived.WalkSpells
import Derived.WalkLawsBesides
import Derived.Handy
import Derived.BigQuiet
import Derived.Deep.QuietTactic
import Derived.Deep.RegionHeld3
import Derived.Laws.AppendOwn
namespace Go.Proofs.YtlmmeppifkigeaaGreat
open Go.RowKit Go.Maps

section
variable {base q a M : Nat} {w0 w : World} {ns : List Nd} {er : Int}
set_option maxHeartbeats 4000000 in
set_option maxRecDepth 100000 in
theorem gather_b (h : Bn base q a M w0 w ns er) {nm : ByteArray} {kd ad pl : Int} {Ab A At : Option Addr} {nb cb n cap nt ct : Nat} {f0 f1 f2 f3 : Nat} {bs : List Int} {gO g1 gF gA1 gA2 g2 gA3 gO1 : Nat} {φ0 φ1 φa φc : Env → Bool} (h0 : 0 ≤ ad) (h16 : ad < 16) (hB : SlAt base w0 1 IsI (.slice Ab nb cb) bs) (hbs : ∀ x ∈ bs, 0 ≤ x ∧ x < 16) (AO : AndB base q a M w0 φ0 (phi 65535 (setL [ad] 0) 255 255) gO) (N1 : AnB 148 base q a M w0 (fun x => φ0 x && (phi 65535 (setL [ad] 0) 255 255) x) φa g1) (FB : FlB base q a M w0 φa gF) (A1 : AndB base q a M w0 (phi (setL bs 0) 65535 255 255) (flF φa) gA1) (A2 : AndB base q a M w0 φ1 (fun x => (phi (setL bs 0) 65535 255 255) x && flF φa x) gA2) (N2 : AnB 145 base q a M w0 (fun x => φ1 x && (fun x => (phi (setL bs 0) 65535 255 255) x && flF φa x) x) φc g2) (A3 : AndB base q a M w0 φc (phi (setL [ad] 0) 65535 255 255) gA3) (O1 : OrB base q a M w0 φ1 (fun x => φc x && (phi (setL [ad] 0) 65535 255 255) x) gO1) (hf0 : Fn ns er f0 φ0) (hf1 : Fn ns er f1 φ1) :
    Calls Tryz.prog 122 #[.pointer (some ⟨q, 0, none⟩), .agg #[.string nm, .int .i64 kd, .int .i64 ad, .int .u8 pl, .slice Ab nb cb, .slice A n cap, .slice At nt ct], .agg #[.int .i64 (f0 : Int), .int .i64 (f1 : Int), .int .i64 (f2 : Int), .int .i64 (f3 : Int)]] w (BOut base q a M w0 w ns er (0 + 44 + (0 + 44 + gO) + g1 + gF + gA1 + gA2 + g2 + 44 + gA3 + gO1) (fun x => φ1 x || (fun x => φc x && (phi (setL [ad] 0) 65535 255 255) x) x)) := by
  have h1 := ((h.alloc (.cells #[.string nm, .int .i64 kd, .int .i64 ad, .int .u8 pl, .slice Ab nb cb, .slice A n cap, .slice At nt ct] 62)).alloc (.cells #[.int .i64 (f0 : Int), .int .i64 (f1 : Int), .int .i64 (f2 : Int), .int .i64 (f3 : Int)] 98))
  have Z1 : Bz ((w.alloc (.cells #[.string nm, .int .i64 kd, .int .i64 ad, .int .u8 pl, .slice Ab nb cb, .slice A n cap, .slice At nt ct] 62)).alloc (.cells #[.int .i64 (f0 : Int), .int .i64 (f1 : Int), .int .i64 (f2 : Int), .int .i64 (f3 : Int)] 98)) w.heap.size #[.string nm, .int .i64 kd, .int .i64 ad, .int .u8 pl, .slice Ab nb cb, .slice A n cap, .slice At nt ct] 62 := (Bz.new w _ _ _ rfl).al _
  have Z2 : Bz ((w.alloc (.cells #[.string nm, .int .i64 kd, .int .i64 ad, .int .u8 pl, .slice Ab nb cb, .slice A n cap, .slice At nt ct] 62)).alloc (.cells #[.int .i64 (f0 : Int), .int .i64 (f1 : Int), .int .i64 (f2 : Int), .int .i64 (f3 : Int)] 98)) (w.heap.size + 1) #[.int .i64 (f0 : Int), .int .i64 (f1 : Int), .int .i64 (f2 : Int), .int .i64 (f3 : Int)] 98 := Bz.new (w.alloc _) _ _ _ (by show _ = (w.heap.push _).size; rw [Array.size_push])
  have hz := set_one h0 h16
  have hzb : setL bs 0 < 65536 := setL_lt _ _ hbs (by omega)
  have SI : Hid (∀ (k : Nat) W, Bz W k #[.int .i64 ad] 3 → Calls Tryz.prog 53 #[.slice (some ⟨k, 0, none⟩) 1 1] W fun e w' => e = .returned (.agg #[.int .u16 (setL [ad] 0 : Nat), .int .u16 65535, .int .u8 255, .int .u8 255]) ∧ Below W.heap.size W w') := fun k W hk => srcIn_any _ [ad] W (sl_one hk) (fun y hy => by simp at hy; omega)
  have SB : Hid (∀ W, base ≤ W.heap.size → Below base w0 W → Calls Tryz.prog 53 #[.slice Ab nb cb] W fun e w' => e = .returned (.agg #[.int .u16 (setL bs 0 : Nat), .int .u16 65535, .int .u8 255, .int .u8 255]) ∧ Below W.heap.size W w') := fun W hs hb => srcIn_any _ bs W (SlAt.mono (SlAt.below hB hb (fun _ _ _ h => h)) hs (fun _ _ _ h => h)) hbs
  have OW : Hid (∀ ns1 er1 W, Bn base q a M w0 W ns1 er1 → Fn ns1 er1 f0 φ0 → Calls Tryz.prog 150 #[.pointer (some ⟨q, 0, none⟩), .agg #[.string nm, .int .i64 kd, .int .i64 ad, .int .u8 pl, .slice Ab nb cb, .slice A n cap, .slice At nt ct], .agg #[.int .i64 (f0 : Int), .int .i64 (f1 : Int), .int .i64 (f2 : Int), .int .i64 (f3 : Int)]] W (BOut base q a M w0 W ns1 er1 (0 + 44 + gO) (fun x => φ0 x && (phi 65535 (setL [ad] 0) 255 255) x))) := fun ns1 er1 W b hf => own_b b h0 h16 AO hf
  generalize setL [ad] 0 = z at *
  generalize setL bs 0 = zb at *
  have Q0 : Qs base q a M w0 ((w.alloc (.cells #[.string nm, .int .i64 kd, .int .i64 ad, .int .u8 pl, .slice Ab nb cb, .slice A n cap, .slice At nt ct] 62)).alloc (.cells #[.int .i64 (f0 : Int), .int .i64 (f1 : Int), .int .i64 (f2 : Int), .int .i64 (f3 : Int)] 98)) ns er 0 [(f0, φ0), (f1, φ1)] [(w.heap.size + 1, #[.int .i64 (f0 : Int), .int .i64 (f1 : Int), .int .i64 (f2 : Int), .int .i64 (f3 : Int)], 98), (w.heap.size, #[.string nm, .int .i64 kd, .int .i64 ad, .int .u8 pl, .slice Ab nb cb, .slice A n cap, .slice At nt ct], 62)] ((w.alloc (.cells #[.string nm, .int .i64 kd, .int .i64 ad, .int .u8 pl, .slice Ab nb cb, .slice A n cap, .slice At nt ct] 62)).alloc (.cells #[.int .i64 (f0 : Int), .int .i64 (f1 : Int), .int .i64 (f2 : Int), .int .i64 (f3 : Int)] 98)) := ((Qs.start h1 (fs := [(f0, φ0), (f1, φ1)]) (fun x hx => by
    rcases List.mem_cons.1 hx with rfl | hx
    · exact hf0
    · rw [List.mem_singleton.1 hx]; exact hf1)).boxed Z1 (by decide)).boxed Z2 (by decide)
  have tfw : TF w ((w.alloc (.cells #[.string nm, .int .i64 kd, .int .i64 ad, .int .u8 pl, .slice Ab nb cb, .slice A n cap, .slice At nt ct] 62)).alloc (.cells #[.int .i64 (f0 : Int), .int .i64 (f1 : Int), .int .i64 (f2 : Int), .int .i64 (f3 : Int)] 98)) := tf_two w _ _
  obtain ⟨V0, hV0⟩ : ∃ V : Nat → List (Nat × (Env → Bool)) → List Bx → World → Prop, V = fun g fs bx W => Qs base q a M w0 ((w.alloc (.cells #[.string nm, .int .i64 kd, .int .i64 ad, .int .u8 pl, .slice Ab nb cb, .slice A n cap, .slice At nt ct] 62)).alloc (.cells #[.int .i64 (f0 : Int), .int .i64 (f1 : Int), .int .i64 (f2 : Int), .int .i64 (f3 : Int)] 98)) ns er g fs (bx ++ [(w.heap.size + 1, #[.int .i64 (f0 : Int), .int .i64 (f1 : Int), .int .i64 (f2 : Int), .int .i64 (f3 : Int)], 98), (w.heap.size, #[.string nm, .int .i64 kd, .int .i64 ad, .int .u8 pl, .slice Ab nb cb, .slice A n cap, .slice At nt ct], 62)]) W := ⟨_, rfl⟩
  have V5 : V0 0 [(f0, φ0), (f1, φ1)] [] ((w.alloc (.cells #[.string nm, .int .i64 kd, .int .i64 ad, .int .u8 pl, .slice Ab nb cb, .slice A n cap, .slice At nt ct] 62)).alloc (.cells #[.int .i64 (f0 : Int), .int .i64 (f1 : Int), .int .i64 (f2 : Int), .int .i64 (f3 : Int)] 98)).drew := by rw [hV0]; exact Q0.drew
  have HC : Hid (∀ {g : Nat} {fs : List (Nat × (Env → Bool))} {bx : List Bx} {W : World}, V0 g fs bx W → (W.cell? ⟨w.heap.size, 0, none⟩ = some (.string nm) ∧ W.cell? ⟨w.heap.size, 1, none⟩ = some (.int .i64 kd) ∧ W.cell? ⟨w.heap.size, 2, none⟩ = some (.int .i64 ad) ∧ W.cell? ⟨w.heap.size, 3, none⟩ = some (.int .u8 pl) ∧ W.cell? ⟨w.heap.size, 4, none⟩ = some (.slice Ab nb cb) ∧ W.cell? ⟨w.heap.size, 5, none⟩ = some (.slice A n cap) ∧ W.cell? ⟨w.heap.size, 6, none⟩ = some (.slice At nt ct)) ∧ (W.cell? ⟨w.heap.size + 1, 0, none⟩ = some (.int .i64 (f0 : Int)) ∧ W.cell? ⟨w.heap.size + 1, 1, none⟩ = some (.int .i64 (f1 : Int)) ∧ W.cell? ⟨w.heap.size + 1, 2, none⟩ = some (.int .i64 (f2 : Int)) ∧ W.cell? ⟨w.heap.size + 1, 3, none⟩ = some (.int .i64 (f3 : Int)))) := fun {g fs bx W} hq => by
    rw [hV0] at hq
    have k2 := (hq.bz _ (List.mem_append_right _ List.mem_cons_self)).1
    have k3 := (hq.bz _ (List.mem_append_right _ (List.mem_cons_of_mem _ List.mem_cons_self))).1
    exact ⟨⟨k3.cell 0 _ rfl, k3.cell 1 _ rfl, k3.cell 2 _ rfl, k3.cell 3 _ rfl, k3.cell 4 _ rfl, k3.cell 5 _ rfl, k3.cell 6 _ rfl⟩, k2.cell 0 _ rfl, k2.cell 1 _ rfl, k2.cell 2 _ rfl, k2.cell 3 _ rfl⟩
  have ALB : ∀ {g : Nat} {fs : List (Nat × (Env → Bool))} {W : World}, V0 g fs [] W → V0 g fs [(W.heap.size, #[.int .i64 ad], 3)] (W.alloc (.cells #[.int .i64 ad] 3)) := fun {g fs W} hq => by rw [hV0] at hq ⊢; exact hq.box rfl (by decide)
  have NB : ∀ {g : Nat} {fs : List (Nat × (Env → Bool))} {bx : List Bx} {W : World}, V0 g fs bx W → V0 g fs [] W := fun {g fs bx W} hq => by
    rw [hV0] at hq ⊢
    exact ⟨hq.st, fun b hb => hq.bz b (List.mem_append_right _ hb), hq.bT⟩
  have DRW : ∀ {g : Nat} {fs : List (Nat × (Env → Bool))} {bx : List Bx} {W : World}, V0 g fs bx W → V0 g fs bx W.drew := fun {g fs bx W} hq => by rw [hV0] at hq ⊢; exact hq.drew
  have CI : Hid (∀ {g : Nat} {fs : List (Nat × (Env → Bool))} {k : Nat} {W : World}, V0 g fs [(k, #[.int .i64 ad], 3)] W → Calls Tryz.prog 53 #[.slice (some ⟨k, 0, none⟩) 1 1] W fun e w' => e = .returned (.agg #[.int .u16 (z : Int), .int .u16 65535, .int .u8 255, .int .u8 255]) ∧ V0 g fs [(k, #[.int .i64 ad], 3)] w') := fun {g fs k W} hq => by
    rw [hV0] at hq ⊢
    exact (SI.out k W (hq.bz _ List.mem_cons_self).1).mono fun e w' ⟨h1, h2⟩ => ⟨h1, hq.grow h2⟩
  have CS : Hid (∀ {g : Nat} {fs : List (Nat × (Env → Bool))} {bx : List Bx} {W : World}, V0 g fs bx W → Calls Tryz.prog 53 #[.slice Ab nb cb] W fun e w' => e = .returned (.agg #[.int .u16 (zb : Int), .int .u16 65535, .int .u8 255, .int .u8 255]) ∧ V0 g fs bx w' ∧ Below W.heap.size W w') := fun {g fs bx W} hq => by
    rw [hV0] at hq ⊢
    obtain ⟨ns1, er1, s1, hf⟩ := hq.st
    exact (SB.out W s1.bn.size s1.bn.bel).mono fun e w' ⟨h1, h2⟩ => ⟨h1, hq.grow h2, h2⟩
  have CM : Hid (∀ {g : Nat} {fs : List (Nat × (Env → Bool))} {bx : List Bx} {W : World}, V0 g fs bx W → Calls Tryz.prog 68 #[.pointer (some ⟨q, 0, none⟩), .agg #[.int .u16 (zb : Int), .int .u16 65535, .int .u8 255, .int .u8 255]] W fun e w' => ∃ f : Nat, e = .returned (.int .i64 (f : Int)) ∧ V0 (g + 44) ((f, phi zb 65535 255 255) :: fs) bx w') := fun {g fs bx W} hq => by
    rw [hV0] at hq ⊢
    exact hq.call fun _ _ b _ => match_b b zb 65535 255 255 hzb (by omega) (by omega) (by omega)
  have CO : Hid (∀ {g : Nat} {fs : List (Nat × (Env → Bool))} {bx : List Bx} {W : World}, V0 g fs bx W → (f0, φ0) ∈ fs → Calls Tryz.prog 150 #[.pointer (some ⟨q, 0, none⟩), .agg #[.string nm, .int .i64 kd, .int .i64 ad, .int .u8 pl, .slice Ab nb cb, .slice A n cap, .slice At nt ct], .agg #[.int .i64 (f0 : Int), .int .i64 (f1 : Int), .int .i64 (f2 : Int), .int .i64 (f3 : Int)]] W fun e w' => ∃ f : Nat, e = .returned (.int .i64 (f : Int)) ∧ V0 (g + (0 + 44 + gO)) ((f, (fun x => φ0 x && phi 65535 z 255 255 x)) :: fs) bx w') := fun {g fs bx W} hq m1 => by
    rw [hV0] at hq ⊢
    exact hq.call fun _ _ b hf => OW.out _ _ _ b (hf _ m1)
  have C1 : Hid (∀ {g : Nat} {fs : List (Nat × (Env → Bool))} {bx : List Bx} {W : World} (i : Nat), V0 g fs bx W → (i, (fun x => φ0 x && phi 65535 z 255 255 x)) ∈ fs → Calls Tryz.prog 148 #[.pointer (some ⟨q, 0, none⟩), .int .i64 (i : Int)] W fun e w' => ∃ f : Nat, e = .returned (.int .i64 (f : Int)) ∧ V0 (g + g1) ((f, φa) :: fs) bx w') := fun {g fs bx W} i hq m1 => by
    rw [hV0] at hq ⊢
    exact hq.call fun _ _ b hf => N1 _ _ _ _ b (hf _ m1)
  have CF : Hid (∀ {g : Nat} {fs : List (Nat × (Env → Bool))} {bx : List Bx} {W : World} (i : Nat), V0 g fs bx W → (i, φa) ∈ fs → Calls Tryz.prog 144 #[.pointer (some ⟨q, 0, none⟩), .int .i64 (i : Int)] W fun e w' => ∃ f : Nat, e = .returned (.int .i64 (f : Int)) ∧ V0 (g + gF) ((f, flF φa) :: fs) bx w') := fun {g fs bx W} i hq m1 => by
    rw [hV0] at hq ⊢
    exact hq.call fun _ _ b hf => FB _ _ _ _ b (hf _ m1)
  have CA : Hid (∀ {g : Nat} {fs : List (Nat × (Env → Bool))} {bx : List Bx} {W : World} (i j : Nat), V0 g fs bx W → (i, (phi zb 65535 255 255)) ∈ fs → (j, (flF φa)) ∈ fs → Calls Tryz.prog 66 #[.pointer (some ⟨q, 0, none⟩), .int .i64 (i : Int), .int .i64 (j : Int)] W fun e w' => ∃ f : Nat, e = .returned (.int .i64 (f : Int)) ∧ V0 (g + gA1) ((f, fun x => (phi zb 65535 255 255) x && (flF φa) x) :: fs) bx w') := fun {g fs bx W} i j hq m1 m2 => by
    rw [hV0] at hq ⊢
    exact hq.call fun _ _ b hf => A1 _ _ _ _ _ b (hf _ m1) (hf _ m2)
  have CB : Hid (∀ {g : Nat} {fs : List (Nat × (Env → Bool))} {bx : List Bx} {W : World} (i j : Nat), V0 g fs bx W → (i, φ1) ∈ fs → (j, (fun x => (phi zb 65535 255 255) x && flF φa x)) ∈ fs → Calls Tryz.prog 66 #[.pointer (some ⟨q, 0, none⟩), .int .i64 (i : Int), .int .i64 (j : Int)] W fun e w' => ∃ f : Nat, e = .returned (.int .i64 (f : Int)) ∧ V0 (g + gA2) ((f, fun x => φ1 x && (fun x => (phi zb 65535 255 255) x && flF φa x) x) :: fs) bx w') := fun {g fs bx W} i j hq m1 m2 => by
    rw [hV0] at hq ⊢
    exact hq.call fun _ _ b hf => A2 _ _ _ _ _ b (hf _ m1) (hf _ m2)
  have C2 : Hid (∀ {g : Nat} {fs : List (Nat × (Env → Bool))} {bx : List Bx} {W : World} (i : Nat), V0 g fs bx W → (i, (fun x => φ1 x && (fun x => (phi zb 65535 255 255) x && flF φa x) x)) ∈ fs → Calls Tryz.prog 145 #[.pointer (some ⟨q, 0, none⟩), .int .i64 (i : Int)] W fun e w' => ∃ f : Nat, e = .returned (.int .i64 (f : Int)) ∧ V0 (g + g2) ((f, φc) :: fs) bx w') := fun {g fs bx W} i hq m1 => by
    rw [hV0] at hq ⊢
    exact hq.call fun _ _ b hf => N2 _ _ _ _ b (hf _ m1)
  have CN : Hid (∀ {g : Nat} {fs : List (Nat × (Env → Bool))} {bx : List Bx} {W : World}, V0 g fs bx W → Calls Tryz.prog 68 #[.pointer (some ⟨q, 0, none⟩), .agg #[.int .u16 (z : Int), .int .u16 65535, .int .u8 255, .int .u8 255]] W fun e w' => ∃ f : Nat, e = .returned (.int .i64 (f : Int)) ∧ V0 (g + 44) ((f, phi z 65535 255 255) :: fs) bx w') := fun {g fs bx W} hq => by
    rw [hV0] at hq ⊢
    exact hq.call fun _ _ b _ => match_b b z 65535 255 255 hz (by omega) (by omega) (by omega)
  have CE : Hid (∀ {g : Nat} {fs : List (Nat × (Env → Bool))} {bx : List Bx} {W : World} (i j : Nat), V0 g fs bx W → (i, φc) ∈ fs → (j, (phi z 65535 255 255)) ∈ fs → Calls Tryz.prog 66 #[.pointer (some ⟨q, 0, none⟩), .int .i64 (i : Int), .int .i64 (j : Int)] W fun e w' => ∃ f : Nat, e = .returned (.int .i64 (f : Int)) ∧ V0 (g + gA3) ((f, fun x => φc x && (phi z 65535 255 255) x) :: fs) bx w') := fun {g fs bx W} i j hq m1 m2 => by
    rw [hV0] at hq ⊢
    exact hq.call fun _ _ b hf => A3 _ _ _ _ _ b (hf _ m1) (hf _ m2)
  have CR : Hid (∀ {g : Nat} {fs : List (Nat × (Env → Bool))} {bx : List Bx} {W : World} (i j : Nat), V0 g fs bx W → (i, φ1) ∈ fs → (j, (fun x => φc x && (phi z 65535 255 255) x)) ∈ fs → Calls Tryz.prog 91 #[.pointer (some ⟨q, 0, none⟩), .int .i64 (i : Int), .int .i64 (j : Int)] W fun e w' => ∃ f : Nat, e = .returned (.int .i64 (f : Int)) ∧ V0 (g + gO1) ((f, fun x => φ1 x || (fun x => φc x && (phi z 65535 255 255) x) x) :: fs) bx w') := fun {g fs bx W} i j hq m1 m2 => by
    rw [hV0] at hq ⊢
    exact hq.call fun _ _ b hf => O1 _ _ _ _ _ b (hf _ m1) (hf _ m2)
  have FIN : Hid (∀ {fs : List (Nat × (Env → Bool))} {W : World} (f : Nat), V0 (0 + 44 + (0 + 44 + gO) + g1 + gF + gA1 + gA2 + g2 + 44 + gA3 + gO1) fs [] W → (f, (fun x => φ1 x || (fun x => φc x && (phi z 65535 255 255) x) x)) ∈ fs → BOut base q a M w0 w ns er (0 + 44 + (0 + 44 + gO) + g1 + gF + gA1 + gA2 + g2 + 44 + gA3 + gO1) (fun x => φ1 x || (fun x => φc x && (phi z 65535 255 255) x) x) (.returned (.int .i64 (f : Int))) W) := fun {fs W} f hq m => by
    rw [hV0] at hq
    exact hq.fn m tfw
  clear Q0 h1 Z1 Z2 h hf0 hf1 AO hB OW SI SB A1 A2 A3 O1 N1 N2 FB hz hzb tfw hV0
  go_enter Tryz.func122, Tryz.ntmps122
  go_wp2_with fail
  go_cut [7] (fun v wx => ∃ fm fo fa fl fx : Nat, v = .int .i64 (fx : Int) ∧ V0 (0 + 44 + (0 + 44 + gO) + g1 + gF + gA1) [(fx, (fun x => (phi zb 65535 255 255) x && flF φa x)), (fl, flF φa), (fa, φa), (fo, (fun x => φ0 x && phi 65535 z 255 255 x)), (fm, (phi zb 65535 255 255)), (f0, φ0), (f1, φ1)] [] wx)
  case first =>
    go_region_held3 (fun W => (W.cell? ⟨w.heap.size, 0, none⟩ = some (.string nm) ∧ W.cell? ⟨w.heap.size, 1, none⟩ = some (.int .i64 kd) ∧ W.cell? ⟨w.heap.size, 2, none⟩ = some (.int .i64 ad) ∧ W.cell? ⟨w.heap.size, 3, none⟩ = some (.int .u8 pl) ∧ W.cell? ⟨w.heap.size, 4, none⟩ = some (.slice Ab nb cb) ∧ W.cell? ⟨w.heap.size, 5, none⟩ = some (.slice A n cap) ∧ W.cell? ⟨w.heap.size, 6, none⟩ = some (.slice At nt ct)) ∧ (W.cell? ⟨w.heap.size + 1, 0, none⟩ = some (.int .i64 (f0 : Int)) ∧ W.cell? ⟨w.heap.size + 1, 1, none⟩ = some (.int .i64 (f1 : Int)) ∧ W.cell? ⟨w.heap.size + 1, 2, none⟩ = some (.int .i64 (f2 : Int)) ∧ W.cell? ⟨w.heap.size + 1, 3, none⟩ = some (.int .i64 (f3 : Int)))) (exact HC.out (by assumption))
      ((first
        | (go_at_call 53; (with_reducible refine (CS.out V5).mono ?_); rintro e w6 ⟨rfl, V6, _⟩; skip)
        | (go_at_call 68; (with_reducible refine (CM.out V6).mono ?_); rintro e w7 ⟨fm, rfl, V7⟩; skip)
        | (go_at_call 150; (with_reducible refine (CO.out V7 (List.Mem.tail _ (List.Mem.head _))).mono ?_); rintro e w8 ⟨fo, rfl, V8⟩; skip)
        | (go_at_call 148; (with_reducible refine (C1.out _ V8 (List.Mem.head _)).mono ?_); rintro e w9 ⟨fa, rfl, V9⟩; skip)
        | (go_at_call 144; (with_reducible refine (CF.out _ V9 (List.Mem.head _)).mono ?_); rintro e wa ⟨fl, rfl, VA⟩; skip)
        | (go_at_call 66; (with_reducible refine (CA.out _ _ VA (List.Mem.tail _ (List.Mem.tail _ (List.Mem.tail _ (List.Mem.head _)))) (List.Mem.head _)).mono ?_); rintro e wb ⟨fx, rfl, VB⟩; skip)))
    all_goals
      go_wp2_with fail
      go_meet
      exact ⟨fm, fo, fa, fl, fx, rfl, VB⟩
  case rest =>
    clear V5 CS CM CO C1 CF CA
    obtain ⟨fm, fo, fa, fl, fx, rfl, V5⟩ := hcut
    have V6 := DRW V5
    clear V5
    go_wp2_with fail
    go_cut [8] (fun v wx => ∃ (fy : Nat) (fs : List (Nat × (Env → Bool))), v = .int .i64 (fy : Int) ∧ V0 (0 + 44 + (0 + 44 + gO) + g1 + gF + gA1 + gA2 + g2 + 44 + gA3) ((fy, (fun x => φc x && (phi z 65535 255 255) x)) :: fs) [] wx ∧ (f1, φ1) ∈ fs)
    case first =>
      have V6a : V0 (0 + 44 + (0 + 44 + gO) + g1 + gF + gA1) [(fx, (fun x => (phi zb 65535 255 255) x && flF φa x)), (fl, flF φa), (fa, φa), (fo, (fun x => φ0 x && phi 65535 z 255 255 x)), (fm, (phi zb 65535 255 255)), (f0, φ0), (f1, φ1)] [(wc.heap.size, #[.int .i64 ad], 3)] (wc.alloc (.cells #[.int .i64 ad] 3)).drew := ALB V6
      go_region_held3 (fun W => (W.cell? ⟨w.heap.size, 0, none⟩ = some (.string nm) ∧ W.cell? ⟨w.heap.size, 1, none⟩ = some (.int .i64 kd) ∧ W.cell? ⟨w.heap.size, 2, none⟩ = some (.int .i64 ad) ∧ W.cell? ⟨w.heap.size, 3, none⟩ = some (.int .u8 pl) ∧ W.cell? ⟨w.heap.size, 4, none⟩ = some (.slice Ab nb cb) ∧ W.cell? ⟨w.heap.size, 5, none⟩ = some (.slice A n cap) ∧ W.cell? ⟨w.heap.size, 6, none⟩ = some (.slice At nt ct)) ∧ (W.cell? ⟨w.heap.size + 1, 0, none⟩ = some (.int .i64 (f0 : Int)) ∧ W.cell? ⟨w.heap.size + 1, 1, none⟩ = some (.int .i64 (f1 : Int)) ∧ W.cell? ⟨w.heap.size + 1, 2, none⟩ = some (.int .i64 (f2 : Int)) ∧ W.cell? ⟨w.heap.size + 1, 3, none⟩ = some (.int .i64 (f3 : Int)))) (first | exact HC.out (by assumption) | exact HC.out (ALB (by assumption)))
        ((first
          | (go_at_call 66; (with_reducible refine (CB.out _ _ V6 (List.Mem.tail _ (List.Mem.tail _ (List.Mem.tail _ (List.Mem.tail _ (List.Mem.tail _ (List.Mem.tail _ (List.Mem.head _))))))) (List.Mem.head _)).mono ?_); rintro e w7 ⟨fc, rfl, V7⟩; skip)
          | (go_at_call 66; (with_reducible refine (CB.out _ _ V6a (List.Mem.tail _ (List.Mem.tail _ (List.Mem.tail _ (List.Mem.tail _ (List.Mem.tail _ (List.Mem.tail _ (List.Mem.head _))))))) (List.Mem.head _)).mono ?_); rintro e w7 ⟨fc, rfl, V7a⟩; skip)
          | (go_at_call 145; (with_reducible refine (C2.out _ V7a (List.Mem.head _)).mono ?_); rintro e w8 ⟨fd, rfl, V8a⟩; skip)
          | (go_at_call 145; (with_reducible refine (C2.out _ (ALB V7) (List.Mem.head _)).mono ?_); rintro e w8 ⟨fd, rfl, V8a⟩; skip)
          | (go_at_call 145; (with_reducible refine (C2.out _ V7 (List.Mem.head _)).mono ?_); rintro e w8 ⟨fd, rfl, V8⟩; skip)
          | (go_at_call 53; (with_reducible refine (CI.out V8a).mono ?_); rintro e w9 ⟨rfl, V9⟩; skip)
          | (go_at_call 53; (with_reducible refine (CI.out (ALB V8)).mono ?_); rintro e w9 ⟨rfl, V9⟩; skip)
          | (go_at_call 68; (with_reducible refine (CN.out V9).mono ?_); rintro e wa ⟨fe, rfl, VA⟩; skip)
          | (go_at_call 66; (with_reducible refine (CE.out _ _ VA (List.Mem.tail _ (List.Mem.head _)) (List.Mem.head _)).mono ?_); rintro e wb ⟨fg, rfl, VB⟩; skip)))
      all_goals
        go_wp2_with fail
        go_meet
        exact ⟨fg, _, rfl, NB VB, (List.Mem.tail _ (List.Mem.tail _ (List.Mem.tail _ (List.Mem.tail _ (List.Mem.tail _ (List.Mem.tail _ (List.Mem.tail _ (List.Mem.tail _ (List.Mem.tail _ (List.Mem.head _))))))))))⟩
    case rest =>
      clear V6 CB C2 CN CE CI
      obtain ⟨fy, fs, rfl, V7, m7⟩ := hcut
      obtain ⟨⟨d0, d1, d2, d3, d4, d5, d6⟩, e0, e1, e2, e3⟩ := HC.out V7
      go_wp2_with fail
      with_reducible refine (CR.out _ _ V7 (List.Mem.tail _ m7) (List.Mem.head _)).mono ?_
      rintro e w8 ⟨fz, rfl, V8⟩
      have FF := FIN.out _ V8 (List.Mem.head _)
      clear HC CR FIN V8 V7 d0 d1 d2 d3 d4 d5 d6 e0 e1 e2 e3
      go_wp2_with fail
      go_ret
      exact FF
end
end Go.Proofs.YtlmmeppifkigeaaGreat

namespace Go.Proofs.YtlmmeppifkigeaaGreat
open Go.RowKit

/-- A route. -/
structure Rt where
  v : Int
  b : Int
  p : Int
abbrev rtv (r : Rt) : Value := .agg #[.int .i64 r.v, .int .i64 r.b, .int .i64 r.p]
abbrev rtcells (r : Rt) : List Value := [.int .i64 r.v, .int .i64 r.b, .int .i64 r.p]
def cellsT (xs : List Rt) : List Value := xs.flatMap fun r => rtcells r

/-! ### what a list says -/
/-- Bits of an address that a route doesn't look at. -/
def bh (b : Int) : Nat := (4 - b).toNat
def isR (r : Rt) : Bool := decide (0 ≤ r.b) && decide (r.b ≤ 4) && decide (0 ≤ r.v) && decide (r.v < 16) && decide (r.v % 2 ^ bh r.b = 0) && decide (0 ≤ r.p) && decide (r.p < 4)
def takesB (r : Rt) (d : Int) : Bool := decide (d / 2 ^ bh r.b = r.v / 2 ^ bh r.b)
/-- The best route up to here: its bits and port; -1 and 0, if there is none. -/
def better (d : Int) (m : Int × Int) (r : Rt) : Int × Int := if isR r && takesB r d && decide (m.1 < r.b) then (r.b, r.p) else m
def bestOf (l : List Rt) (d : Int) : Int × Int := l.foldl (better d) (-1, 0)
/-- What Out tells. -/
def outN (l : List Rt) (d : Int) : Int := if 0 ≤ d ∧ d < 16 then (bestOf l d).2 else 0
def outB (l : List Rt) (d : Int) : Bool := decide (0 ≤ d) && decide (d < 16) && !((bestOf l d).1 == -1)

theorem isR_bits {r : Rt} (h : isR r = true) : 0 ≤ r.b ∧ r.b ≤ 4 := by
  simp only [isR, Bool.and_eq_true, decide_eq_true_eq] at h
  exact ⟨h.1.1.1.1.1.1, h.1.1.1.1.1.2⟩
theorem isR_val {r : Rt} (h : isR r = true) : 0 ≤ r.v ∧ r.v < 16 ∧ r.v % 2 ^ bh r.b = 0 := by
  simp only [isR, Bool.and_eq_true, decide_eq_true_eq] at h
  exact ⟨h.1.1.1.1.2, h.1.1.1.2, h.1.1.2⟩
theorem bestOf_append (l m : List Rt) (d : Int) : bestOf (l ++ m) d = m.foldl (better d) (bestOf l d) := List.foldl_append ..
theorem bestOf_snoc (l : List Rt) (r : Rt) (d : Int) : bestOf (l ++ [r]) d = better d (bestOf l d) r := by rw [bestOf_append]; rfl
theorem bestOf_take {xs : List Rt} {k : Nat} {r : Rt} (h : xs[k]? = some r) (d : Int) : bestOf (xs.take (k + 1)) d = better d (bestOf (xs.take k) d) r := by
  obtain ⟨hk, e⟩ := List.getElem?_eq_some_iff.1 h
  rw [List.take_succ_eq_append_getElem hk, e, bestOf_snoc]
theorem better_top {m : Int × Int} {d : Int} (h : 4 ≤ m.1) (r : Rt) : better d m r = m := by
  unfold better
  split
  · rename_i hc
    simp only [Bool.and_eq_true, decide_eq_true_eq] at hc
    have := (isR_bits hc.1.1).2
    omega
  · rfl
theorem fold_top {d : Int} : ∀ (l : List Rt) (m : Int × Int), 4 ≤ m.1 → l.foldl (better d) m = m
  | [], _, _ => rfl
  | r :: l, m, h => by rw [List.foldl_cons, better_top h]; exact fold_top l m h
theorem fold_low {d : Int} : ∀ (l : List Rt) (m : Int × Int), (-1 ≤ m.1 ∧ (m.1 = -1 → m.2 = 0)) → (-1 ≤ (l.foldl (better d) m).1 ∧ ((l.foldl (better d) m).1 = -1 → (l.foldl (better d) m).2 = 0))
  | [], _, h => h
  | r :: l, m, h => by
    rw [List.foldl_cons]
    refine fold_low l _ ?_
    unfold better
    split
    · rename_i hc
      simp only [Bool.and_eq_true, decide_eq_true_eq] at hc
      have := (isR_bits hc.1.1).1
      exact ⟨by simp only; omega, fun e => by simp only at e; omega⟩
    · exact h
theorem bestOf_low (l : List Rt) (d : Int) : -1 ≤ (bestOf l d).1 ∧ ((bestOf l d).1 = -1 → (bestOf l d).2 = 0) := fold_low l (-1, 0) ⟨by simp, fun _ => rfl⟩
/-- A route of all four bits wins. -/
theorem out_ahead (l : List Rt) {d k : Int} (hd : 0 ≤ d ∧ d < 16) (hk : 0 ≤ k ∧ k < 4) : outN (⟨d, 4, k⟩ :: l) d = k ∧ outB (⟨d, 4, k⟩ :: l) d = true := by
  have h0 : better d (-1, 0) ⟨d, 4, k⟩ = (4, k) := by
    unfold better
    rw [if_pos]
    simp [isR, takesB, bh]
    omega
  have h1 : bestOf (⟨d, 4, k⟩ :: l) d = (4, k) := by
    unfold bestOf
    rw [List.foldl_cons, h0]
    exact fold_top l _ (by simp)
  unfold outN outB
  rw [h1, if_pos hd]
  simp [hd]
/-- A route for all is asked last. -/
theorem out_last (l : List Rt) {d k : Int} (hd : 0 ≤ d ∧ d < 16) (hk : 0 ≤ k ∧ k < 4) : outB (l ++ [⟨0, 0, k⟩]) d = true ∧ (outB l d = true → outN (l ++ [⟨0, 0, k⟩]) d = outN l d) ∧ (outB l d = false → outN (l ++ [⟨0, 0, k⟩]) d = k) := by
  have hl := (bestOf_low l d).1
  have ht : takesB ⟨0, 0, k⟩ d = true := by
    refine decide_eq_true ?_
    show d / 16 = 0 / 16
    omega
  have hr : isR ⟨0, 0, k⟩ = true := by
    simp [isR, bh]
    omega
  have h1 : bestOf (l ++ [⟨0, 0, k⟩]) d = if (bestOf l d).1 < 0 then (0, k) else bestOf l d := by
    rw [bestOf_snoc]
    unfold better
    rw [hr, ht]
    simp only [Bool.true_and, decide_eq_true_eq]
  unfold outN outB
  rw [h1, if_pos hd, if_pos hd]
  by_cases hb : (bestOf l d).1 < 0
  · have : (bestOf l d).1 = -1 := by omega
    rw [if_pos hb, this]
    simp [hd]
  · rw [if_neg hb]
    have : ¬ (bestOf l d).1 = -1 := by omega
    simp [hd, this]

/-! ### Check -/
def sameA (r s : Rt) : Bool := (r.v == s.v) && (r.b == s.b)
/-- What Check tells of the k-th, if none ahead of it is wrong. -/
def wrongAt (xs : List Rt) (k : Nat) (r : Rt) : Int := if isR r then (if (xs.take k).any (fun a => sameA a r) then 5 else 0) else 1
def checkFrom (xs : List Rt) (k : Nat) : Int :=
  if h : k < xs.length then (if wrongAt xs k xs[k] = 0 then checkFrom xs (k + 1) else wrongAt xs k xs[k]) else 0
termination_by xs.length - k
def checkV (xs : List Rt) : Int := if 8 < xs.length then 2 else checkFrom xs 0
theorem checkFrom_at {xs : List Rt} {k : Nat} {r : Rt} (h : xs[k]? = some r) : checkFrom xs k = if wrongAt xs k r = 0 then checkFrom xs (k + 1) else wrongAt xs k r := by
  obtain ⟨hk, e⟩ := List.getElem?_eq_some_iff.1 h
  rw [checkFrom, dif_pos hk, e]
theorem checkFrom_end {xs : List Rt} {k : Nat} (h : xs.length ≤ k) : checkFrom xs k = 0 := by rw [checkFrom, dif_neg (by omega)]

/-! ### in memory -/
theorem cellsT_cons (r : Rt) (l : List Rt) : cellsT (r :: l) = rtcells r ++ cellsT l := rfl
theorem cellsT_append (a b : List Rt) : cellsT (a ++ b) = cellsT a ++ cellsT b := by simp [cellsT]
theorem cellsT_length : ∀ xs : List Rt, (cellsT xs).length = xs.length * 3
  | [] => rfl
  | r :: l => by
    have := cellsT_length l
    rw [cellsT_cons, List.length_append, this]
    simp
    omega
theorem cellsT_one : ∀ xs : List Rt, ∀ u ∈ cellsT xs, u.oneCell' = true
  | [], u, h => by simp [cellsT] at h
  | r :: l, u, h => by
    rw [cellsT_cons, List.mem_append] at h
    rcases h with h | h
    · simp only [rtcells, List.mem_cons, List.not_mem_nil, or_false] at h
      rcases h with rfl | rfl | rfl <;> rfl
    · exact cellsT_one l u h
theorem cellsT_at : ∀ (xs : List Rt) (k : Nat) (r : Rt), xs[k]? = some r →
    (cellsT xs)[k * 3]? = some (.int .i64 r.v) ∧ (cellsT xs)[k * 3 + 1]? = some (.int .i64 r.b) ∧ (cellsT xs)[k * 3 + 2]? = some (.int .i64 r.p)
  | [], k, r, h => by simp at h
  | x :: l, 0, r, h => by
    obtain rfl : x = r := by simpa using h
    exact ⟨rfl, rfl, rfl⟩
  | x :: l, k + 1, r, h => by
    have ih := cellsT_at l k r (by simpa using h)
    have sh : ∀ j, (cellsT (x :: l))[(k + 1) * 3 + j]? = (cellsT l)[k * 3 + j]? := fun j => by
      rw [cellsT_cons, List.getElem?_append_right (by simp; omega)]
      congr 1
      simp
      omega
    have s0 := sh 0
    simp only [Nat.add_zero] at s0
    rw [s0, sh 1, sh 2]
    exact ih

/-- So the routes lie in block b, from cell o on. -/
def TAt (w : World) (b o : Nat) (xs : List Rt) : Prop := ∀ j u, (cellsT xs)[j]? = some u → w.cell? ⟨b, o + j, none⟩ = some u
/-- A slice that holds the routes, below block number base. -/
def Routes (base : Nat) (w : World) (v : Value) (xs : List Rt) : Prop :=
  ∃ A cap, v = .slice A xs.length cap ∧ (A = none → cap = 0) ∧ xs.length ≤ cap ∧ cap ≤ maxLen ∧ (xs ≠ [] → ∃ b o, A = some ⟨b, o, none⟩ ∧ b < base ∧ TAt w b o xs)

theorem TAt.at {w : World} {b o : Nat} {xs : List Rt} (h : TAt w b o xs) {k : Nat} {r : Rt} (hk : xs[k]? = some r) :
    w.cell? ⟨b, o + k * 3, none⟩ = some (.int .i64 r.v) ∧ w.cell? ⟨b, o + k * 3 + 1, none⟩ = some (.int .i64 r.b) ∧ w.cell? ⟨b, o + k * 3 + 2, none⟩ = some (.int .i64 r.p) := by
  obtain ⟨h0, h1, h2⟩ := cellsT_at xs k r hk
  exact ⟨h _ _ h0, h _ _ h1, h _ _ h2⟩
theorem TAt.below {base : Nat} {w w' : World} {b o : Nat} {xs : List Rt} (h : TAt w b o xs) (hb : Below base w w') (hl : b < base) : TAt w' b o xs :=
  fun j u hj => (hb.cell (p := ⟨b, _, none⟩) hl).trans (h j u hj)
theorem TAt.take {w : World} {b o : Nat} {xs : List Rt} (h : TAt w b o xs) (k : Nat) : TAt w b o (xs.take k) := fun j u hj => by
  refine h j u ?_
  have e : cellsT xs = cellsT (xs.take k) ++ cellsT (xs.drop k) := by rw [← cellsT_append, List.take_append_drop]
  rw [e, List.getElem?_append_left (List.getElem?_eq_some_iff.1 hj).1]
  exact hj
theorem Routes.below {base : Nat} {w w' : World} {v : Value} {xs : List Rt} (h : Routes base w v xs) (hb : Below base w w') : Routes base w' v xs := by
  obtain ⟨A, cap, e, h0, h1, h2, h3⟩ := h
  refine ⟨A, cap, e, h0, h1, h2, fun hn => ?_⟩
  obtain ⟨b, o, ea, hl, hr⟩ := h3 hn
  exact ⟨b, o, ea, hl, hr.below hb hl⟩
theorem Routes.mono {base base' : Nat} {w : World} {v : Value} {xs : List Rt} (h : Routes base w v xs) (hb : base ≤ base') : Routes base' w v xs := by
  obtain ⟨A, cap, e, h0, h1, h2, h3⟩ := h
  refine ⟨A, cap, e, h0, h1, h2, fun hn => ?_⟩
  obtain ⟨b, o, ea, hl, hr⟩ := h3 hn
  exact ⟨b, o, ea, by omega, hr⟩
/-- A row of a call's own, read as routes. -/
theorem Routes.own {base : Nat} {w : World} {t : TypeId} {v : Value} {xs : List Rt} (h : w.ownsRow base t 3 v xs.length (cellsT xs)) : Routes w.heap.size w v xs := by
  obtain ⟨hl, hc⟩ := h
  rcases hc with ⟨rfl, h0⟩ | ⟨g, cap, cur, rfl, hb, hg, hn, hcap, hs, ht⟩
  · exact ⟨none, 0, by rw [h0], fun _ => rfl, by omega, by unfold maxLen; omega, fun hn => absurd (List.length_eq_zero_iff.1 h0) hn⟩
  · refine ⟨_, cap, rfl, (fun e => by cases e), hn, hcap, fun _ => ⟨g, 0, rfl, (Array.getElem?_eq_some_iff.1 hg).1, fun j u hj => ?_⟩⟩
    have hown : w.ownsRow base t 3 (.slice (some ⟨g, 0, none⟩) xs.length cap) xs.length (cellsT xs) := ⟨hl, .inr ⟨g, cap, cur, rfl, hb, hg, hn, hcap, hs, ht⟩⟩
    have := hown.cells (g := g) rfl j u hj
    rw [Addr.add_lit] at this
    exact this

theorem chn {W0 W w' : World} (hb : Below W.heap.size W w') (h : Below W0.heap.size W0 W) : Below W0.heap.size W0 w' := h.trans (hb.mono h.size)
theorem Below.al {W0 w : World} (h : Below W0.heap.size W0 w) (o : Obj) : Below W0.heap.size W0 (w.alloc o) := h.alloc h.size o
/-- Three cells lie in a block of their own. -/
def Three (w : World) (n : Nat) (a b c : Value) : Prop :=
  n < w.heap.size ∧ w.cell? ⟨n, 0, none⟩ = some a ∧ w.cell? ⟨n, 1, none⟩ = some b ∧ w.cell? ⟨n, 2, none⟩ = some c
theorem keepThree {B : Nat} {W w' : World} {n : Nat} {a b c : Value} (hb : Below B W w') (hB : n < B) (h : Three W n a b c) : Three w' n a b c := by
  obtain ⟨h0, h1, h2, h3⟩ := h
  exact ⟨Nat.lt_of_lt_of_le h0 hb.size, (hb.cell (p := ⟨n, 0, none⟩) hB).trans h1, (hb.cell (p := ⟨n, 1, none⟩) hB).trans h2, (hb.cell (p := ⟨n, 2, none⟩) hB).trans h3⟩
theorem Three.drew {w : World} {n : Nat} {a b c : Value} (h : Three w n a b c) : Three w.drew n a b c := h
theorem three_new (w : World) (a b c : Value) (t : TypeId) : Three (w.alloc (.cells #[a, b, c] t)) w.heap.size a b c :=
  ⟨by simp, by simp [go_sem], by simp [go_sem], by simp [go_sem]⟩
theorem allocThree {w : World} {n : Nat} {a b c : Value} (h : Three w n a b c) (o : Obj) : Three (w.alloc o) n a b c := keepThree ((Below.refl _ _).alloc (Nat.le_refl _) o) h.1 h
end Go.Proofs.YtlmmeppifkigeaaGreat
