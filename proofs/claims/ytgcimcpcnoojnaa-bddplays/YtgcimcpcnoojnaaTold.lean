/-
  told: what an op should tell.
-/
import Derived.Test.YtgcimcpcnoojnaaTold3
import Derived.Test.YtgcimcpcnoojnaaAt
import Derived.Test.YtgcimcpcnoojnaaRef5
import Derived.Laws.EntriesVeiled
namespace Go.Proofs.Ytgcimcpcnoojnaa
open Go.RowKit Go.Maps

/-- What is known at a number of a list of n functions, which lies in block K: its own number, its table. -/
structure KnAt (w : World) (K n : Nat) (i : Int) (j id tb N : Nat) (s : Nat → Bool) : Prop where
  hj : i % (n : Int) = (j : Int)
  c0 : w.cell? ⟨K, j * 2, none⟩ = some (.int .i64 (id : Int))
  c1 : w.cell? ⟨K, j * 2 + 1, none⟩ = some (.slice (some ⟨tb, 0, none⟩) N N)
  tab : Tab w tb N s
theorem Below.al {W0 w : World} (h : Below W0.heap.size W0 w) (o : Obj) : Below W0.heap.size W0 (w.alloc o) := h.alloc h.size o
theorem Below.chn {W0 W w' : World} (h : Below W0.heap.size W0 W) (hb : Below W.heap.size W w') : Below W0.heap.size W0 w' := h.trans (hb.mono h.size)
theorem Tab.below {w w' : World} {tb N : Nat} {t : Nat → Bool} (h : Tab w tb N t) (hb : Below w.heap.size w w') : Tab w' tb N t := World.rowIs.of_block h (hb.block _ (World.rowIs.lt h))
/-- What told tells: a table, and whose numbers are asked for. -/
def TPost (w : World) (N : Nat) (t : Nat → Bool) (ids : List Int) (e : Ending) (w' : World) : Prop :=
  ∃ tb I, e = .returned (.tuple #[.slice (some ⟨tb, 0, none⟩) N N, .slice (some ⟨I, 0, none⟩) ids.length ids.length, .bool true]) ∧ w.heap.size ≤ tb ∧ w.heap.size ≤ I ∧ I < w'.heap.size ∧ Tab w' tb N t ∧ (∀ j x, ids[j]? = some x → w'.cell? ⟨I, j, none⟩ = some (.int .i64 x)) ∧ Below w.heap.size w w'
/-- The table first, the numbers behind it. -/
theorem TPost.first {w W wn : World} {N tb : Nat} {t : Nat → Bool} {ids : List Int} {cs : Array Value} {ty : TypeId} (hW : Below w.heap.size w W) (hn : Below W.heap.size W wn) (htb : W.heap.size ≤ tb) (hT : Tab wn tb N t) (hc : ∀ (j : Nat) (x : Int), ids[j]? = some x → cs[j]? = some (Value.int .i64 x)) :
    TPost w N t ids (.returned (.tuple #[.slice (some ⟨tb, 0, none⟩) N N, .slice (some ⟨wn.heap.size, 0, none⟩) ids.length ids.length, .bool true])) (wn.alloc (.cells cs ty)) := by
  have h1 := hW.size
  have h2 := hn.size
  refine ⟨tb, wn.heap.size, rfl, by omega, by omega, by simp, Tab.below hT (Below.al (Below.refl _ _) _), fun j x hx => ?_, Below.al (Below.chn hW hn) _⟩
  rw [cell_of_row _ _ _ _ _ _ (Go.heap_alloc_new wn (.cells cs ty))]
  exact hc j x hx
/-- The numbers first, the table behind them. -/
theorem TPost.second {w W wn : World} {N tb : Nat} {t : Nat → Bool} {ids : List Int} {cs : Array Value} {ty : TypeId} (hW : Below w.heap.size w W) (hn : Below (W.alloc (.cells cs ty)).heap.size (W.alloc (.cells cs ty)) wn) (htb : (W.alloc (.cells cs ty)).heap.size ≤ tb) (hT : Tab wn tb N t) (hc : ∀ (j : Nat) (x : Int), ids[j]? = some x → cs[j]? = some (Value.int .i64 x)) :
    TPost w N t ids (.returned (.tuple #[.slice (some ⟨tb, 0, none⟩) N N, .slice (some ⟨W.heap.size, 0, none⟩) ids.length ids.length, .bool true])) wn := by
  have h1 := hW.size
  have h2 := hn.size
  simp at htb h2
  refine ⟨tb, W.heap.size, rfl, by omega, by omega, by omega, hT, fun j x hx => ?_, Below.chn (Below.al hW _) hn⟩
  rw [hn.cell (p := ⟨W.heap.size, j, none⟩) (by simp), cell_of_row _ _ _ _ _ _ (Go.heap_alloc_new W (.cells cs ty))]
  exact hc j x hx

/-- The world in which told's third region begins. -/
abbrev W3 (w : World) (vars n cap K : Nat) (k A B C : Int) : World :=
  (((w.alloc (.cells #[.int .i64 (vars : Int)] 3)).alloc (.cells #[.slice (some ⟨K, 0, none⟩) n cap] 34)).alloc (.cells #[.int .i64 k, .int .i64 A, .int .i64 B, .int .i64 C] 36)).alloc (.cells #[.func (.func 57) #[] #[.pointer (some ⟨w.heap.size, 0, none⟩)]] 93)
/-- What lies there. -/
structure In3 (w W : World) (vars n cap K : Nat) (k A B C : Int) : Prop where
  bel : Below w.heap.size w W
  size : w.heap.size + 4 ≤ W.heap.size
  cv : W.cell? ⟨w.heap.size, 0, none⟩ = some (.int .i64 (vars : Int))
  cl : W.cell? ⟨w.heap.size + 1, 0, none⟩ = some (.slice (some ⟨K, 0, none⟩) n cap)
  ck : W.cell? ⟨w.heap.size + 1 + 1, 0, none⟩ = some (.int .i64 k)
  cA : W.cell? ⟨w.heap.size + 1 + 1, 1, none⟩ = some (.int .i64 A)
  cB : W.cell? ⟨w.heap.size + 1 + 1, 2, none⟩ = some (.int .i64 B)
  cC : W.cell? ⟨w.heap.size + 1 + 1, 3, none⟩ = some (.int .i64 C)
  cf : W.cell? ⟨w.heap.size + 1 + 1 + 1, 0, none⟩ = some (.func (.func 57) #[] #[.pointer (some ⟨w.heap.size, 0, none⟩)])
theorem In3.below {w W W' : World} {vars n cap K : Nat} {k A B C : Int} (h : In3 w W vars n cap K k A B C) (hb : Below W.heap.size W W') : In3 w W' vars n cap K k A B C := by
  have hs := h.size
  exact ⟨Below.chn h.bel hb, Nat.le_trans h.size hb.size, (hb.cell (p := ⟨w.heap.size, 0, none⟩) (by simp; omega)).trans h.cv, (hb.cell (p := ⟨w.heap.size + 1, 0, none⟩) (by simp; omega)).trans h.cl, (hb.cell (p := ⟨w.heap.size + 1 + 1, 0, none⟩) (by simp; omega)).trans h.ck, (hb.cell (p := ⟨w.heap.size + 1 + 1, 1, none⟩) (by simp; omega)).trans h.cA, (hb.cell (p := ⟨w.heap.size + 1 + 1, 2, none⟩) (by simp; omega)).trans h.cB, (hb.cell (p := ⟨w.heap.size + 1 + 1, 3, none⟩) (by simp; omega)).trans h.cC, (hb.cell (p := ⟨w.heap.size + 1 + 1 + 1, 0, none⟩) (by simp; omega)).trans h.cf⟩
theorem in3_start (w : World) (vars n cap K : Nat) (k A B C : Int) : In3 w (W3 w vars n cap K k A B C) vars n cap K k A B C := by
  have D1 := Below.al (Below.refl w.heap.size w) (.cells #[.int .i64 (vars : Int)] 3)
  have D2 := Below.al D1 (.cells #[.slice (some ⟨K, 0, none⟩) n cap] 34)
  have D3 := Below.al D2 (.cells #[.int .i64 k, .int .i64 A, .int .i64 B, .int .i64 C] 36)
  have D4 := Below.al D3 (.cells #[.func (.func 57) #[] #[.pointer (some ⟨w.heap.size, 0, none⟩)]] 93)
  refine ⟨D4, by simp, ?_, ?_, ?_, ?_, ?_, ?_, ?_⟩ <;> simp [go_sem]
theorem In3.drew {w W : World} {vars n cap K : Nat} {k A B C : Int} (h : In3 w W vars n cap K k A B C) : In3 w W.drew vars n cap K k A B C := h.below (Below.refl _ _).drew
/-- The first closure there. -/
theorem In3.at {w W : World} {vars n cap K : Nat} {k A B C : Int} (h : In3 w W vars n cap K k A B C) {i : Int} {j id tb N : Nat} {s : Nat → Bool} (hn : 0 < n) (hn2 : n < 1000) (hK : K < w.heap.size) (kn : KnAt w K n i j id tb N s) :
    Calls Try.prog 56 #[.int .i64 i, .pointer (some ⟨w.heap.size + 1, 0, none⟩)] W fun e w' => e = .returned (.agg #[.int .i64 (id : Int), .slice (some ⟨tb, 0, none⟩) N N]) ∧ Below W.heap.size W w' := by
  have hs := h.size
  exact at_ok (w.heap.size + 1) K n cap i j id tb N W hn hn2 kn.hj (by omega) (by omega) h.cl ((h.bel.cell (p := ⟨K, j * 2, none⟩) hK).trans kn.c0) ((h.bel.cell (p := ⟨K, j * 2 + 1, none⟩) hK).trans kn.c1)
theorem SB.seen {w W0 W : World} {p id tb N : Nat} {s : Nat → Bool} (h : SB W0 W p (.int .i64 (id : Int)) (.slice (some ⟨tb, 0, none⟩) N N)) (hT : Tab w tb N s) (hb : Below w.heap.size w W) : SeenAt W p id tb N s :=
  ⟨(cells_two h.2).1, (cells_two h.2).2.1, Tab.below hT hb⟩

set_option maxHeartbeats 8000000 in
set_option maxRecDepth 100000 in
theorem told_0 {w : World} {vars n cap K : Nat} {i : Nat} {B C : Int} {ja jb jc ia ib ic ta tb tc N : Nat} {sa sb sc : Nat → Bool} (hn : 0 < n) (hn2 : n < 1000) (hK : K < w.heap.size) (kA : KnAt w K n (i : Int) ja ia ta N sa) (kB : KnAt w K n B jb ib tb N sb) (kC : KnAt w K n C jc ic tc N sc) (hv : vars ≤ 8) (hN : 2 ^ vars = N) (hi : i < vars) :
    Calls Try.prog 16 #[.int .i64 (vars : Int), .slice (some ⟨K, 0, none⟩) n cap, .agg #[.int .i64 0, .int .i64 (i : Int), .int .i64 B, .int .i64 C]] w fun e w' => ∃ tb, e = .returned (.tuple #[.slice (some ⟨tb, 0, none⟩) N N, .slice none 0 0, .bool true]) ∧ w.heap.size ≤ tb ∧ Tab w' tb N (fun b => envOf vars b i) ∧ Below w.heap.size w w' := by
  have u1 : decide ((i : Int) < 0) = false := by simp
  have u2 : decide ((vars : Int) ≤ (i : Int)) = false := by simp; omega
  have hN9 : N ≤ 256 := by
    have : 2 ^ vars ≤ 2 ^ 8 := Nat.pow_le_pow_right (by omega) hv
    omega
  have I0 := in3_start w vars n cap K 0 (i : Int) B C
  have I1 := I0.drew
  have AT1 : Hid (∀ W, Below (W3 w vars n cap K 0 (i : Int) B C).drew.heap.size (W3 w vars n cap K 0 (i : Int) B C).drew W → Calls Try.prog 56 #[.int .i64 (i : Int), .pointer (some ⟨w.heap.size + 1, 0, none⟩)] W fun e w' => e = .returned (.agg #[.int .i64 (ia : Int), .slice (some ⟨ta, 0, none⟩) N N]) ∧ Below W.heap.size W w') := fun W hW => (I1.below hW).at hn hn2 hK kA
  have AT2 : Hid (∀ W, Below (W3 w vars n cap K 0 (i : Int) B C).drew.heap.size (W3 w vars n cap K 0 (i : Int) B C).drew W → Calls Try.prog 56 #[.int .i64 B, .pointer (some ⟨w.heap.size + 1, 0, none⟩)] W fun e w' => e = .returned (.agg #[.int .i64 (ib : Int), .slice (some ⟨tb, 0, none⟩) N N]) ∧ Below W.heap.size W w') := fun W hW => (I1.below hW).at hn hn2 hK kB
  have AT3 : Hid (∀ W, Below (W3 w vars n cap K 0 (i : Int) B C).drew.heap.size (W3 w vars n cap K 0 (i : Int) B C).drew W → Calls Try.prog 56 #[.int .i64 C, .pointer (some ⟨w.heap.size + 1, 0, none⟩)] W fun e w' => e = .returned (.agg #[.int .i64 (ic : Int), .slice (some ⟨tc, 0, none⟩) N N]) ∧ Below W.heap.size W w') := fun W hW => (I1.below hW).at hn hn2 hK kC
  have HI : Hid (∀ W, Below (W3 w vars n cap K 0 (i : Int) B C).drew.heap.size (W3 w vars n cap K 0 (i : Int) B C).drew W → In3 w W vars n cap K 0 (i : Int) B C) := fun W hW => I1.below hW
  have HS : Hid (∀ W, Below (W3 w vars n cap K 0 (i : Int) B C).drew.heap.size (W3 w vars n cap K 0 (i : Int) B C).drew W → (fun w' : World => w'.cell? ⟨w.heap.size + 1 + 1, 1, none⟩ = some (.int .i64 (i : Int)) ∧ w'.cell? ⟨w.heap.size + 1 + 1, 2, none⟩ = some (.int .i64 B) ∧ w'.cell? ⟨w.heap.size + 1 + 1, 3, none⟩ = some (.int .i64 C)) W) := fun W hW => ⟨(I1.below hW).cA, (I1.below hW).cB, (I1.below hW).cC⟩
  have KA : Hid (Tab w ta N sa ∧ Tab w tb N sb ∧ Tab w tc N sc) := ⟨kA.tab, kB.tab, kC.tab⟩
  clear kA kB kC I0 I1
  go_enter Try.func16, Try.ntmps16
  go_wp2_with fail
  refine wp_region_held_drew (S := (fun w' : World => w'.cell? ⟨w.heap.size + 1 + 1, 1, none⟩ = some (.int .i64 (i : Int)) ∧ w'.cell? ⟨w.heap.size + 1 + 1, 2, none⟩ = some (.int .i64 B) ∧ w'.cell? ⟨w.heap.size + 1 + 1, 3, none⟩ = some (.int .i64 C))) (by kernel_rfl) (HS.out _ (Below.refl _ _)) (fun hHeld => ?_)
  refine' wpAnyH_take (i := 0) (v := _) rfl (by kernel_rfl) (by kernel_rfl) (by kernel_rfl) (fun _ _ _ h => h) (Or.inl ⟨by rfl, ?gy0⟩) (by assumption) ?gr0
  case gy0 => (intro w hSw; (try dsimp only at hSw); go_simp; (try with_reducible rfl))
  try simp only [List.getElem_toArray, List.getElem_cons_zero, Act.put, List.setIfInBounds_toArray, List.set_cons_zero, List.set_cons_succ]
  refine' wpAnyH_take (i := 1) (v := _) rfl (by kernel_rfl) (by kernel_rfl) (by kernel_rfl) (fun _ _ _ h => h) (Or.inl ⟨by rfl, ?gy1⟩) (by assumption) ?gr1
  case gy1 => (intro w hSw; (try dsimp only at hSw); go_simp; (try with_reducible rfl))
  try simp only [List.getElem_toArray, List.getElem_cons_zero, List.getElem_cons_succ, Act.put, List.setIfInBounds_toArray, List.set_cons_zero, List.set_cons_succ]
  refine' wpAnyH_take (i := 2) (v := _) rfl (by kernel_rfl) (by kernel_rfl) (by kernel_rfl) (fun _ _ _ h => h) (Or.inl ⟨by rfl, ?gy2⟩) (by assumption) ?gr2
  case gy2 => (intro w hSw; (try dsimp only at hSw); go_simp; (try with_reducible rfl))
  try simp only [List.getElem_toArray, List.getElem_cons_zero, List.getElem_cons_succ, Act.put, List.setIfInBounds_toArray, List.set_cons_zero, List.set_cons_succ]
  refine' wpAnyH_take (i := 4) (v := _) rfl (by kernel_rfl) (by kernel_rfl) (by kernel_rfl) (fun _ _ _ h => h) (Or.inl ⟨by rfl, ?gy3⟩) (by assumption) ?gr3
  case gy3 => (intro w hSw; (try dsimp only at hSw); go_simp; (try with_reducible rfl))
  try simp only [List.getElem_toArray, List.getElem_cons_zero, List.getElem_cons_succ, Act.put, List.setIfInBounds_toArray, List.set_cons_zero, List.set_cons_succ]
  refine' wpAnyH_take (i := 5) (v := _) rfl (by kernel_rfl) (by kernel_rfl) (by kernel_rfl) (fun _ _ _ h => h) (Or.inl ⟨by rfl, ?gy4⟩) (by assumption) ?gr4
  case gy4 => (intro w hSw; (try dsimp only at hSw); go_simp; (try with_reducible rfl))
  try simp only [List.getElem_toArray, List.getElem_cons_zero, List.getElem_cons_succ, Act.put, List.setIfInBounds_toArray, List.set_cons_zero, List.set_cons_succ]
  refine' wpAnyH_take (i := 6) (v := _) rfl (by kernel_rfl) (by kernel_rfl) (by kernel_rfl) (fun _ _ _ h => h) (Or.inl ⟨by rfl, ?gy5⟩) (by assumption) ?gr5
  case gy5 => (intro w hSw; (try dsimp only at hSw); go_simp; (try with_reducible rfl))
  try simp only [List.getElem_toArray, List.getElem_cons_zero, List.getElem_cons_succ, Act.put, List.setIfInBounds_toArray, List.set_cons_zero, List.set_cons_succ]
  refine' wpAnyH_take (i := 8) (v := _) rfl (by kernel_rfl) (by kernel_rfl) (by kernel_rfl) (fun _ _ _ h => h) (Or.inl ⟨by rfl, ?gy6⟩) (by assumption) ?gr6
  case gy6 => (intro w hSw; (try dsimp only at hSw); go_simp; (try with_reducible rfl))
  try simp only [List.getElem_toArray, List.getElem_cons_zero, List.getElem_cons_succ, Act.put, List.setIfInBounds_toArray, List.set_cons_zero, List.set_cons_succ]
  refine' wpAnyH_take (i := 9) (v := _) rfl (by kernel_rfl) (by kernel_rfl) (by kernel_rfl) (fun _ _ _ h => h) (Or.inl ⟨by rfl, ?gy7⟩) (by assumption) ?gr7
  case gy7 => (intro w hSw; (try dsimp only at hSw); go_simp; (try with_reducible rfl))
  try simp only [List.getElem_toArray, List.getElem_cons_zero, List.getElem_cons_succ, Act.put, List.setIfInBounds_toArray, List.set_cons_zero, List.set_cons_succ]
  refine' wpAnyH_take (i := 10) (v := _) rfl (by kernel_rfl) (by kernel_rfl) (by kernel_rfl) (fun _ _ _ h => h) (Or.inl ⟨by rfl, ?gy8⟩) (by assumption) ?gr8
  case gy8 => (intro w hSw; (try dsimp only at hSw); go_simp; (try with_reducible rfl))
  try simp only [List.getElem_toArray, List.getElem_cons_zero, List.getElem_cons_succ, Act.put, List.setIfInBounds_toArray, List.set_cons_zero, List.set_cons_succ]
  refine t3_0_0 (W0 := (W3 w vars n cap K 0 (i : Int) B C).drew) (W := (W3 w vars n cap K 0 (i : Int) B C).drew) AT1 AT2 AT3 HS (fun W p11 p12 p13 hB z11 z12 z13 n1112 n1113 n1213 => ?_) (Below.refl _ _) (by kernel_rfl) (by rfl)
  clear hHeld AT1 AT2 AT3 HS n1112 n1113 n1213
  have I4 := HI.out W hB
  have SA : Hid (SeenAt W p11 ia ta N sa) := SB.seen z11 KA.out.1 I4.bel
  have SB' : Hid (SeenAt W p12 ib tb N sb) := SB.seen z12 KA.out.2.1 I4.bel
  have SC : Hid (SeenAt W p13 ic tc N sc) := SB.seen z13 KA.out.2.2 I4.bel
  have q1 := I4.cv
  have q2 := I4.ck
  have q3 := I4.cA
  have q4 := I4.cB
  have q5 := I4.cC
  have a0 := SA.out.c0
  have b0 := SB'.out.c0
  have g0 := SC.out.c0
  have D4 := I4.bel
  clear z11 z12 z13 KA HI hB
  have IW := I4
  have MD : Hid (∀ W', Below W.heap.size W W' → Calls Try.prog 11 #[.int .i64 (vars : Int), .func (.func 58) #[] #[.pointer (some ⟨w.heap.size + 1 + 1 + 1, 0, none⟩), .pointer (some ⟨w.heap.size + 1 + 1, 0, none⟩)]] W' fun e w' => ∃ tb, e = .returned (.slice (some ⟨tb, 0, none⟩) N N) ∧ W'.heap.size ≤ tb ∧ Tab w' tb N (fun b => envOf vars b i) ∧ Below W'.heap.size W' w') := fun W' hW => made_19 hv hN ⟨fun wr b hb hbn => (clo19 ((IW.below hW).below hb).cv ((IW.below hW).below hb).cf ((IW.below hW).below hb).cA (by omega) hi (by omega)).mono (fun _ _ ⟨h1, h2⟩ => ⟨h1, h2 ▸ Below.refl _ _⟩)⟩
  clear SA SB' SC I4 IW
  dsimp only [tmT]
  go_wp2_with fail
  refine (MD.out _ (Below.refl _ _)).mono ?_
  rintro e wn ⟨tbn, rfl, hn1, hn2', hn3⟩
  clear MD
  go_wp2_with fail
  go_ret3
  exact ⟨tbn, rfl, Nat.le_trans D4.size hn1, hn2', Below.chn D4 hn3⟩
set_option maxHeartbeats 8000000 in
set_option maxRecDepth 100000 in
theorem told_1 {w : World} {vars n cap K : Nat} {A B C : Int} {ja jb jc ia ib ic ta tb tc N : Nat} {sa sb sc : Nat → Bool} (hn : 0 < n) (hn2 : n < 1000) (hK : K < w.heap.size) (kA : KnAt w K n A ja ia ta N sa) (kB : KnAt w K n B jb ib tb N sb) (kC : KnAt w K n C jc ic tc N sc) (hv : vars ≤ 8) (hN : 2 ^ vars = N) :
    Calls Try.prog 16 #[.int .i64 (vars : Int), .slice (some ⟨K, 0, none⟩) n cap, .agg #[.int .i64 1, .int .i64 A, .int .i64 B, .int .i64 C]] w (TPost w N (fun b => !sa b) [(ia : Int)]) := by
  have I0 := in3_start w vars n cap K 1 A B C
  have I1 := I0.drew
  have AT1 : Hid (∀ W, Below (W3 w vars n cap K 1 A B C).drew.heap.size (W3 w vars n cap K 1 A B C).drew W → Calls Try.prog 56 #[.int .i64 A, .pointer (some ⟨w.heap.size + 1, 0, none⟩)] W fun e w' => e = .returned (.agg #[.int .i64 (ia : Int), .slice (some ⟨ta, 0, none⟩) N N]) ∧ Below W.heap.size W w') := fun W hW => (I1.below hW).at hn hn2 hK kA
  have AT2 : Hid (∀ W, Below (W3 w vars n cap K 1 A B C).drew.heap.size (W3 w vars n cap K 1 A B C).drew W → Calls Try.prog 56 #[.int .i64 B, .pointer (some ⟨w.heap.size + 1, 0, none⟩)] W fun e w' => e = .returned (.agg #[.int .i64 (ib : Int), .slice (some ⟨tb, 0, none⟩) N N]) ∧ Below W.heap.size W w') := fun W hW => (I1.below hW).at hn hn2 hK kB
  have AT3 : Hid (∀ W, Below (W3 w vars n cap K 1 A B C).drew.heap.size (W3 w vars n cap K 1 A B C).drew W → Calls Try.prog 56 #[.int .i64 C, .pointer (some ⟨w.heap.size + 1, 0, none⟩)] W fun e w' => e = .returned (.agg #[.int .i64 (ic : Int), .slice (some ⟨tc, 0, none⟩) N N]) ∧ Below W.heap.size W w') := fun W hW => (I1.below hW).at hn hn2 hK kC
  have HI : Hid (∀ W, Below (W3 w vars n cap K 1 A B C).drew.heap.size (W3 w vars n cap K 1 A B C).drew W → In3 w W vars n cap K 1 A B C) := fun W hW => I1.below hW
  have HS : Hid (∀ W, Below (W3 w vars n cap K 1 A B C).drew.heap.size (W3 w vars n cap K 1 A B C).drew W → (fun w' : World => w'.cell? ⟨w.heap.size + 1 + 1, 1, none⟩ = some (.int .i64 A) ∧ w'.cell? ⟨w.heap.size + 1 + 1, 2, none⟩ = some (.int .i64 B) ∧ w'.cell? ⟨w.heap.size + 1 + 1, 3, none⟩ = some (.int .i64 C)) W) := fun W hW => ⟨(I1.below hW).cA, (I1.below hW).cB, (I1.below hW).cC⟩
  have KA : Hid (Tab w ta N sa ∧ Tab w tb N sb ∧ Tab w tc N sc) := ⟨kA.tab, kB.tab, kC.tab⟩
  clear kA kB kC I0 I1
  go_enter Try.func16, Try.ntmps16
  go_wp2_with fail
  refine wp_region_held_drew (S := (fun w' : World => w'.cell? ⟨w.heap.size + 1 + 1, 1, none⟩ = some (.int .i64 A) ∧ w'.cell? ⟨w.heap.size + 1 + 1, 2, none⟩ = some (.int .i64 B) ∧ w'.cell? ⟨w.heap.size + 1 + 1, 3, none⟩ = some (.int .i64 C))) (by kernel_rfl) (HS.out _ (Below.refl _ _)) (fun hHeld => ?_)
  refine' wpAnyH_take (i := 0) (v := _) rfl (by kernel_rfl) (by kernel_rfl) (by kernel_rfl) (fun _ _ _ h => h) (Or.inl ⟨by rfl, ?gy0⟩) (by assumption) ?gr0
  case gy0 => (intro w hSw; (try dsimp only at hSw); go_simp; (try with_reducible rfl))
  try simp only [List.getElem_toArray, List.getElem_cons_zero, Act.put, List.setIfInBounds_toArray, List.set_cons_zero, List.set_cons_succ]
  refine' wpAnyH_take (i := 1) (v := _) rfl (by kernel_rfl) (by kernel_rfl) (by kernel_rfl) (fun _ _ _ h => h) (Or.inl ⟨by rfl, ?gy1⟩) (by assumption) ?gr1
  case gy1 => (intro w hSw; (try dsimp only at hSw); go_simp; (try with_reducible rfl))
  try simp only [List.getElem_toArray, List.getElem_cons_zero, List.getElem_cons_succ, Act.put, List.setIfInBounds_toArray, List.set_cons_zero, List.set_cons_succ]
  refine' wpAnyH_take (i := 2) (v := _) rfl (by kernel_rfl) (by kernel_rfl) (by kernel_rfl) (fun _ _ _ h => h) (Or.inl ⟨by rfl, ?gy2⟩) (by assumption) ?gr2
  case gy2 => (intro w hSw; (try dsimp only at hSw); go_simp; (try with_reducible rfl))
  try simp only [List.getElem_toArray, List.getElem_cons_zero, List.getElem_cons_succ, Act.put, List.setIfInBounds_toArray, List.set_cons_zero, List.set_cons_succ]
  refine' wpAnyH_take (i := 4) (v := _) rfl (by kernel_rfl) (by kernel_rfl) (by kernel_rfl) (fun _ _ _ h => h) (Or.inl ⟨by rfl, ?gy3⟩) (by assumption) ?gr3
  case gy3 => (intro w hSw; (try dsimp only at hSw); go_simp; (try with_reducible rfl))
  try simp only [List.getElem_toArray, List.getElem_cons_zero, List.getElem_cons_succ, Act.put, List.setIfInBounds_toArray, List.set_cons_zero, List.set_cons_succ]
  refine' wpAnyH_take (i := 5) (v := _) rfl (by kernel_rfl) (by kernel_rfl) (by kernel_rfl) (fun _ _ _ h => h) (Or.inl ⟨by rfl, ?gy4⟩) (by assumption) ?gr4
  case gy4 => (intro w hSw; (try dsimp only at hSw); go_simp; (try with_reducible rfl))
  try simp only [List.getElem_toArray, List.getElem_cons_zero, List.getElem_cons_succ, Act.put, List.setIfInBounds_toArray, List.set_cons_zero, List.set_cons_succ]
  refine' wpAnyH_take (i := 6) (v := _) rfl (by kernel_rfl) (by kernel_rfl) (by kernel_rfl) (fun _ _ _ h => h) (Or.inl ⟨by rfl, ?gy5⟩) (by assumption) ?gr5
  case gy5 => (intro w hSw; (try dsimp only at hSw); go_simp; (try with_reducible rfl))
  try simp only [List.getElem_toArray, List.getElem_cons_zero, List.getElem_cons_succ, Act.put, List.setIfInBounds_toArray, List.set_cons_zero, List.set_cons_succ]
  refine' wpAnyH_take (i := 8) (v := _) rfl (by kernel_rfl) (by kernel_rfl) (by kernel_rfl) (fun _ _ _ h => h) (Or.inl ⟨by rfl, ?gy6⟩) (by assumption) ?gr6
  case gy6 => (intro w hSw; (try dsimp only at hSw); go_simp; (try with_reducible rfl))
  try simp only [List.getElem_toArray, List.getElem_cons_zero, List.getElem_cons_succ, Act.put, List.setIfInBounds_toArray, List.set_cons_zero, List.set_cons_succ]
  refine' wpAnyH_take (i := 9) (v := _) rfl (by kernel_rfl) (by kernel_rfl) (by kernel_rfl) (fun _ _ _ h => h) (Or.inl ⟨by rfl, ?gy7⟩) (by assumption) ?gr7
  case gy7 => (intro w hSw; (try dsimp only at hSw); go_simp; (try with_reducible rfl))
  try simp only [List.getElem_toArray, List.getElem_cons_zero, List.getElem_cons_succ, Act.put, List.setIfInBounds_toArray, List.set_cons_zero, List.set_cons_succ]
  refine' wpAnyH_take (i := 10) (v := _) rfl (by kernel_rfl) (by kernel_rfl) (by kernel_rfl) (fun _ _ _ h => h) (Or.inl ⟨by rfl, ?gy8⟩) (by assumption) ?gr8
  case gy8 => (intro w hSw; (try dsimp only at hSw); go_simp; (try with_reducible rfl))
  try simp only [List.getElem_toArray, List.getElem_cons_zero, List.getElem_cons_succ, Act.put, List.setIfInBounds_toArray, List.set_cons_zero, List.set_cons_succ]
  refine t3_0_0 (W0 := (W3 w vars n cap K 1 A B C).drew) (W := (W3 w vars n cap K 1 A B C).drew) AT1 AT2 AT3 HS (fun W p11 p12 p13 hB z11 z12 z13 n1112 n1113 n1213 => ?_) (Below.refl _ _) (by kernel_rfl) (by rfl)
  clear hHeld AT1 AT2 AT3 HS n1112 n1113 n1213
  have I4 := HI.out W hB
  have SA : Hid (SeenAt W p11 ia ta N sa) := SB.seen z11 KA.out.1 I4.bel
  have SB' : Hid (SeenAt W p12 ib tb N sb) := SB.seen z12 KA.out.2.1 I4.bel
  have SC : Hid (SeenAt W p13 ic tc N sc) := SB.seen z13 KA.out.2.2 I4.bel
  have q1 := I4.cv
  have q2 := I4.ck
  have q3 := I4.cA
  have q4 := I4.cB
  have q5 := I4.cC
  have a0 := SA.out.c0
  have b0 := SB'.out.c0
  have g0 := SC.out.c0
  have D4 := I4.bel
  clear z11 z12 z13 KA HI hB
  have IW := I4
  have MD : Hid (∀ W', Below W.heap.size W W' → Calls Try.prog 11 #[.int .i64 (vars : Int), .func (.func 59) #[] #[.pointer (some ⟨p11, 0, none⟩)]] W' fun e w' => ∃ tb, e = .returned (.slice (some ⟨tb, 0, none⟩) N N) ∧ W'.heap.size ≤ tb ∧ Tab w' tb N (fun b => !sa b) ∧ Below W'.heap.size W' w') := fun W' hW => made_20 hv hN ⟨fun wr b hb hbn => (clo20 ((SA.out.below hW).below hb) hbn).mono (fun _ _ ⟨h1, h2⟩ => ⟨h1, h2 ▸ Below.refl _ _⟩)⟩
  have KP : Hid (∀ W', Below W.heap.size W W' → (fun w' : World => w'.cell? ⟨w.heap.size, 0, none⟩ = some (.int .i64 (vars : Int)) ∧ w'.cell? ⟨p11, 0, none⟩ = some (.int .i64 (ia : Int))) W') := fun W' hW => ⟨(IW.below hW).cv, (SA.out.below hW).c0⟩
  have B0 : Below W.heap.size W W.drew := (Below.refl _ _).drew
  have B1 : Below W.heap.size W (W.drew.alloc (.cells #[.int .i64 (ia : Int)] 3)) := Below.al B0 _
  have D5 : Below w.heap.size w W.drew := D4.drew
  clear SA SB' SC I4 IW
  dsimp only [tmT]
  go_wp2_with fail
  go_region_held3 (fun w' : World => w'.cell? ⟨w.heap.size, 0, none⟩ = some (.int .i64 (vars : Int)) ∧ w'.cell? ⟨p11, 0, none⟩ = some (.int .i64 (ia : Int))) (exact KP.out _ (by first | assumption | exact Below.al (by assumption) _))
    (first | (go_at_call 11; refine (MD.out _ (by assumption)).mono ?_; rintro e wn ⟨tbn, rfl, hn1, hn2', hn3⟩; have Bn : Below W.heap.size W wn := Below.chn (by assumption) hn3))
  all_goals
    go_wp2_with fail
    go_ret3
    first
      | exact TPost.first (W := W.drew) (ids := [(ia : Int)]) D5 hn3 hn1 hn2' (fun j x hx => by match j, hx with | 0, hx => cases hx; rfl | j + 1, hx => simp at hx)
      | exact TPost.second (W := W.drew) (ids := [(ia : Int)]) D5 hn3 hn1 hn2' (fun j x hx => by match j, hx with | 0, hx => cases hx; rfl | j + 1, hx => simp at hx)
set_option maxHeartbeats 8000000 in
set_option maxRecDepth 100000 in
theorem told_2 {w : World} {vars n cap K : Nat} {A B C : Int} {ja jb jc ia ib ic ta tb tc N : Nat} {sa sb sc : Nat → Bool} (hn : 0 < n) (hn2 : n < 1000) (hK : K < w.heap.size) (kA : KnAt w K n A ja ia ta N sa) (kB : KnAt w K n B jb ib tb N sb) (kC : KnAt w K n C jc ic tc N sc) (hv : vars ≤ 8) (hN : 2 ^ vars = N) :
    Calls Try.prog 16 #[.int .i64 (vars : Int), .slice (some ⟨K, 0, none⟩) n cap, .agg #[.int .i64 2, .int .i64 A, .int .i64 B, .int .i64 C]] w (TPost w N (fun b => sa b && sb b) [(ia : Int), (ib : Int)]) := by
  have I0 := in3_start w vars n cap K 2 A B C
  have I1 := I0.drew
  have AT1 : Hid (∀ W, Below (W3 w vars n cap K 2 A B C).drew.heap.size (W3 w vars n cap K 2 A B C).drew W → Calls Try.prog 56 #[.int .i64 A, .pointer (some ⟨w.heap.size + 1, 0, none⟩)] W fun e w' => e = .returned (.agg #[.int .i64 (ia : Int), .slice (some ⟨ta, 0, none⟩) N N]) ∧ Below W.heap.size W w') := fun W hW => (I1.below hW).at hn hn2 hK kA
  have AT2 : Hid (∀ W, Below (W3 w vars n cap K 2 A B C).drew.heap.size (W3 w vars n cap K 2 A B C).drew W → Calls Try.prog 56 #[.int .i64 B, .pointer (some ⟨w.heap.size + 1, 0, none⟩)] W fun e w' => e = .returned (.agg #[.int .i64 (ib : Int), .slice (some ⟨tb, 0, none⟩) N N]) ∧ Below W.heap.size W w') := fun W hW => (I1.below hW).at hn hn2 hK kB
  have AT3 : Hid (∀ W, Below (W3 w vars n cap K 2 A B C).drew.heap.size (W3 w vars n cap K 2 A B C).drew W → Calls Try.prog 56 #[.int .i64 C, .pointer (some ⟨w.heap.size + 1, 0, none⟩)] W fun e w' => e = .returned (.agg #[.int .i64 (ic : Int), .slice (some ⟨tc, 0, none⟩) N N]) ∧ Below W.heap.size W w') := fun W hW => (I1.below hW).at hn hn2 hK kC
  have HI : Hid (∀ W, Below (W3 w vars n cap K 2 A B C).drew.heap.size (W3 w vars n cap K 2 A B C).drew W → In3 w W vars n cap K 2 A B C) := fun W hW => I1.below hW
  have HS : Hid (∀ W, Below (W3 w vars n cap K 2 A B C).drew.heap.size (W3 w vars n cap K 2 A B C).drew W → (fun w' : World => w'.cell? ⟨w.heap.size + 1 + 1, 1, none⟩ = some (.int .i64 A) ∧ w'.cell? ⟨w.heap.size + 1 + 1, 2, none⟩ = some (.int .i64 B) ∧ w'.cell? ⟨w.heap.size + 1 + 1, 3, none⟩ = some (.int .i64 C)) W) := fun W hW => ⟨(I1.below hW).cA, (I1.below hW).cB, (I1.below hW).cC⟩
  have KA : Hid (Tab w ta N sa ∧ Tab w tb N sb ∧ Tab w tc N sc) := ⟨kA.tab, kB.tab, kC.tab⟩
  clear kA kB kC I0 I1
  go_enter Try.func16, Try.ntmps16
  go_wp2_with fail
  refine wp_region_held_drew (S := (fun w' : World => w'.cell? ⟨w.heap.size + 1 + 1, 1, none⟩ = some (.int .i64 A) ∧ w'.cell? ⟨w.heap.size + 1 + 1, 2, none⟩ = some (.int .i64 B) ∧ w'.cell? ⟨w.heap.size + 1 + 1, 3, none⟩ = some (.int .i64 C))) (by kernel_rfl) (HS.out _ (Below.refl _ _)) (fun hHeld => ?_)
  refine' wpAnyH_take (i := 0) (v := _) rfl (by kernel_rfl) (by kernel_rfl) (by kernel_rfl) (fun _ _ _ h => h) (Or.inl ⟨by rfl, ?gy0⟩) (by assumption) ?gr0
  case gy0 => (intro w hSw; (try dsimp only at hSw); go_simp; (try with_reducible rfl))
  try simp only [List.getElem_toArray, List.getElem_cons_zero, Act.put, List.setIfInBounds_toArray, List.set_cons_zero, List.set_cons_succ]
  refine' wpAnyH_take (i := 1) (v := _) rfl (by kernel_rfl) (by kernel_rfl) (by kernel_rfl) (fun _ _ _ h => h) (Or.inl ⟨by rfl, ?gy1⟩) (by assumption) ?gr1
  case gy1 => (intro w hSw; (try dsimp only at hSw); go_simp; (try with_reducible rfl))
  try simp only [List.getElem_toArray, List.getElem_cons_zero, List.getElem_cons_succ, Act.put, List.setIfInBounds_toArray, List.set_cons_zero, List.set_cons_succ]
  refine' wpAnyH_take (i := 2) (v := _) rfl (by kernel_rfl) (by kernel_rfl) (by kernel_rfl) (fun _ _ _ h => h) (Or.inl ⟨by rfl, ?gy2⟩) (by assumption) ?gr2
  case gy2 => (intro w hSw; (try dsimp only at hSw); go_simp; (try with_reducible rfl))
  try simp only [List.getElem_toArray, List.getElem_cons_zero, List.getElem_cons_succ, Act.put, List.setIfInBounds_toArray, List.set_cons_zero, List.set_cons_succ]
  refine' wpAnyH_take (i := 4) (v := _) rfl (by kernel_rfl) (by kernel_rfl) (by kernel_rfl) (fun _ _ _ h => h) (Or.inl ⟨by rfl, ?gy3⟩) (by assumption) ?gr3
  case gy3 => (intro w hSw; (try dsimp only at hSw); go_simp; (try with_reducible rfl))
  try simp only [List.getElem_toArray, List.getElem_cons_zero, List.getElem_cons_succ, Act.put, List.setIfInBounds_toArray, List.set_cons_zero, List.set_cons_succ]
  refine' wpAnyH_take (i := 5) (v := _) rfl (by kernel_rfl) (by kernel_rfl) (by kernel_rfl) (fun _ _ _ h => h) (Or.inl ⟨by rfl, ?gy4⟩) (by assumption) ?gr4
  case gy4 => (intro w hSw; (try dsimp only at hSw); go_simp; (try with_reducible rfl))
  try simp only [List.getElem_toArray, List.getElem_cons_zero, List.getElem_cons_succ, Act.put, List.setIfInBounds_toArray, List.set_cons_zero, List.set_cons_succ]
  refine' wpAnyH_take (i := 6) (v := _) rfl (by kernel_rfl) (by kernel_rfl) (by kernel_rfl) (fun _ _ _ h => h) (Or.inl ⟨by rfl, ?gy5⟩) (by assumption) ?gr5
  case gy5 => (intro w hSw; (try dsimp only at hSw); go_simp; (try with_reducible rfl))
  try simp only [List.getElem_toArray, List.getElem_cons_zero, List.getElem_cons_succ, Act.put, List.setIfInBounds_toArray, List.set_cons_zero, List.set_cons_succ]
  refine' wpAnyH_take (i := 8) (v := _) rfl (by kernel_rfl) (by kernel_rfl) (by kernel_rfl) (fun _ _ _ h => h) (Or.inl ⟨by rfl, ?gy6⟩) (by assumption) ?gr6
  case gy6 => (intro w hSw; (try dsimp only at hSw); go_simp; (try with_reducible rfl))
  try simp only [List.getElem_toArray, List.getElem_cons_zero, List.getElem_cons_succ, Act.put, List.setIfInBounds_toArray, List.set_cons_zero, List.set_cons_succ]
  refine' wpAnyH_take (i := 9) (v := _) rfl (by kernel_rfl) (by kernel_rfl) (by kernel_rfl) (fun _ _ _ h => h) (Or.inl ⟨by rfl, ?gy7⟩) (by assumption) ?gr7
  case gy7 => (intro w hSw; (try dsimp only at hSw); go_simp; (try with_reducible rfl))
  try simp only [List.getElem_toArray, List.getElem_cons_zero, List.getElem_cons_succ, Act.put, List.setIfInBounds_toArray, List.set_cons_zero, List.set_cons_succ]
  refine' wpAnyH_take (i := 10) (v := _) rfl (by kernel_rfl) (by kernel_rfl) (by kernel_rfl) (fun _ _ _ h => h) (Or.inl ⟨by rfl, ?gy8⟩) (by assumption) ?gr8
  case gy8 => (intro w hSw; (try dsimp only at hSw); go_simp; (try with_reducible rfl))
  try simp only [List.getElem_toArray, List.getElem_cons_zero, List.getElem_cons_succ, Act.put, List.setIfInBounds_toArray, List.set_cons_zero, List.set_cons_succ]
  refine t3_0_0 (W0 := (W3 w vars n cap K 2 A B C).drew) (W := (W3 w vars n cap K 2 A B C).drew) AT1 AT2 AT3 HS (fun W p11 p12 p13 hB z11 z12 z13 n1112 n1113 n1213 => ?_) (Below.refl _ _) (by kernel_rfl) (by rfl)
  clear hHeld AT1 AT2 AT3 HS n1112 n1113 n1213
  have I4 := HI.out W hB
  have SA : Hid (SeenAt W p11 ia ta N sa) := SB.seen z11 KA.out.1 I4.bel
  have SB' : Hid (SeenAt W p12 ib tb N sb) := SB.seen z12 KA.out.2.1 I4.bel
  have SC : Hid (SeenAt W p13 ic tc N sc) := SB.seen z13 KA.out.2.2 I4.bel
  have q1 := I4.cv
  have q2 := I4.ck
  have q3 := I4.cA
  have q4 := I4.cB
  have q5 := I4.cC
  have a0 := SA.out.c0
  have b0 := SB'.out.c0
  have g0 := SC.out.c0
  have D4 := I4.bel
  clear z11 z12 z13 KA HI hB
  have IW := I4
  have MD : Hid (∀ W', Below W.heap.size W W' → Calls Try.prog 11 #[.int .i64 (vars : Int), .func (.func 60) #[] #[.pointer (some ⟨p11, 0, none⟩), .pointer (some ⟨p12, 0, none⟩)]] W' fun e w' => ∃ tb, e = .returned (.slice (some ⟨tb, 0, none⟩) N N) ∧ W'.heap.size ≤ tb ∧ Tab w' tb N (fun b => sa b && sb b) ∧ Below W'.heap.size W' w') := fun W' hW => made_21 hv hN ⟨fun wr b hb hbn => (clo21 ((SA.out.below hW).below hb) ((SB'.out.below hW).below hb) hbn).mono (fun _ _ ⟨h1, h2⟩ => ⟨h1, h2 ▸ Below.refl _ _⟩)⟩
  have KP : Hid (∀ W', Below W.heap.size W W' → (fun w' : World => w'.cell? ⟨w.heap.size, 0, none⟩ = some (.int .i64 (vars : Int)) ∧ w'.cell? ⟨p11, 0, none⟩ = some (.int .i64 (ia : Int)) ∧ w'.cell? ⟨p12, 0, none⟩ = some (.int .i64 (ib : Int))) W') := fun W' hW => ⟨(IW.below hW).cv, (SA.out.below hW).c0, (SB'.out.below hW).c0⟩
  have B0 : Below W.heap.size W W.drew := (Below.refl _ _).drew
  have B1 : Below W.heap.size W (W.drew.alloc (.cells #[.int .i64 (ia : Int), .int .i64 (ib : Int)] 3)) := Below.al B0 _
  have D5 : Below w.heap.size w W.drew := D4.drew
  clear SA SB' SC I4 IW
  dsimp only [tmT]
  go_wp2_with fail
  go_region_held3 (fun w' : World => w'.cell? ⟨w.heap.size, 0, none⟩ = some (.int .i64 (vars : Int)) ∧ w'.cell? ⟨p11, 0, none⟩ = some (.int .i64 (ia : Int)) ∧ w'.cell? ⟨p12, 0, none⟩ = some (.int .i64 (ib : Int))) (exact KP.out _ (by first | assumption | exact Below.al (by assumption) _))
    (first | (go_at_call 11; refine (MD.out _ (by assumption)).mono ?_; rintro e wn ⟨tbn, rfl, hn1, hn2', hn3⟩; have Bn : Below W.heap.size W wn := Below.chn (by assumption) hn3))
  all_goals
    go_wp2_with fail
    go_ret3
    first
      | exact TPost.first (W := W.drew) (ids := [(ia : Int), (ib : Int)]) D5 hn3 hn1 hn2' (fun j x hx => by match j, hx with | 0, hx => cases hx; rfl | 1, hx => cases hx; rfl | j + 2, hx => simp at hx)
      | exact TPost.second (W := W.drew) (ids := [(ia : Int), (ib : Int)]) D5 hn3 hn1 hn2' (fun j x hx => by match j, hx with | 0, hx => cases hx; rfl | 1, hx => cases hx; rfl | j + 2, hx => simp at hx)
set_option maxHeartbeats 8000000 in
set_option maxRecDepth 100000 in
theorem told_3 {w : World} {vars n cap K : Nat} {A B C : Int} {ja jb jc ia ib ic ta tb tc N : Nat} {sa sb sc : Nat → Bool} (hn : 0 < n) (hn2 : n < 1000) (hK : K < w.heap.size) (kA : KnAt w K n A ja ia ta N sa) (kB : KnAt w K n B jb ib tb N sb) (kC : KnAt w K n C jc ic tc N sc) (hv : vars ≤ 8) (hN : 2 ^ vars = N) :
    Calls Try.prog 16 #[.int .i64 (vars : Int), .slice (some ⟨K, 0, none⟩) n cap, .agg #[.int .i64 3, .int .i64 A, .int .i64 B, .int .i64 C]] w (TPost w N (fun b => sa b || sb b) [(ia : Int), (ib : Int)]) := by
  have I0 := in3_start w vars n cap K 3 A B C
  have I1 := I0.drew
  have AT1 : Hid (∀ W, Below (W3 w vars n cap K 3 A B C).drew.heap.size (W3 w vars n cap K 3 A B C).drew W → Calls Try.prog 56 #[.int .i64 A, .pointer (some ⟨w.heap.size + 1, 0, none⟩)] W fun e w' => e = .returned (.agg #[.int .i64 (ia : Int), .slice (some ⟨ta, 0, none⟩) N N]) ∧ Below W.heap.size W w') := fun W hW => (I1.below hW).at hn hn2 hK kA
  have AT2 : Hid (∀ W, Below (W3 w vars n cap K 3 A B C).drew.heap.size (W3 w vars n cap K 3 A B C).drew W → Calls Try.prog 56 #[.int .i64 B, .pointer (some ⟨w.heap.size + 1, 0, none⟩)] W fun e w' => e = .returned (.agg #[.int .i64 (ib : Int), .slice (some ⟨tb, 0, none⟩) N N]) ∧ Below W.heap.size W w') := fun W hW => (I1.below hW).at hn hn2 hK kB
  have AT3 : Hid (∀ W, Below (W3 w vars n cap K 3 A B C).drew.heap.size (W3 w vars n cap K 3 A B C).drew W → Calls Try.prog 56 #[.int .i64 C, .pointer (some ⟨w.heap.size + 1, 0, none⟩)] W fun e w' => e = .returned (.agg #[.int .i64 (ic : Int), .slice (some ⟨tc, 0, none⟩) N N]) ∧ Below W.heap.size W w') := fun W hW => (I1.below hW).at hn hn2 hK kC
  have HI : Hid (∀ W, Below (W3 w vars n cap K 3 A B C).drew.heap.size (W3 w vars n cap K 3 A B C).drew W → In3 w W vars n cap K 3 A B C) := fun W hW => I1.below hW
  have HS : Hid (∀ W, Below (W3 w vars n cap K 3 A B C).drew.heap.size (W3 w vars n cap K 3 A B C).drew W → (fun w' : World => w'.cell? ⟨w.heap.size + 1 + 1, 1, none⟩ = some (.int .i64 A) ∧ w'.cell? ⟨w.heap.size + 1 + 1, 2, none⟩ = some (.int .i64 B) ∧ w'.cell? ⟨w.heap.size + 1 + 1, 3, none⟩ = some (.int .i64 C)) W) := fun W hW => ⟨(I1.below hW).cA, (I1.below hW).cB, (I1.below hW).cC⟩
  have KA : Hid (Tab w ta N sa ∧ Tab w tb N sb ∧ Tab w tc N sc) := ⟨kA.tab, kB.tab, kC.tab⟩
  clear kA kB kC I0 I1
  go_enter Try.func16, Try.ntmps16
  go_wp2_with fail
  refine wp_region_held_drew (S := (fun w' : World => w'.cell? ⟨w.heap.size + 1 + 1, 1, none⟩ = some (.int .i64 A) ∧ w'.cell? ⟨w.heap.size + 1 + 1, 2, none⟩ = some (.int .i64 B) ∧ w'.cell? ⟨w.heap.size + 1 + 1, 3, none⟩ = some (.int .i64 C))) (by kernel_rfl) (HS.out _ (Below.refl _ _)) (fun hHeld => ?_)
  refine' wpAnyH_take (i := 0) (v := _) rfl (by kernel_rfl) (by kernel_rfl) (by kernel_rfl) (fun _ _ _ h => h) (Or.inl ⟨by rfl, ?gy0⟩) (by assumption) ?gr0
  case gy0 => (intro w hSw; (try dsimp only at hSw); go_simp; (try with_reducible rfl))
  try simp only [List.getElem_toArray, List.getElem_cons_zero, Act.put, List.setIfInBounds_toArray, List.set_cons_zero, List.set_cons_succ]
  refine' wpAnyH_take (i := 1) (v := _) rfl (by kernel_rfl) (by kernel_rfl) (by kernel_rfl) (fun _ _ _ h => h) (Or.inl ⟨by rfl, ?gy1⟩) (by assumption) ?gr1
  case gy1 => (intro w hSw; (try dsimp only at hSw); go_simp; (try with_reducible rfl))
  try simp only [List.getElem_toArray, List.getElem_cons_zero, List.getElem_cons_succ, Act.put, List.setIfInBounds_toArray, List.set_cons_zero, List.set_cons_succ]
  refine' wpAnyH_take (i := 2) (v := _) rfl (by kernel_rfl) (by kernel_rfl) (by kernel_rfl) (fun _ _ _ h => h) (Or.inl ⟨by rfl, ?gy2⟩) (by assumption) ?gr2
  case gy2 => (intro w hSw; (try dsimp only at hSw); go_simp; (try with_reducible rfl))
  try simp only [List.getElem_toArray, List.getElem_cons_zero, List.getElem_cons_succ, Act.put, List.setIfInBounds_toArray, List.set_cons_zero, List.set_cons_succ]
  refine' wpAnyH_take (i := 4) (v := _) rfl (by kernel_rfl) (by kernel_rfl) (by kernel_rfl) (fun _ _ _ h => h) (Or.inl ⟨by rfl, ?gy3⟩) (by assumption) ?gr3
  case gy3 => (intro w hSw; (try dsimp only at hSw); go_simp; (try with_reducible rfl))
  try simp only [List.getElem_toArray, List.getElem_cons_zero, List.getElem_cons_succ, Act.put, List.setIfInBounds_toArray, List.set_cons_zero, List.set_cons_succ]
  refine' wpAnyH_take (i := 5) (v := _) rfl (by kernel_rfl) (by kernel_rfl) (by kernel_rfl) (fun _ _ _ h => h) (Or.inl ⟨by rfl, ?gy4⟩) (by assumption) ?gr4
  case gy4 => (intro w hSw; (try dsimp only at hSw); go_simp; (try with_reducible rfl))
  try simp only [List.getElem_toArray, List.getElem_cons_zero, List.getElem_cons_succ, Act.put, List.setIfInBounds_toArray, List.set_cons_zero, List.set_cons_succ]
  refine' wpAnyH_take (i := 6) (v := _) rfl (by kernel_rfl) (by kernel_rfl) (by kernel_rfl) (fun _ _ _ h => h) (Or.inl ⟨by rfl, ?gy5⟩) (by assumption) ?gr5
  case gy5 => (intro w hSw; (try dsimp only at hSw); go_simp; (try with_reducible rfl))
  try simp only [List.getElem_toArray, List.getElem_cons_zero, List.getElem_cons_succ, Act.put, List.setIfInBounds_toArray, List.set_cons_zero, List.set_cons_succ]
  refine' wpAnyH_take (i := 8) (v := _) rfl (by kernel_rfl) (by kernel_rfl) (by kernel_rfl) (fun _ _ _ h => h) (Or.inl ⟨by rfl, ?gy6⟩) (by assumption) ?gr6
  case gy6 => (intro w hSw; (try dsimp only at hSw); go_simp; (try with_reducible rfl))
  try simp only [List.getElem_toArray, List.getElem_cons_zero, List.getElem_cons_succ, Act.put, List.setIfInBounds_toArray, List.set_cons_zero, List.set_cons_succ]
  refine' wpAnyH_take (i := 9) (v := _) rfl (by kernel_rfl) (by kernel_rfl) (by kernel_rfl) (fun _ _ _ h => h) (Or.inl ⟨by rfl, ?gy7⟩) (by assumption) ?gr7
  case gy7 => (intro w hSw; (try dsimp only at hSw); go_simp; (try with_reducible rfl))
  try simp only [List.getElem_toArray, List.getElem_cons_zero, List.getElem_cons_succ, Act.put, List.setIfInBounds_toArray, List.set_cons_zero, List.set_cons_succ]
  refine' wpAnyH_take (i := 10) (v := _) rfl (by kernel_rfl) (by kernel_rfl) (by kernel_rfl) (fun _ _ _ h => h) (Or.inl ⟨by rfl, ?gy8⟩) (by assumption) ?gr8
  case gy8 => (intro w hSw; (try dsimp only at hSw); go_simp; (try with_reducible rfl))
  try simp only [List.getElem_toArray, List.getElem_cons_zero, List.getElem_cons_succ, Act.put, List.setIfInBounds_toArray, List.set_cons_zero, List.set_cons_succ]
  refine t3_0_0 (W0 := (W3 w vars n cap K 3 A B C).drew) (W := (W3 w vars n cap K 3 A B C).drew) AT1 AT2 AT3 HS (fun W p11 p12 p13 hB z11 z12 z13 n1112 n1113 n1213 => ?_) (Below.refl _ _) (by kernel_rfl) (by rfl)
  clear hHeld AT1 AT2 AT3 HS n1112 n1113 n1213
  have I4 := HI.out W hB
  have SA : Hid (SeenAt W p11 ia ta N sa) := SB.seen z11 KA.out.1 I4.bel
  have SB' : Hid (SeenAt W p12 ib tb N sb) := SB.seen z12 KA.out.2.1 I4.bel
  have SC : Hid (SeenAt W p13 ic tc N sc) := SB.seen z13 KA.out.2.2 I4.bel
  have q1 := I4.cv
  have q2 := I4.ck
  have q3 := I4.cA
  have q4 := I4.cB
  have q5 := I4.cC
  have a0 := SA.out.c0
  have b0 := SB'.out.c0
  have g0 := SC.out.c0
  have D4 := I4.bel
  clear z11 z12 z13 KA HI hB
  have IW := I4
  have MD : Hid (∀ W', Below W.heap.size W W' → Calls Try.prog 11 #[.int .i64 (vars : Int), .func (.func 61) #[] #[.pointer (some ⟨p11, 0, none⟩), .pointer (some ⟨p12, 0, none⟩)]] W' fun e w' => ∃ tb, e = .returned (.slice (some ⟨tb, 0, none⟩) N N) ∧ W'.heap.size ≤ tb ∧ Tab w' tb N (fun b => sa b || sb b) ∧ Below W'.heap.size W' w') := fun W' hW => made_22 hv hN ⟨fun wr b hb hbn => (clo22 ((SA.out.below hW).below hb) ((SB'.out.below hW).below hb) hbn).mono (fun _ _ ⟨h1, h2⟩ => ⟨h1, h2 ▸ Below.refl _ _⟩)⟩
  have KP : Hid (∀ W', Below W.heap.size W W' → (fun w' : World => w'.cell? ⟨w.heap.size, 0, none⟩ = some (.int .i64 (vars : Int)) ∧ w'.cell? ⟨p11, 0, none⟩ = some (.int .i64 (ia : Int)) ∧ w'.cell? ⟨p12, 0, none⟩ = some (.int .i64 (ib : Int))) W') := fun W' hW => ⟨(IW.below hW).cv, (SA.out.below hW).c0, (SB'.out.below hW).c0⟩
  have B0 : Below W.heap.size W W.drew := (Below.refl _ _).drew
  have B1 : Below W.heap.size W (W.drew.alloc (.cells #[.int .i64 (ia : Int), .int .i64 (ib : Int)] 3)) := Below.al B0 _
  have D5 : Below w.heap.size w W.drew := D4.drew
  clear SA SB' SC I4 IW
  dsimp only [tmT]
  go_wp2_with fail
  go_region_held3 (fun w' : World => w'.cell? ⟨w.heap.size, 0, none⟩ = some (.int .i64 (vars : Int)) ∧ w'.cell? ⟨p11, 0, none⟩ = some (.int .i64 (ia : Int)) ∧ w'.cell? ⟨p12, 0, none⟩ = some (.int .i64 (ib : Int))) (exact KP.out _ (by first | assumption | exact Below.al (by assumption) _))
    (first | (go_at_call 11; refine (MD.out _ (by assumption)).mono ?_; rintro e wn ⟨tbn, rfl, hn1, hn2', hn3⟩; have Bn : Below W.heap.size W wn := Below.chn (by assumption) hn3))
  all_goals
    go_wp2_with fail
    go_ret3
    first
      | exact TPost.first (W := W.drew) (ids := [(ia : Int), (ib : Int)]) D5 hn3 hn1 hn2' (fun j x hx => by match j, hx with | 0, hx => cases hx; rfl | 1, hx => cases hx; rfl | j + 2, hx => simp at hx)
      | exact TPost.second (W := W.drew) (ids := [(ia : Int), (ib : Int)]) D5 hn3 hn1 hn2' (fun j x hx => by match j, hx with | 0, hx => cases hx; rfl | 1, hx => cases hx; rfl | j + 2, hx => simp at hx)
set_option maxHeartbeats 8000000 in
set_option maxRecDepth 100000 in
theorem told_4 {w : World} {vars n cap K : Nat} {A B C : Int} {ja jb jc ia ib ic ta tb tc N : Nat} {sa sb sc : Nat → Bool} (hn : 0 < n) (hn2 : n < 1000) (hK : K < w.heap.size) (kA : KnAt w K n A ja ia ta N sa) (kB : KnAt w K n B jb ib tb N sb) (kC : KnAt w K n C jc ic tc N sc) (hv : vars ≤ 8) (hN : 2 ^ vars = N) :
    Calls Try.prog 16 #[.int .i64 (vars : Int), .slice (some ⟨K, 0, none⟩) n cap, .agg #[.int .i64 4, .int .i64 A, .int .i64 B, .int .i64 C]] w (TPost w N (fun b => if sa b then sb b else sc b) [(ia : Int), (ib : Int), (ic : Int)]) := by
  have I0 := in3_start w vars n cap K 4 A B C
  have I1 := I0.drew
  have AT1 : Hid (∀ W, Below (W3 w vars n cap K 4 A B C).drew.heap.size (W3 w vars n cap K 4 A B C).drew W → Calls Try.prog 56 #[.int .i64 A, .pointer (some ⟨w.heap.size + 1, 0, none⟩)] W fun e w' => e = .returned (.agg #[.int .i64 (ia : Int), .slice (some ⟨ta, 0, none⟩) N N]) ∧ Below W.heap.size W w') := fun W hW => (I1.below hW).at hn hn2 hK kA
  have AT2 : Hid (∀ W, Below (W3 w vars n cap K 4 A B C).drew.heap.size (W3 w vars n cap K 4 A B C).drew W → Calls Try.prog 56 #[.int .i64 B, .pointer (some ⟨w.heap.size + 1, 0, none⟩)] W fun e w' => e = .returned (.agg #[.int .i64 (ib : Int), .slice (some ⟨tb, 0, none⟩) N N]) ∧ Below W.heap.size W w') := fun W hW => (I1.below hW).at hn hn2 hK kB
  have AT3 : Hid (∀ W, Below (W3 w vars n cap K 4 A B C).drew.heap.size (W3 w vars n cap K 4 A B C).drew W → Calls Try.prog 56 #[.int .i64 C, .pointer (some ⟨w.heap.size + 1, 0, none⟩)] W fun e w' => e = .returned (.agg #[.int .i64 (ic : Int), .slice (some ⟨tc, 0, none⟩) N N]) ∧ Below W.heap.size W w') := fun W hW => (I1.below hW).at hn hn2 hK kC
  have HI : Hid (∀ W, Below (W3 w vars n cap K 4 A B C).drew.heap.size (W3 w vars n cap K 4 A B C).drew W → In3 w W vars n cap K 4 A B C) := fun W hW => I1.below hW
  have HS : Hid (∀ W, Below (W3 w vars n cap K 4 A B C).drew.heap.size (W3 w vars n cap K 4 A B C).drew W → (fun w' : World => w'.cell? ⟨w.heap.size + 1 + 1, 1, none⟩ = some (.int .i64 A) ∧ w'.cell? ⟨w.heap.size + 1 + 1, 2, none⟩ = some (.int .i64 B) ∧ w'.cell? ⟨w.heap.size + 1 + 1, 3, none⟩ = some (.int .i64 C)) W) := fun W hW => ⟨(I1.below hW).cA, (I1.below hW).cB, (I1.below hW).cC⟩
  have KA : Hid (Tab w ta N sa ∧ Tab w tb N sb ∧ Tab w tc N sc) := ⟨kA.tab, kB.tab, kC.tab⟩
  clear kA kB kC I0 I1
  go_enter Try.func16, Try.ntmps16
  go_wp2_with fail
  refine wp_region_held_drew (S := (fun w' : World => w'.cell? ⟨w.heap.size + 1 + 1, 1, none⟩ = some (.int .i64 A) ∧ w'.cell? ⟨w.heap.size + 1 + 1, 2, none⟩ = some (.int .i64 B) ∧ w'.cell? ⟨w.heap.size + 1 + 1, 3, none⟩ = some (.int .i64 C))) (by kernel_rfl) (HS.out _ (Below.refl _ _)) (fun hHeld => ?_)
  refine' wpAnyH_take (i := 0) (v := _) rfl (by kernel_rfl) (by kernel_rfl) (by kernel_rfl) (fun _ _ _ h => h) (Or.inl ⟨by rfl, ?gy0⟩) (by assumption) ?gr0
  case gy0 => (intro w hSw; (try dsimp only at hSw); go_simp; (try with_reducible rfl))
  try simp only [List.getElem_toArray, List.getElem_cons_zero, Act.put, List.setIfInBounds_toArray, List.set_cons_zero, List.set_cons_succ]
  refine' wpAnyH_take (i := 1) (v := _) rfl (by kernel_rfl) (by kernel_rfl) (by kernel_rfl) (fun _ _ _ h => h) (Or.inl ⟨by rfl, ?gy1⟩) (by assumption) ?gr1
  case gy1 => (intro w hSw; (try dsimp only at hSw); go_simp; (try with_reducible rfl))
  try simp only [List.getElem_toArray, List.getElem_cons_zero, List.getElem_cons_succ, Act.put, List.setIfInBounds_toArray, List.set_cons_zero, List.set_cons_succ]
  refine' wpAnyH_take (i := 2) (v := _) rfl (by kernel_rfl) (by kernel_rfl) (by kernel_rfl) (fun _ _ _ h => h) (Or.inl ⟨by rfl, ?gy2⟩) (by assumption) ?gr2
  case gy2 => (intro w hSw; (try dsimp only at hSw); go_simp; (try with_reducible rfl))
  try simp only [List.getElem_toArray, List.getElem_cons_zero, List.getElem_cons_succ, Act.put, List.setIfInBounds_toArray, List.set_cons_zero, List.set_cons_succ]
  refine' wpAnyH_take (i := 4) (v := _) rfl (by kernel_rfl) (by kernel_rfl) (by kernel_rfl) (fun _ _ _ h => h) (Or.inl ⟨by rfl, ?gy3⟩) (by assumption) ?gr3
  case gy3 => (intro w hSw; (try dsimp only at hSw); go_simp; (try with_reducible rfl))
  try simp only [List.getElem_toArray, List.getElem_cons_zero, List.getElem_cons_succ, Act.put, List.setIfInBounds_toArray, List.set_cons_zero, List.set_cons_succ]
  refine' wpAnyH_take (i := 5) (v := _) rfl (by kernel_rfl) (by kernel_rfl) (by kernel_rfl) (fun _ _ _ h => h) (Or.inl ⟨by rfl, ?gy4⟩) (by assumption) ?gr4
  case gy4 => (intro w hSw; (try dsimp only at hSw); go_simp; (try with_reducible rfl))
  try simp only [List.getElem_toArray, List.getElem_cons_zero, List.getElem_cons_succ, Act.put, List.setIfInBounds_toArray, List.set_cons_zero, List.set_cons_succ]
  refine' wpAnyH_take (i := 6) (v := _) rfl (by kernel_rfl) (by kernel_rfl) (by kernel_rfl) (fun _ _ _ h => h) (Or.inl ⟨by rfl, ?gy5⟩) (by assumption) ?gr5
  case gy5 => (intro w hSw; (try dsimp only at hSw); go_simp; (try with_reducible rfl))
  try simp only [List.getElem_toArray, List.getElem_cons_zero, List.getElem_cons_succ, Act.put, List.setIfInBounds_toArray, List.set_cons_zero, List.set_cons_succ]
  refine' wpAnyH_take (i := 8) (v := _) rfl (by kernel_rfl) (by kernel_rfl) (by kernel_rfl) (fun _ _ _ h => h) (Or.inl ⟨by rfl, ?gy6⟩) (by assumption) ?gr6
  case gy6 => (intro w hSw; (try dsimp only at hSw); go_simp; (try with_reducible rfl))
  try simp only [List.getElem_toArray, List.getElem_cons_zero, List.getElem_cons_succ, Act.put, List.setIfInBounds_toArray, List.set_cons_zero, List.set_cons_succ]
  refine' wpAnyH_take (i := 9) (v := _) rfl (by kernel_rfl) (by kernel_rfl) (by kernel_rfl) (fun _ _ _ h => h) (Or.inl ⟨by rfl, ?gy7⟩) (by assumption) ?gr7
  case gy7 => (intro w hSw; (try dsimp only at hSw); go_simp; (try with_reducible rfl))
  try simp only [List.getElem_toArray, List.getElem_cons_zero, List.getElem_cons_succ, Act.put, List.setIfInBounds_toArray, List.set_cons_zero, List.set_cons_succ]
  refine' wpAnyH_take (i := 10) (v := _) rfl (by kernel_rfl) (by kernel_rfl) (by kernel_rfl) (fun _ _ _ h => h) (Or.inl ⟨by rfl, ?gy8⟩) (by assumption) ?gr8
  case gy8 => (intro w hSw; (try dsimp only at hSw); go_simp; (try with_reducible rfl))
  try simp only [List.getElem_toArray, List.getElem_cons_zero, List.getElem_cons_succ, Act.put, List.setIfInBounds_toArray, List.set_cons_zero, List.set_cons_succ]
  refine t3_0_0 (W0 := (W3 w vars n cap K 4 A B C).drew) (W := (W3 w vars n cap K 4 A B C).drew) AT1 AT2 AT3 HS (fun W p11 p12 p13 hB z11 z12 z13 n1112 n1113 n1213 => ?_) (Below.refl _ _) (by kernel_rfl) (by rfl)
  clear hHeld AT1 AT2 AT3 HS n1112 n1113 n1213
  have I4 := HI.out W hB
  have SA : Hid (SeenAt W p11 ia ta N sa) := SB.seen z11 KA.out.1 I4.bel
  have SB' : Hid (SeenAt W p12 ib tb N sb) := SB.seen z12 KA.out.2.1 I4.bel
  have SC : Hid (SeenAt W p13 ic tc N sc) := SB.seen z13 KA.out.2.2 I4.bel
  have q1 := I4.cv
  have q2 := I4.ck
  have q3 := I4.cA
  have q4 := I4.cB
  have q5 := I4.cC
  have a0 := SA.out.c0
  have b0 := SB'.out.c0
  have g0 := SC.out.c0
  have D4 := I4.bel
  clear z11 z12 z13 KA HI hB
  have IW := I4
  have MD : Hid (∀ W', Below W.heap.size W W' → Calls Try.prog 11 #[.int .i64 (vars : Int), .func (.func 62) #[] #[.pointer (some ⟨p11, 0, none⟩), .pointer (some ⟨p12, 0, none⟩), .pointer (some ⟨p13, 0, none⟩)]] W' fun e w' => ∃ tb, e = .returned (.slice (some ⟨tb, 0, none⟩) N N) ∧ W'.heap.size ≤ tb ∧ Tab w' tb N (fun b => if sa b then sb b else sc b) ∧ Below W'.heap.size W' w') := fun W' hW => made_23 hv hN ⟨fun wr b hb hbn => (clo23 ((SA.out.below hW).below hb) ((SB'.out.below hW).below hb) ((SC.out.below hW).below hb) hbn).mono (fun _ _ ⟨h1, h2⟩ => ⟨h1, h2 ▸ Below.refl _ _⟩)⟩
  have KP : Hid (∀ W', Below W.heap.size W W' → (fun w' : World => w'.cell? ⟨w.heap.size, 0, none⟩ = some (.int .i64 (vars : Int)) ∧ w'.cell? ⟨p11, 0, none⟩ = some (.int .i64 (ia : Int)) ∧ w'.cell? ⟨p12, 0, none⟩ = some (.int .i64 (ib : Int)) ∧ w'.cell? ⟨p13, 0, none⟩ = some (.int .i64 (ic : Int))) W') := fun W' hW => ⟨(IW.below hW).cv, (SA.out.below hW).c0, (SB'.out.below hW).c0, (SC.out.below hW).c0⟩
  have B0 : Below W.heap.size W W.drew := (Below.refl _ _).drew
  have B1 : Below W.heap.size W (W.drew.alloc (.cells #[.int .i64 (ia : Int), .int .i64 (ib : Int), .int .i64 (ic : Int)] 3)) := Below.al B0 _
  have D5 : Below w.heap.size w W.drew := D4.drew
  clear SA SB' SC I4 IW
  dsimp only [tmT]
  go_wp2_with fail
  go_region_held3 (fun w' : World => w'.cell? ⟨w.heap.size, 0, none⟩ = some (.int .i64 (vars : Int)) ∧ w'.cell? ⟨p11, 0, none⟩ = some (.int .i64 (ia : Int)) ∧ w'.cell? ⟨p12, 0, none⟩ = some (.int .i64 (ib : Int)) ∧ w'.cell? ⟨p13, 0, none⟩ = some (.int .i64 (ic : Int))) (exact KP.out _ (by first | assumption | exact Below.al (by assumption) _))
    (first | (go_at_call 11; refine (MD.out _ (by assumption)).mono ?_; rintro e wn ⟨tbn, rfl, hn1, hn2', hn3⟩; have Bn : Below W.heap.size W wn := Below.chn (by assumption) hn3))
  all_goals
    go_wp2_with fail
    go_ret3
    first
      | exact TPost.first (W := W.drew) (ids := [(ia : Int), (ib : Int), (ic : Int)]) D5 hn3 hn1 hn2' (fun j x hx => by match j, hx with | 0, hx => cases hx; rfl | 1, hx => cases hx; rfl | 2, hx => cases hx; rfl | j + 3, hx => simp at hx)
      | exact TPost.second (W := W.drew) (ids := [(ia : Int), (ib : Int), (ic : Int)]) D5 hn3 hn1 hn2' (fun j x hx => by match j, hx with | 0, hx => cases hx; rfl | 1, hx => cases hx; rfl | 2, hx => cases hx; rfl | j + 3, hx => simp at hx)
set_option maxHeartbeats 8000000 in
set_option maxRecDepth 100000 in
theorem told_5 {w : World} {vars n cap K : Nat} {i : Nat} {A C : Int} {ja jb jc ia ib ic ta tb tc N : Nat} {sa sb sc : Nat → Bool} (hn : 0 < n) (hn2 : n < 1000) (hK : K < w.heap.size) (kA : KnAt w K n A ja ia ta N sa) (kB : KnAt w K n (i : Int) jb ib tb N sb) (kC : KnAt w K n C jc ic tc N sc) (hv : vars ≤ 8) (hN : 2 ^ vars = N) (hi : i < vars) :
    Calls Try.prog 16 #[.int .i64 (vars : Int), .slice (some ⟨K, 0, none⟩) n cap, .agg #[.int .i64 5, .int .i64 A, .int .i64 (i : Int), .int .i64 C]] w (TPost w N (fun b => sa (clr b (vars - 1 - i)) || sa (b ||| 2 ^ (vars - 1 - i))) [(ia : Int)]) := by
  have u1 : decide ((i : Int) < 0) = false := by simp
  have u2 : decide ((vars : Int) ≤ (i : Int)) = false := by simp; omega
  have I0 := in3_start w vars n cap K 5 A (i : Int) C
  have I1 := I0.drew
  have AT1 : Hid (∀ W, Below (W3 w vars n cap K 5 A (i : Int) C).drew.heap.size (W3 w vars n cap K 5 A (i : Int) C).drew W → Calls Try.prog 56 #[.int .i64 A, .pointer (some ⟨w.heap.size + 1, 0, none⟩)] W fun e w' => e = .returned (.agg #[.int .i64 (ia : Int), .slice (some ⟨ta, 0, none⟩) N N]) ∧ Below W.heap.size W w') := fun W hW => (I1.below hW).at hn hn2 hK kA
  have AT2 : Hid (∀ W, Below (W3 w vars n cap K 5 A (i : Int) C).drew.heap.size (W3 w vars n cap K 5 A (i : Int) C).drew W → Calls Try.prog 56 #[.int .i64 (i : Int), .pointer (some ⟨w.heap.size + 1, 0, none⟩)] W fun e w' => e = .returned (.agg #[.int .i64 (ib : Int), .slice (some ⟨tb, 0, none⟩) N N]) ∧ Below W.heap.size W w') := fun W hW => (I1.below hW).at hn hn2 hK kB
  have AT3 : Hid (∀ W, Below (W3 w vars n cap K 5 A (i : Int) C).drew.heap.size (W3 w vars n cap K 5 A (i : Int) C).drew W → Calls Try.prog 56 #[.int .i64 C, .pointer (some ⟨w.heap.size + 1, 0, none⟩)] W fun e w' => e = .returned (.agg #[.int .i64 (ic : Int), .slice (some ⟨tc, 0, none⟩) N N]) ∧ Below W.heap.size W w') := fun W hW => (I1.below hW).at hn hn2 hK kC
  have HI : Hid (∀ W, Below (W3 w vars n cap K 5 A (i : Int) C).drew.heap.size (W3 w vars n cap K 5 A (i : Int) C).drew W → In3 w W vars n cap K 5 A (i : Int) C) := fun W hW => I1.below hW
  have HS : Hid (∀ W, Below (W3 w vars n cap K 5 A (i : Int) C).drew.heap.size (W3 w vars n cap K 5 A (i : Int) C).drew W → (fun w' : World => w'.cell? ⟨w.heap.size + 1 + 1, 1, none⟩ = some (.int .i64 A) ∧ w'.cell? ⟨w.heap.size + 1 + 1, 2, none⟩ = some (.int .i64 (i : Int)) ∧ w'.cell? ⟨w.heap.size + 1 + 1, 3, none⟩ = some (.int .i64 C)) W) := fun W hW => ⟨(I1.below hW).cA, (I1.below hW).cB, (I1.below hW).cC⟩
  have KA : Hid (Tab w ta N sa ∧ Tab w tb N sb ∧ Tab w tc N sc) := ⟨kA.tab, kB.tab, kC.tab⟩
  clear kA kB kC I0 I1
  go_enter Try.func16, Try.ntmps16
  go_wp2_with fail
  refine wp_region_held_drew (S := (fun w' : World => w'.cell? ⟨w.heap.size + 1 + 1, 1, none⟩ = some (.int .i64 A) ∧ w'.cell? ⟨w.heap.size + 1 + 1, 2, none⟩ = some (.int .i64 (i : Int)) ∧ w'.cell? ⟨w.heap.size + 1 + 1, 3, none⟩ = some (.int .i64 C))) (by kernel_rfl) (HS.out _ (Below.refl _ _)) (fun hHeld => ?_)
  refine' wpAnyH_take (i := 0) (v := _) rfl (by kernel_rfl) (by kernel_rfl) (by kernel_rfl) (fun _ _ _ h => h) (Or.inl ⟨by rfl, ?gy0⟩) (by assumption) ?gr0
  case gy0 => (intro w hSw; (try dsimp only at hSw); go_simp; (try with_reducible rfl))
  try simp only [List.getElem_toArray, List.getElem_cons_zero, Act.put, List.setIfInBounds_toArray, List.set_cons_zero, List.set_cons_succ]
  refine' wpAnyH_take (i := 1) (v := _) rfl (by kernel_rfl) (by kernel_rfl) (by kernel_rfl) (fun _ _ _ h => h) (Or.inl ⟨by rfl, ?gy1⟩) (by assumption) ?gr1
  case gy1 => (intro w hSw; (try dsimp only at hSw); go_simp; (try with_reducible rfl))
  try simp only [List.getElem_toArray, List.getElem_cons_zero, List.getElem_cons_succ, Act.put, List.setIfInBounds_toArray, List.set_cons_zero, List.set_cons_succ]
  refine' wpAnyH_take (i := 2) (v := _) rfl (by kernel_rfl) (by kernel_rfl) (by kernel_rfl) (fun _ _ _ h => h) (Or.inl ⟨by rfl, ?gy2⟩) (by assumption) ?gr2
  case gy2 => (intro w hSw; (try dsimp only at hSw); go_simp; (try with_reducible rfl))
  try simp only [List.getElem_toArray, List.getElem_cons_zero, List.getElem_cons_succ, Act.put, List.setIfInBounds_toArray, List.set_cons_zero, List.set_cons_succ]
  refine' wpAnyH_take (i := 4) (v := _) rfl (by kernel_rfl) (by kernel_rfl) (by kernel_rfl) (fun _ _ _ h => h) (Or.inl ⟨by rfl, ?gy3⟩) (by assumption) ?gr3
  case gy3 => (intro w hSw; (try dsimp only at hSw); go_simp; (try with_reducible rfl))
  try simp only [List.getElem_toArray, List.getElem_cons_zero, List.getElem_cons_succ, Act.put, List.setIfInBounds_toArray, List.set_cons_zero, List.set_cons_succ]
  refine' wpAnyH_take (i := 5) (v := _) rfl (by kernel_rfl) (by kernel_rfl) (by kernel_rfl) (fun _ _ _ h => h) (Or.inl ⟨by rfl, ?gy4⟩) (by assumption) ?gr4
  case gy4 => (intro w hSw; (try dsimp only at hSw); go_simp; (try with_reducible rfl))
  try simp only [List.getElem_toArray, List.getElem_cons_zero, List.getElem_cons_succ, Act.put, List.setIfInBounds_toArray, List.set_cons_zero, List.set_cons_succ]
  refine' wpAnyH_take (i := 6) (v := _) rfl (by kernel_rfl) (by kernel_rfl) (by kernel_rfl) (fun _ _ _ h => h) (Or.inl ⟨by rfl, ?gy5⟩) (by assumption) ?gr5
  case gy5 => (intro w hSw; (try dsimp only at hSw); go_simp; (try with_reducible rfl))
  try simp only [List.getElem_toArray, List.getElem_cons_zero, List.getElem_cons_succ, Act.put, List.setIfInBounds_toArray, List.set_cons_zero, List.set_cons_succ]
  refine' wpAnyH_take (i := 8) (v := _) rfl (by kernel_rfl) (by kernel_rfl) (by kernel_rfl) (fun _ _ _ h => h) (Or.inl ⟨by rfl, ?gy6⟩) (by assumption) ?gr6
  case gy6 => (intro w hSw; (try dsimp only at hSw); go_simp; (try with_reducible rfl))
  try simp only [List.getElem_toArray, List.getElem_cons_zero, List.getElem_cons_succ, Act.put, List.setIfInBounds_toArray, List.set_cons_zero, List.set_cons_succ]
  refine' wpAnyH_take (i := 9) (v := _) rfl (by kernel_rfl) (by kernel_rfl) (by kernel_rfl) (fun _ _ _ h => h) (Or.inl ⟨by rfl, ?gy7⟩) (by assumption) ?gr7
  case gy7 => (intro w hSw; (try dsimp only at hSw); go_simp; (try with_reducible rfl))
  try simp only [List.getElem_toArray, List.getElem_cons_zero, List.getElem_cons_succ, Act.put, List.setIfInBounds_toArray, List.set_cons_zero, List.set_cons_succ]
  refine' wpAnyH_take (i := 10) (v := _) rfl (by kernel_rfl) (by kernel_rfl) (by kernel_rfl) (fun _ _ _ h => h) (Or.inl ⟨by rfl, ?gy8⟩) (by assumption) ?gr8
  case gy8 => (intro w hSw; (try dsimp only at hSw); go_simp; (try with_reducible rfl))
  try simp only [List.getElem_toArray, List.getElem_cons_zero, List.getElem_cons_succ, Act.put, List.setIfInBounds_toArray, List.set_cons_zero, List.set_cons_succ]
  refine t3_0_0 (W0 := (W3 w vars n cap K 5 A (i : Int) C).drew) (W := (W3 w vars n cap K 5 A (i : Int) C).drew) AT1 AT2 AT3 HS (fun W p11 p12 p13 hB z11 z12 z13 n1112 n1113 n1213 => ?_) (Below.refl _ _) (by kernel_rfl) (by rfl)
  clear hHeld AT1 AT2 AT3 HS n1112 n1113 n1213
  have I4 := HI.out W hB
  have SA : Hid (SeenAt W p11 ia ta N sa) := SB.seen z11 KA.out.1 I4.bel
  have SB' : Hid (SeenAt W p12 ib tb N sb) := SB.seen z12 KA.out.2.1 I4.bel
  have SC : Hid (SeenAt W p13 ic tc N sc) := SB.seen z13 KA.out.2.2 I4.bel
  have q1 := I4.cv
  have q2 := I4.ck
  have q3 := I4.cA
  have q4 := I4.cB
  have q5 := I4.cC
  have a0 := SA.out.c0
  have b0 := SB'.out.c0
  have g0 := SC.out.c0
  have D4 := I4.bel
  clear z11 z12 z13 KA HI hB
  have IW := I4
  have MD : Hid (∀ W', Below W.heap.size W W' → Calls Try.prog 11 #[.int .i64 (vars : Int), .func (.func 63) #[] #[.pointer (some ⟨p11, 0, none⟩), .pointer (some ⟨w.heap.size + 1 + 1 + 1, 0, none⟩), .pointer (some ⟨w.heap.size + 1 + 1, 0, none⟩)]] W' fun e w' => ∃ tb, e = .returned (.slice (some ⟨tb, 0, none⟩) N N) ∧ W'.heap.size ≤ tb ∧ Tab w' tb N (fun b => sa (clr b (vars - 1 - i)) || sa (b ||| 2 ^ (vars - 1 - i))) ∧ Below W'.heap.size W' w') := fun W' hW => made_24 hv hN ⟨fun wr b hb hbn => clo24 ((SA.out.below hW).below hb) ((IW.below hW).below hb).cv ((IW.below hW).below hb).cf ((IW.below hW).below hb).cB hv hN hi hbn⟩
  have KP : Hid (∀ W', Below W.heap.size W W' → (fun w' : World => w'.cell? ⟨w.heap.size, 0, none⟩ = some (.int .i64 (vars : Int)) ∧ w'.cell? ⟨p11, 0, none⟩ = some (.int .i64 (ia : Int))) W') := fun W' hW => ⟨(IW.below hW).cv, (SA.out.below hW).c0⟩
  have B0 : Below W.heap.size W W.drew := (Below.refl _ _).drew
  have B1 : Below W.heap.size W (W.drew.alloc (.cells #[.int .i64 (ia : Int)] 3)) := Below.al B0 _
  have D5 : Below w.heap.size w W.drew := D4.drew
  clear SA SB' SC I4 IW
  dsimp only [tmT]
  go_wp2_with fail
  go_region_held3 (fun w' : World => w'.cell? ⟨w.heap.size, 0, none⟩ = some (.int .i64 (vars : Int)) ∧ w'.cell? ⟨p11, 0, none⟩ = some (.int .i64 (ia : Int))) (exact KP.out _ (by first | assumption | exact Below.al (by assumption) _))
    (first | (go_at_call 11; refine (MD.out _ (by assumption)).mono ?_; rintro e wn ⟨tbn, rfl, hn1, hn2', hn3⟩; have Bn : Below W.heap.size W wn := Below.chn (by assumption) hn3))
  all_goals
    go_wp2_with fail
    go_ret3
    first
      | exact TPost.first (W := W.drew) (ids := [(ia : Int)]) D5 hn3 hn1 hn2' (fun j x hx => by match j, hx with | 0, hx => cases hx; rfl | j + 1, hx => simp at hx)
      | exact TPost.second (W := W.drew) (ids := [(ia : Int)]) D5 hn3 hn1 hn2' (fun j x hx => by match j, hx with | 0, hx => cases hx; rfl | j + 1, hx => simp at hx)
set_option maxHeartbeats 8000000 in
set_option maxRecDepth 100000 in
theorem told_6 {w : World} {vars n cap K : Nat} {i j : Nat} {A : Int} {ja jb jc ia ib ic ta tb tc N : Nat} {sa sb sc : Nat → Bool} (hn : 0 < n) (hn2 : n < 1000) (hK : K < w.heap.size) (kA : KnAt w K n A ja ia ta N sa) (kB : KnAt w K n (i : Int) jb ib tb N sb) (kC : KnAt w K n (j : Int) jc ic tc N sc) (hv : vars ≤ 8) (hN : 2 ^ vars = N) (hi : i < vars) (hj : j < vars) :
    Calls Try.prog 16 #[.int .i64 (vars : Int), .slice (some ⟨K, 0, none⟩) n cap, .agg #[.int .i64 6, .int .i64 A, .int .i64 (i : Int), .int .i64 (j : Int)]] w (TPost w N (fun b => sa (swBits b (vars - 1 - i) (vars - 1 - j))) [(ia : Int)]) := by
  have u1 : decide ((i : Int) < 0) = false := by simp
  have u2 : decide ((vars : Int) ≤ (i : Int)) = false := by simp; omega
  have u3 : decide ((j : Int) < 0) = false := by simp
  have u4 : decide ((vars : Int) ≤ (j : Int)) = false := by simp; omega
  have I0 := in3_start w vars n cap K 6 A (i : Int) (j : Int)
  have I1 := I0.drew
  have AT1 : Hid (∀ W, Below (W3 w vars n cap K 6 A (i : Int) (j : Int)).drew.heap.size (W3 w vars n cap K 6 A (i : Int) (j : Int)).drew W → Calls Try.prog 56 #[.int .i64 A, .pointer (some ⟨w.heap.size + 1, 0, none⟩)] W fun e w' => e = .returned (.agg #[.int .i64 (ia : Int), .slice (some ⟨ta, 0, none⟩) N N]) ∧ Below W.heap.size W w') := fun W hW => (I1.below hW).at hn hn2 hK kA
  have AT2 : Hid (∀ W, Below (W3 w vars n cap K 6 A (i : Int) (j : Int)).drew.heap.size (W3 w vars n cap K 6 A (i : Int) (j : Int)).drew W → Calls Try.prog 56 #[.int .i64 (i : Int), .pointer (some ⟨w.heap.size + 1, 0, none⟩)] W fun e w' => e = .returned (.agg #[.int .i64 (ib : Int), .slice (some ⟨tb, 0, none⟩) N N]) ∧ Below W.heap.size W w') := fun W hW => (I1.below hW).at hn hn2 hK kB
  have AT3 : Hid (∀ W, Below (W3 w vars n cap K 6 A (i : Int) (j : Int)).drew.heap.size (W3 w vars n cap K 6 A (i : Int) (j : Int)).drew W → Calls Try.prog 56 #[.int .i64 (j : Int), .pointer (some ⟨w.heap.size + 1, 0, none⟩)] W fun e w' => e = .returned (.agg #[.int .i64 (ic : Int), .slice (some ⟨tc, 0, none⟩) N N]) ∧ Below W.heap.size W w') := fun W hW => (I1.below hW).at hn hn2 hK kC
  have HI : Hid (∀ W, Below (W3 w vars n cap K 6 A (i : Int) (j : Int)).drew.heap.size (W3 w vars n cap K 6 A (i : Int) (j : Int)).drew W → In3 w W vars n cap K 6 A (i : Int) (j : Int)) := fun W hW => I1.below hW
  have HS : Hid (∀ W, Below (W3 w vars n cap K 6 A (i : Int) (j : Int)).drew.heap.size (W3 w vars n cap K 6 A (i : Int) (j : Int)).drew W → (fun w' : World => w'.cell? ⟨w.heap.size + 1 + 1, 1, none⟩ = some (.int .i64 A) ∧ w'.cell? ⟨w.heap.size + 1 + 1, 2, none⟩ = some (.int .i64 (i : Int)) ∧ w'.cell? ⟨w.heap.size + 1 + 1, 3, none⟩ = some (.int .i64 (j : Int))) W) := fun W hW => ⟨(I1.below hW).cA, (I1.below hW).cB, (I1.below hW).cC⟩
  have KA : Hid (Tab w ta N sa ∧ Tab w tb N sb ∧ Tab w tc N sc) := ⟨kA.tab, kB.tab, kC.tab⟩
  clear kA kB kC I0 I1
  go_enter Try.func16, Try.ntmps16
  go_wp2_with fail
  refine wp_region_held_drew (S := (fun w' : World => w'.cell? ⟨w.heap.size + 1 + 1, 1, none⟩ = some (.int .i64 A) ∧ w'.cell? ⟨w.heap.size + 1 + 1, 2, none⟩ = some (.int .i64 (i : Int)) ∧ w'.cell? ⟨w.heap.size + 1 + 1, 3, none⟩ = some (.int .i64 (j : Int)))) (by kernel_rfl) (HS.out _ (Below.refl _ _)) (fun hHeld => ?_)
  refine' wpAnyH_take (i := 0) (v := _) rfl (by kernel_rfl) (by kernel_rfl) (by kernel_rfl) (fun _ _ _ h => h) (Or.inl ⟨by rfl, ?gy0⟩) (by assumption) ?gr0
  case gy0 => (intro w hSw; (try dsimp only at hSw); go_simp; (try with_reducible rfl))
  try simp only [List.getElem_toArray, List.getElem_cons_zero, Act.put, List.setIfInBounds_toArray, List.set_cons_zero, List.set_cons_succ]
  refine' wpAnyH_take (i := 1) (v := _) rfl (by kernel_rfl) (by kernel_rfl) (by kernel_rfl) (fun _ _ _ h => h) (Or.inl ⟨by rfl, ?gy1⟩) (by assumption) ?gr1
  case gy1 => (intro w hSw; (try dsimp only at hSw); go_simp; (try with_reducible rfl))
  try simp only [List.getElem_toArray, List.getElem_cons_zero, List.getElem_cons_succ, Act.put, List.setIfInBounds_toArray, List.set_cons_zero, List.set_cons_succ]
  refine' wpAnyH_take (i := 2) (v := _) rfl (by kernel_rfl) (by kernel_rfl) (by kernel_rfl) (fun _ _ _ h => h) (Or.inl ⟨by rfl, ?gy2⟩) (by assumption) ?gr2
  case gy2 => (intro w hSw; (try dsimp only at hSw); go_simp; (try with_reducible rfl))
  try simp only [List.getElem_toArray, List.getElem_cons_zero, List.getElem_cons_succ, Act.put, List.setIfInBounds_toArray, List.set_cons_zero, List.set_cons_succ]
  refine' wpAnyH_take (i := 4) (v := _) rfl (by kernel_rfl) (by kernel_rfl) (by kernel_rfl) (fun _ _ _ h => h) (Or.inl ⟨by rfl, ?gy3⟩) (by assumption) ?gr3
  case gy3 => (intro w hSw; (try dsimp only at hSw); go_simp; (try with_reducible rfl))
  try simp only [List.getElem_toArray, List.getElem_cons_zero, List.getElem_cons_succ, Act.put, List.setIfInBounds_toArray, List.set_cons_zero, List.set_cons_succ]
  refine' wpAnyH_take (i := 5) (v := _) rfl (by kernel_rfl) (by kernel_rfl) (by kernel_rfl) (fun _ _ _ h => h) (Or.inl ⟨by rfl, ?gy4⟩) (by assumption) ?gr4
  case gy4 => (intro w hSw; (try dsimp only at hSw); go_simp; (try with_reducible rfl))
  try simp only [List.getElem_toArray, List.getElem_cons_zero, List.getElem_cons_succ, Act.put, List.setIfInBounds_toArray, List.set_cons_zero, List.set_cons_succ]
  refine' wpAnyH_take (i := 6) (v := _) rfl (by kernel_rfl) (by kernel_rfl) (by kernel_rfl) (fun _ _ _ h => h) (Or.inl ⟨by rfl, ?gy5⟩) (by assumption) ?gr5
  case gy5 => (intro w hSw; (try dsimp only at hSw); go_simp; (try with_reducible rfl))
  try simp only [List.getElem_toArray, List.getElem_cons_zero, List.getElem_cons_succ, Act.put, List.setIfInBounds_toArray, List.set_cons_zero, List.set_cons_succ]
  refine' wpAnyH_take (i := 8) (v := _) rfl (by kernel_rfl) (by kernel_rfl) (by kernel_rfl) (fun _ _ _ h => h) (Or.inl ⟨by rfl, ?gy6⟩) (by assumption) ?gr6
  case gy6 => (intro w hSw; (try dsimp only at hSw); go_simp; (try with_reducible rfl))
  try simp only [List.getElem_toArray, List.getElem_cons_zero, List.getElem_cons_succ, Act.put, List.setIfInBounds_toArray, List.set_cons_zero, List.set_cons_succ]
  refine' wpAnyH_take (i := 9) (v := _) rfl (by kernel_rfl) (by kernel_rfl) (by kernel_rfl) (fun _ _ _ h => h) (Or.inl ⟨by rfl, ?gy7⟩) (by assumption) ?gr7
  case gy7 => (intro w hSw; (try dsimp only at hSw); go_simp; (try with_reducible rfl))
  try simp only [List.getElem_toArray, List.getElem_cons_zero, List.getElem_cons_succ, Act.put, List.setIfInBounds_toArray, List.set_cons_zero, List.set_cons_succ]
  refine' wpAnyH_take (i := 10) (v := _) rfl (by kernel_rfl) (by kernel_rfl) (by kernel_rfl) (fun _ _ _ h => h) (Or.inl ⟨by rfl, ?gy8⟩) (by assumption) ?gr8
  case gy8 => (intro w hSw; (try dsimp only at hSw); go_simp; (try with_reducible rfl))
  try simp only [List.getElem_toArray, List.getElem_cons_zero, List.getElem_cons_succ, Act.put, List.setIfInBounds_toArray, List.set_cons_zero, List.set_cons_succ]
  refine t3_0_0 (W0 := (W3 w vars n cap K 6 A (i : Int) (j : Int)).drew) (W := (W3 w vars n cap K 6 A (i : Int) (j : Int)).drew) AT1 AT2 AT3 HS (fun W p11 p12 p13 hB z11 z12 z13 n1112 n1113 n1213 => ?_) (Below.refl _ _) (by kernel_rfl) (by rfl)
  clear hHeld AT1 AT2 AT3 HS n1112 n1113 n1213
  have I4 := HI.out W hB
  have SA : Hid (SeenAt W p11 ia ta N sa) := SB.seen z11 KA.out.1 I4.bel
  have SB' : Hid (SeenAt W p12 ib tb N sb) := SB.seen z12 KA.out.2.1 I4.bel
  have SC : Hid (SeenAt W p13 ic tc N sc) := SB.seen z13 KA.out.2.2 I4.bel
  have q1 := I4.cv
  have q2 := I4.ck
  have q3 := I4.cA
  have q4 := I4.cB
  have q5 := I4.cC
  have a0 := SA.out.c0
  have b0 := SB'.out.c0
  have g0 := SC.out.c0
  have D4 := I4.bel
  clear z11 z12 z13 KA HI hB
  have IW := I4
  have MD : Hid (∀ W', Below W.heap.size W W' → Calls Try.prog 11 #[.int .i64 (vars : Int), .func (.func 64) #[] #[.pointer (some ⟨w.heap.size + 1 + 1 + 1, 0, none⟩), .pointer (some ⟨w.heap.size + 1 + 1, 0, none⟩), .pointer (some ⟨p11, 0, none⟩)]] W' fun e w' => ∃ tb, e = .returned (.slice (some ⟨tb, 0, none⟩) N N) ∧ W'.heap.size ≤ tb ∧ Tab w' tb N (fun b => sa (swBits b (vars - 1 - i) (vars - 1 - j))) ∧ Below W'.heap.size W' w') := fun W' hW => made_25 hv hN ⟨fun wr b hb hbn => clo25 ((SA.out.below hW).below hb) ((IW.below hW).below hb).cv ((IW.below hW).below hb).cf ((IW.below hW).below hb).cB ((IW.below hW).below hb).cC hv hN hi hj hbn⟩
  have KP : Hid (∀ W', Below W.heap.size W W' → (fun w' : World => w'.cell? ⟨w.heap.size, 0, none⟩ = some (.int .i64 (vars : Int)) ∧ w'.cell? ⟨p11, 0, none⟩ = some (.int .i64 (ia : Int))) W') := fun W' hW => ⟨(IW.below hW).cv, (SA.out.below hW).c0⟩
  have B0 : Below W.heap.size W W.drew := (Below.refl _ _).drew
  have B1 : Below W.heap.size W (W.drew.alloc (.cells #[.int .i64 (ia : Int)] 3)) := Below.al B0 _
  have D5 : Below w.heap.size w W.drew := D4.drew
  clear SA SB' SC I4 IW
  dsimp only [tmT]
  go_wp2_with fail
  go_region_held3 (fun w' : World => w'.cell? ⟨w.heap.size, 0, none⟩ = some (.int .i64 (vars : Int)) ∧ w'.cell? ⟨p11, 0, none⟩ = some (.int .i64 (ia : Int))) (exact KP.out _ (by first | assumption | exact Below.al (by assumption) _))
    (first | (go_at_call 11; refine (MD.out _ (by assumption)).mono ?_; rintro e wn ⟨tbn, rfl, hn1, hn2', hn3⟩; have Bn : Below W.heap.size W wn := Below.chn (by assumption) hn3))
  all_goals
    go_wp2_with fail
    go_ret3
    first
      | exact TPost.first (W := W.drew) (ids := [(ia : Int)]) D5 hn3 hn1 hn2' (fun j x hx => by match j, hx with | 0, hx => cases hx; rfl | j + 1, hx => simp at hx)
      | exact TPost.second (W := W.drew) (ids := [(ia : Int)]) D5 hn3 hn1 hn2' (fun j x hx => by match j, hx with | 0, hx => cases hx; rfl | j + 1, hx => simp at hx)
set_option maxHeartbeats 8000000 in
set_option maxRecDepth 100000 in
theorem toldBad_0 {w : World} {vars n cap K : Nat} {A B C : Int} {ja jb jc ia ib ic ta tb tc N : Nat} {sa sb sc : Nat → Bool} (hn : 0 < n) (hn2 : n < 1000) (hK : K < w.heap.size) (kA : KnAt w K n A ja ia ta N sa) (kB : KnAt w K n B jb ib tb N sb) (kC : KnAt w K n C jc ic tc N sc) (hbad : (decide (A < 0) || decide ((vars : Int) ≤ A)) = true) :
    Calls Try.prog 16 #[.int .i64 (vars : Int), .slice (some ⟨K, 0, none⟩) n cap, .agg #[.int .i64 0, .int .i64 A, .int .i64 B, .int .i64 C]] w fun e w' => e = .returned (.tuple #[.slice none 0 0, .slice none 0 0, .bool false]) ∧ Below w.heap.size w w' := by
  have I0 := in3_start w vars n cap K 0 A B C
  have I1 := I0.drew
  have AT1 : Hid (∀ W, Below (W3 w vars n cap K 0 A B C).drew.heap.size (W3 w vars n cap K 0 A B C).drew W → Calls Try.prog 56 #[.int .i64 A, .pointer (some ⟨w.heap.size + 1, 0, none⟩)] W fun e w' => e = .returned (.agg #[.int .i64 (ia : Int), .slice (some ⟨ta, 0, none⟩) N N]) ∧ Below W.heap.size W w') := fun W hW => (I1.below hW).at hn hn2 hK kA
  have AT2 : Hid (∀ W, Below (W3 w vars n cap K 0 A B C).drew.heap.size (W3 w vars n cap K 0 A B C).drew W → Calls Try.prog 56 #[.int .i64 B, .pointer (some ⟨w.heap.size + 1, 0, none⟩)] W fun e w' => e = .returned (.agg #[.int .i64 (ib : Int), .slice (some ⟨tb, 0, none⟩) N N]) ∧ Below W.heap.size W w') := fun W hW => (I1.below hW).at hn hn2 hK kB
  have AT3 : Hid (∀ W, Below (W3 w vars n cap K 0 A B C).drew.heap.size (W3 w vars n cap K 0 A B C).drew W → Calls Try.prog 56 #[.int .i64 C, .pointer (some ⟨w.heap.size + 1, 0, none⟩)] W fun e w' => e = .returned (.agg #[.int .i64 (ic : Int), .slice (some ⟨tc, 0, none⟩) N N]) ∧ Below W.heap.size W w') := fun W hW => (I1.below hW).at hn hn2 hK kC
  have HI : Hid (∀ W, Below (W3 w vars n cap K 0 A B C).drew.heap.size (W3 w vars n cap K 0 A B C).drew W → In3 w W vars n cap K 0 A B C) := fun W hW => I1.below hW
  have HS : Hid (∀ W, Below (W3 w vars n cap K 0 A B C).drew.heap.size (W3 w vars n cap K 0 A B C).drew W → (fun w' : World => w'.cell? ⟨w.heap.size + 1 + 1, 1, none⟩ = some (.int .i64 A) ∧ w'.cell? ⟨w.heap.size + 1 + 1, 2, none⟩ = some (.int .i64 B) ∧ w'.cell? ⟨w.heap.size + 1 + 1, 3, none⟩ = some (.int .i64 C)) W) := fun W hW => ⟨(I1.below hW).cA, (I1.below hW).cB, (I1.below hW).cC⟩
  have KA : Hid (Tab w ta N sa ∧ Tab w tb N sb ∧ Tab w tc N sc) := ⟨kA.tab, kB.tab, kC.tab⟩
  clear kA kB kC I0 I1
  go_enter Try.func16, Try.ntmps16
  go_wp2_with fail
  refine wp_region_held_drew (S := (fun w' : World => w'.cell? ⟨w.heap.size + 1 + 1, 1, none⟩ = some (.int .i64 A) ∧ w'.cell? ⟨w.heap.size + 1 + 1, 2, none⟩ = some (.int .i64 B) ∧ w'.cell? ⟨w.heap.size + 1 + 1, 3, none⟩ = some (.int .i64 C))) (by kernel_rfl) (HS.out _ (Below.refl _ _)) (fun hHeld => ?_)
  refine' wpAnyH_take (i := 0) (v := _) rfl (by kernel_rfl) (by kernel_rfl) (by kernel_rfl) (fun _ _ _ h => h) (Or.inl ⟨by rfl, ?gy0⟩) (by assumption) ?gr0
  case gy0 => (intro w hSw; (try dsimp only at hSw); go_simp; (try with_reducible rfl))
  try simp only [List.getElem_toArray, List.getElem_cons_zero, Act.put, List.setIfInBounds_toArray, List.set_cons_zero, List.set_cons_succ]
  refine' wpAnyH_take (i := 1) (v := _) rfl (by kernel_rfl) (by kernel_rfl) (by kernel_rfl) (fun _ _ _ h => h) (Or.inl ⟨by rfl, ?gy1⟩) (by assumption) ?gr1
  case gy1 => (intro w hSw; (try dsimp only at hSw); go_simp; (try with_reducible rfl))
  try simp only [List.getElem_toArray, List.getElem_cons_zero, List.getElem_cons_succ, Act.put, List.setIfInBounds_toArray, List.set_cons_zero, List.set_cons_succ]
  refine' wpAnyH_take (i := 2) (v := _) rfl (by kernel_rfl) (by kernel_rfl) (by kernel_rfl) (fun _ _ _ h => h) (Or.inl ⟨by rfl, ?gy2⟩) (by assumption) ?gr2
  case gy2 => (intro w hSw; (try dsimp only at hSw); go_simp; (try with_reducible rfl))
  try simp only [List.getElem_toArray, List.getElem_cons_zero, List.getElem_cons_succ, Act.put, List.setIfInBounds_toArray, List.set_cons_zero, List.set_cons_succ]
  refine' wpAnyH_take (i := 4) (v := _) rfl (by kernel_rfl) (by kernel_rfl) (by kernel_rfl) (fun _ _ _ h => h) (Or.inl ⟨by rfl, ?gy3⟩) (by assumption) ?gr3
  case gy3 => (intro w hSw; (try dsimp only at hSw); go_simp; (try with_reducible rfl))
  try simp only [List.getElem_toArray, List.getElem_cons_zero, List.getElem_cons_succ, Act.put, List.setIfInBounds_toArray, List.set_cons_zero, List.set_cons_succ]
  refine' wpAnyH_take (i := 5) (v := _) rfl (by kernel_rfl) (by kernel_rfl) (by kernel_rfl) (fun _ _ _ h => h) (Or.inl ⟨by rfl, ?gy4⟩) (by assumption) ?gr4
  case gy4 => (intro w hSw; (try dsimp only at hSw); go_simp; (try with_reducible rfl))
  try simp only [List.getElem_toArray, List.getElem_cons_zero, List.getElem_cons_succ, Act.put, List.setIfInBounds_toArray, List.set_cons_zero, List.set_cons_succ]
  refine' wpAnyH_take (i := 6) (v := _) rfl (by kernel_rfl) (by kernel_rfl) (by kernel_rfl) (fun _ _ _ h => h) (Or.inl ⟨by rfl, ?gy5⟩) (by assumption) ?gr5
  case gy5 => (intro w hSw; (try dsimp only at hSw); go_simp; (try with_reducible rfl))
  try simp only [List.getElem_toArray, List.getElem_cons_zero, List.getElem_cons_succ, Act.put, List.setIfInBounds_toArray, List.set_cons_zero, List.set_cons_succ]
  refine' wpAnyH_take (i := 8) (v := _) rfl (by kernel_rfl) (by kernel_rfl) (by kernel_rfl) (fun _ _ _ h => h) (Or.inl ⟨by rfl, ?gy6⟩) (by assumption) ?gr6
  case gy6 => (intro w hSw; (try dsimp only at hSw); go_simp; (try with_reducible rfl))
  try simp only [List.getElem_toArray, List.getElem_cons_zero, List.getElem_cons_succ, Act.put, List.setIfInBounds_toArray, List.set_cons_zero, List.set_cons_succ]
  refine' wpAnyH_take (i := 9) (v := _) rfl (by kernel_rfl) (by kernel_rfl) (by kernel_rfl) (fun _ _ _ h => h) (Or.inl ⟨by rfl, ?gy7⟩) (by assumption) ?gr7
  case gy7 => (intro w hSw; (try dsimp only at hSw); go_simp; (try with_reducible rfl))
  try simp only [List.getElem_toArray, List.getElem_cons_zero, List.getElem_cons_succ, Act.put, List.setIfInBounds_toArray, List.set_cons_zero, List.set_cons_succ]
  refine' wpAnyH_take (i := 10) (v := _) rfl (by kernel_rfl) (by kernel_rfl) (by kernel_rfl) (fun _ _ _ h => h) (Or.inl ⟨by rfl, ?gy8⟩) (by assumption) ?gr8
  case gy8 => (intro w hSw; (try dsimp only at hSw); go_simp; (try with_reducible rfl))
  try simp only [List.getElem_toArray, List.getElem_cons_zero, List.getElem_cons_succ, Act.put, List.setIfInBounds_toArray, List.set_cons_zero, List.set_cons_succ]
  refine t3_0_0 (W0 := (W3 w vars n cap K 0 A B C).drew) (W := (W3 w vars n cap K 0 A B C).drew) AT1 AT2 AT3 HS (fun W p11 p12 p13 hB z11 z12 z13 n1112 n1113 n1213 => ?_) (Below.refl _ _) (by kernel_rfl) (by rfl)
  clear hHeld AT1 AT2 AT3 HS n1112 n1113 n1213
  have I4 := HI.out W hB
  have SA : Hid (SeenAt W p11 ia ta N sa) := SB.seen z11 KA.out.1 I4.bel
  have SB' : Hid (SeenAt W p12 ib tb N sb) := SB.seen z12 KA.out.2.1 I4.bel
  have SC : Hid (SeenAt W p13 ic tc N sc) := SB.seen z13 KA.out.2.2 I4.bel
  have q1 := I4.cv
  have q2 := I4.ck
  have q3 := I4.cA
  have q4 := I4.cB
  have q5 := I4.cC
  have a0 := SA.out.c0
  have b0 := SB'.out.c0
  have g0 := SC.out.c0
  have D4 := I4.bel
  clear z11 z12 z13 KA HI hB
  clear SB' SC I4
  have lp : p11 < W.heap.size := World.block_lt_of_cell? W _ a0
  clear SA
  dsimp only [tmT]
  cases v1 : decide (A < 0)
  · cases v2 : decide ((vars : Int) ≤ A)
    · exact absurd hbad (by rw [v1, v2]; simp)
    · clear hbad
      go_wp2_with fail
      go_ret3
      exact ⟨rfl, D4⟩
  · clear hbad
    go_wp2_with fail
    go_ret3
    exact ⟨rfl, D4⟩
set_option maxHeartbeats 8000000 in
set_option maxRecDepth 100000 in
theorem toldBad_5 {w : World} {vars n cap K : Nat} {A B C : Int} {ja jb jc ia ib ic ta tb tc N : Nat} {sa sb sc : Nat → Bool} (hn : 0 < n) (hn2 : n < 1000) (hK : K < w.heap.size) (kA : KnAt w K n A ja ia ta N sa) (kB : KnAt w K n B jb ib tb N sb) (kC : KnAt w K n C jc ic tc N sc) (hbad : (decide (B < 0) || decide ((vars : Int) ≤ B)) = true) :
    Calls Try.prog 16 #[.int .i64 (vars : Int), .slice (some ⟨K, 0, none⟩) n cap, .agg #[.int .i64 5, .int .i64 A, .int .i64 B, .int .i64 C]] w fun e w' => ∃ I, e = .returned (.tuple #[.slice none 0 0, .slice (some ⟨I, 0, none⟩) 1 1, .bool false]) ∧ w.heap.size ≤ I ∧ I < w'.heap.size ∧ w'.cell? ⟨I, 0, none⟩ = some (.int .i64 (ia : Int)) ∧ Below w.heap.size w w' := by
  have I0 := in3_start w vars n cap K 5 A B C
  have I1 := I0.drew
  have AT1 : Hid (∀ W, Below (W3 w vars n cap K 5 A B C).drew.heap.size (W3 w vars n cap K 5 A B C).drew W → Calls Try.prog 56 #[.int .i64 A, .pointer (some ⟨w.heap.size + 1, 0, none⟩)] W fun e w' => e = .returned (.agg #[.int .i64 (ia : Int), .slice (some ⟨ta, 0, none⟩) N N]) ∧ Below W.heap.size W w') := fun W hW => (I1.below hW).at hn hn2 hK kA
  have AT2 : Hid (∀ W, Below (W3 w vars n cap K 5 A B C).drew.heap.size (W3 w vars n cap K 5 A B C).drew W → Calls Try.prog 56 #[.int .i64 B, .pointer (some ⟨w.heap.size + 1, 0, none⟩)] W fun e w' => e = .returned (.agg #[.int .i64 (ib : Int), .slice (some ⟨tb, 0, none⟩) N N]) ∧ Below W.heap.size W w') := fun W hW => (I1.below hW).at hn hn2 hK kB
  have AT3 : Hid (∀ W, Below (W3 w vars n cap K 5 A B C).drew.heap.size (W3 w vars n cap K 5 A B C).drew W → Calls Try.prog 56 #[.int .i64 C, .pointer (some ⟨w.heap.size + 1, 0, none⟩)] W fun e w' => e = .returned (.agg #[.int .i64 (ic : Int), .slice (some ⟨tc, 0, none⟩) N N]) ∧ Below W.heap.size W w') := fun W hW => (I1.below hW).at hn hn2 hK kC
  have HI : Hid (∀ W, Below (W3 w vars n cap K 5 A B C).drew.heap.size (W3 w vars n cap K 5 A B C).drew W → In3 w W vars n cap K 5 A B C) := fun W hW => I1.below hW
  have HS : Hid (∀ W, Below (W3 w vars n cap K 5 A B C).drew.heap.size (W3 w vars n cap K 5 A B C).drew W → (fun w' : World => w'.cell? ⟨w.heap.size + 1 + 1, 1, none⟩ = some (.int .i64 A) ∧ w'.cell? ⟨w.heap.size + 1 + 1, 2, none⟩ = some (.int .i64 B) ∧ w'.cell? ⟨w.heap.size + 1 + 1, 3, none⟩ = some (.int .i64 C)) W) := fun W hW => ⟨(I1.below hW).cA, (I1.below hW).cB, (I1.below hW).cC⟩
  have KA : Hid (Tab w ta N sa ∧ Tab w tb N sb ∧ Tab w tc N sc) := ⟨kA.tab, kB.tab, kC.tab⟩
  clear kA kB kC I0 I1
  go_enter Try.func16, Try.ntmps16
  go_wp2_with fail
  refine wp_region_held_drew (S := (fun w' : World => w'.cell? ⟨w.heap.size + 1 + 1, 1, none⟩ = some (.int .i64 A) ∧ w'.cell? ⟨w.heap.size + 1 + 1, 2, none⟩ = some (.int .i64 B) ∧ w'.cell? ⟨w.heap.size + 1 + 1, 3, none⟩ = some (.int .i64 C))) (by kernel_rfl) (HS.out _ (Below.refl _ _)) (fun hHeld => ?_)
  refine' wpAnyH_take (i := 0) (v := _) rfl (by kernel_rfl) (by kernel_rfl) (by kernel_rfl) (fun _ _ _ h => h) (Or.inl ⟨by rfl, ?gy0⟩) (by assumption) ?gr0
  case gy0 => (intro w hSw; (try dsimp only at hSw); go_simp; (try with_reducible rfl))
  try simp only [List.getElem_toArray, List.getElem_cons_zero, Act.put, List.setIfInBounds_toArray, List.set_cons_zero, List.set_cons_succ]
  refine' wpAnyH_take (i := 1) (v := _) rfl (by kernel_rfl) (by kernel_rfl) (by kernel_rfl) (fun _ _ _ h => h) (Or.inl ⟨by rfl, ?gy1⟩) (by assumption) ?gr1
  case gy1 => (intro w hSw; (try dsimp only at hSw); go_simp; (try with_reducible rfl))
  try simp only [List.getElem_toArray, List.getElem_cons_zero, List.getElem_cons_succ, Act.put, List.setIfInBounds_toArray, List.set_cons_zero, List.set_cons_succ]
  refine' wpAnyH_take (i := 2) (v := _) rfl (by kernel_rfl) (by kernel_rfl) (by kernel_rfl) (fun _ _ _ h => h) (Or.inl ⟨by rfl, ?gy2⟩) (by assumption) ?gr2
  case gy2 => (intro w hSw; (try dsimp only at hSw); go_simp; (try with_reducible rfl))
  try simp only [List.getElem_toArray, List.getElem_cons_zero, List.getElem_cons_succ, Act.put, List.setIfInBounds_toArray, List.set_cons_zero, List.set_cons_succ]
  refine' wpAnyH_take (i := 4) (v := _) rfl (by kernel_rfl) (by kernel_rfl) (by kernel_rfl) (fun _ _ _ h => h) (Or.inl ⟨by rfl, ?gy3⟩) (by assumption) ?gr3
  case gy3 => (intro w hSw; (try dsimp only at hSw); go_simp; (try with_reducible rfl))
  try simp only [List.getElem_toArray, List.getElem_cons_zero, List.getElem_cons_succ, Act.put, List.setIfInBounds_toArray, List.set_cons_zero, List.set_cons_succ]
  refine' wpAnyH_take (i := 5) (v := _) rfl (by kernel_rfl) (by kernel_rfl) (by kernel_rfl) (fun _ _ _ h => h) (Or.inl ⟨by rfl, ?gy4⟩) (by assumption) ?gr4
  case gy4 => (intro w hSw; (try dsimp only at hSw); go_simp; (try with_reducible rfl))
  try simp only [List.getElem_toArray, List.getElem_cons_zero, List.getElem_cons_succ, Act.put, List.setIfInBounds_toArray, List.set_cons_zero, List.set_cons_succ]
  refine' wpAnyH_take (i := 6) (v := _) rfl (by kernel_rfl) (by kernel_rfl) (by kernel_rfl) (fun _ _ _ h => h) (Or.inl ⟨by rfl, ?gy5⟩) (by assumption) ?gr5
  case gy5 => (intro w hSw; (try dsimp only at hSw); go_simp; (try with_reducible rfl))
  try simp only [List.getElem_toArray, List.getElem_cons_zero, List.getElem_cons_succ, Act.put, List.setIfInBounds_toArray, List.set_cons_zero, List.set_cons_succ]
  refine' wpAnyH_take (i := 8) (v := _) rfl (by kernel_rfl) (by kernel_rfl) (by kernel_rfl) (fun _ _ _ h => h) (Or.inl ⟨by rfl, ?gy6⟩) (by assumption) ?gr6
  case gy6 => (intro w hSw; (try dsimp only at hSw); go_simp; (try with_reducible rfl))
  try simp only [List.getElem_toArray, List.getElem_cons_zero, List.getElem_cons_succ, Act.put, List.setIfInBounds_toArray, List.set_cons_zero, List.set_cons_succ]
  refine' wpAnyH_take (i := 9) (v := _) rfl (by kernel_rfl) (by kernel_rfl) (by kernel_rfl) (fun _ _ _ h => h) (Or.inl ⟨by rfl, ?gy7⟩) (by assumption) ?gr7
  case gy7 => (intro w hSw; (try dsimp only at hSw); go_simp; (try with_reducible rfl))
  try simp only [List.getElem_toArray, List.getElem_cons_zero, List.getElem_cons_succ, Act.put, List.setIfInBounds_toArray, List.set_cons_zero, List.set_cons_succ]
  refine' wpAnyH_take (i := 10) (v := _) rfl (by kernel_rfl) (by kernel_rfl) (by kernel_rfl) (fun _ _ _ h => h) (Or.inl ⟨by rfl, ?gy8⟩) (by assumption) ?gr8
  case gy8 => (intro w hSw; (try dsimp only at hSw); go_simp; (try with_reducible rfl))
  try simp only [List.getElem_toArray, List.getElem_cons_zero, List.getElem_cons_succ, Act.put, List.setIfInBounds_toArray, List.set_cons_zero, List.set_cons_succ]
  refine t3_0_0 (W0 := (W3 w vars n cap K 5 A B C).drew) (W := (W3 w vars n cap K 5 A B C).drew) AT1 AT2 AT3 HS (fun W p11 p12 p13 hB z11 z12 z13 n1112 n1113 n1213 => ?_) (Below.refl _ _) (by kernel_rfl) (by rfl)
  clear hHeld AT1 AT2 AT3 HS n1112 n1113 n1213
  have I4 := HI.out W hB
  have SA : Hid (SeenAt W p11 ia ta N sa) := SB.seen z11 KA.out.1 I4.bel
  have SB' : Hid (SeenAt W p12 ib tb N sb) := SB.seen z12 KA.out.2.1 I4.bel
  have SC : Hid (SeenAt W p13 ic tc N sc) := SB.seen z13 KA.out.2.2 I4.bel
  have q1 := I4.cv
  have q2 := I4.ck
  have q3 := I4.cA
  have q4 := I4.cB
  have q5 := I4.cC
  have a0 := SA.out.c0
  have b0 := SB'.out.c0
  have g0 := SC.out.c0
  have D4 := I4.bel
  clear z11 z12 z13 KA HI hB
  clear SB' SC I4
  have lp : p11 < W.heap.size := World.block_lt_of_cell? W _ a0
  clear SA
  dsimp only [tmT]
  cases v1 : decide (B < 0)
  · cases v2 : decide ((vars : Int) ≤ B)
    · exact absurd hbad (by rw [v1, v2]; simp)
    · clear hbad
      go_wp2_with fail
      go_region
      go_wp2_with fail
      go_ret3
      exact ⟨W.heap.size, rfl, D4.size, by simp, by simp [go_sem], Below.al (Below.drew D4) _⟩
  · clear hbad
    go_wp2_with fail
    go_region
    go_wp2_with fail
    go_ret3
    exact ⟨W.heap.size, rfl, D4.size, by simp, by simp [go_sem], Below.al (Below.drew D4) _⟩
set_option maxHeartbeats 8000000 in
set_option maxRecDepth 100000 in
theorem toldBad_6 {w : World} {vars n cap K : Nat} {A B C : Int} {ja jb jc ia ib ic ta tb tc N : Nat} {sa sb sc : Nat → Bool} (hn : 0 < n) (hn2 : n < 1000) (hK : K < w.heap.size) (kA : KnAt w K n A ja ia ta N sa) (kB : KnAt w K n B jb ib tb N sb) (kC : KnAt w K n C jc ic tc N sc) (hbad : (decide (B < 0) || decide ((vars : Int) ≤ B) || decide (C < 0) || decide ((vars : Int) ≤ C)) = true) :
    Calls Try.prog 16 #[.int .i64 (vars : Int), .slice (some ⟨K, 0, none⟩) n cap, .agg #[.int .i64 6, .int .i64 A, .int .i64 B, .int .i64 C]] w fun e w' => ∃ I, e = .returned (.tuple #[.slice none 0 0, .slice (some ⟨I, 0, none⟩) 1 1, .bool false]) ∧ w.heap.size ≤ I ∧ I < w'.heap.size ∧ w'.cell? ⟨I, 0, none⟩ = some (.int .i64 (ia : Int)) ∧ Below w.heap.size w w' := by
  have I0 := in3_start w vars n cap K 6 A B C
  have I1 := I0.drew
  have AT1 : Hid (∀ W, Below (W3 w vars n cap K 6 A B C).drew.heap.size (W3 w vars n cap K 6 A B C).drew W → Calls Try.prog 56 #[.int .i64 A, .pointer (some ⟨w.heap.size + 1, 0, none⟩)] W fun e w' => e = .returned (.agg #[.int .i64 (ia : Int), .slice (some ⟨ta, 0, none⟩) N N]) ∧ Below W.heap.size W w') := fun W hW => (I1.below hW).at hn hn2 hK kA
  have AT2 : Hid (∀ W, Below (W3 w vars n cap K 6 A B C).drew.heap.size (W3 w vars n cap K 6 A B C).drew W → Calls Try.prog 56 #[.int .i64 B, .pointer (some ⟨w.heap.size + 1, 0, none⟩)] W fun e w' => e = .returned (.agg #[.int .i64 (ib : Int), .slice (some ⟨tb, 0, none⟩) N N]) ∧ Below W.heap.size W w') := fun W hW => (I1.below hW).at hn hn2 hK kB
  have AT3 : Hid (∀ W, Below (W3 w vars n cap K 6 A B C).drew.heap.size (W3 w vars n cap K 6 A B C).drew W → Calls Try.prog 56 #[.int .i64 C, .pointer (some ⟨w.heap.size + 1, 0, none⟩)] W fun e w' => e = .returned (.agg #[.int .i64 (ic : Int), .slice (some ⟨tc, 0, none⟩) N N]) ∧ Below W.heap.size W w') := fun W hW => (I1.below hW).at hn hn2 hK kC
  have HI : Hid (∀ W, Below (W3 w vars n cap K 6 A B C).drew.heap.size (W3 w vars n cap K 6 A B C).drew W → In3 w W vars n cap K 6 A B C) := fun W hW => I1.below hW
  have HS : Hid (∀ W, Below (W3 w vars n cap K 6 A B C).drew.heap.size (W3 w vars n cap K 6 A B C).drew W → (fun w' : World => w'.cell? ⟨w.heap.size + 1 + 1, 1, none⟩ = some (.int .i64 A) ∧ w'.cell? ⟨w.heap.size + 1 + 1, 2, none⟩ = some (.int .i64 B) ∧ w'.cell? ⟨w.heap.size + 1 + 1, 3, none⟩ = some (.int .i64 C)) W) := fun W hW => ⟨(I1.below hW).cA, (I1.below hW).cB, (I1.below hW).cC⟩
  have KA : Hid (Tab w ta N sa ∧ Tab w tb N sb ∧ Tab w tc N sc) := ⟨kA.tab, kB.tab, kC.tab⟩
  clear kA kB kC I0 I1
  go_enter Try.func16, Try.ntmps16
  go_wp2_with fail
  refine wp_region_held_drew (S := (fun w' : World => w'.cell? ⟨w.heap.size + 1 + 1, 1, none⟩ = some (.int .i64 A) ∧ w'.cell? ⟨w.heap.size + 1 + 1, 2, none⟩ = some (.int .i64 B) ∧ w'.cell? ⟨w.heap.size + 1 + 1, 3, none⟩ = some (.int .i64 C))) (by kernel_rfl) (HS.out _ (Below.refl _ _)) (fun hHeld => ?_)
  refine' wpAnyH_take (i := 0) (v := _) rfl (by kernel_rfl) (by kernel_rfl) (by kernel_rfl) (fun _ _ _ h => h) (Or.inl ⟨by rfl, ?gy0⟩) (by assumption) ?gr0
  case gy0 => (intro w hSw; (try dsimp only at hSw); go_simp; (try with_reducible rfl))
  try simp only [List.getElem_toArray, List.getElem_cons_zero, Act.put, List.setIfInBounds_toArray, List.set_cons_zero, List.set_cons_succ]
  refine' wpAnyH_take (i := 1) (v := _) rfl (by kernel_rfl) (by kernel_rfl) (by kernel_rfl) (fun _ _ _ h => h) (Or.inl ⟨by rfl, ?gy1⟩) (by assumption) ?gr1
  case gy1 => (intro w hSw; (try dsimp only at hSw); go_simp; (try with_reducible rfl))
  try simp only [List.getElem_toArray, List.getElem_cons_zero, List.getElem_cons_succ, Act.put, List.setIfInBounds_toArray, List.set_cons_zero, List.set_cons_succ]
  refine' wpAnyH_take (i := 2) (v := _) rfl (by kernel_rfl) (by kernel_rfl) (by kernel_rfl) (fun _ _ _ h => h) (Or.inl ⟨by rfl, ?gy2⟩) (by assumption) ?gr2
  case gy2 => (intro w hSw; (try dsimp only at hSw); go_simp; (try with_reducible rfl))
  try simp only [List.getElem_toArray, List.getElem_cons_zero, List.getElem_cons_succ, Act.put, List.setIfInBounds_toArray, List.set_cons_zero, List.set_cons_succ]
  refine' wpAnyH_take (i := 4) (v := _) rfl (by kernel_rfl) (by kernel_rfl) (by kernel_rfl) (fun _ _ _ h => h) (Or.inl ⟨by rfl, ?gy3⟩) (by assumption) ?gr3
  case gy3 => (intro w hSw; (try dsimp only at hSw); go_simp; (try with_reducible rfl))
  try simp only [List.getElem_toArray, List.getElem_cons_zero, List.getElem_cons_succ, Act.put, List.setIfInBounds_toArray, List.set_cons_zero, List.set_cons_succ]
  refine' wpAnyH_take (i := 5) (v := _) rfl (by kernel_rfl) (by kernel_rfl) (by kernel_rfl) (fun _ _ _ h => h) (Or.inl ⟨by rfl, ?gy4⟩) (by assumption) ?gr4
  case gy4 => (intro w hSw; (try dsimp only at hSw); go_simp; (try with_reducible rfl))
  try simp only [List.getElem_toArray, List.getElem_cons_zero, List.getElem_cons_succ, Act.put, List.setIfInBounds_toArray, List.set_cons_zero, List.set_cons_succ]
  refine' wpAnyH_take (i := 6) (v := _) rfl (by kernel_rfl) (by kernel_rfl) (by kernel_rfl) (fun _ _ _ h => h) (Or.inl ⟨by rfl, ?gy5⟩) (by assumption) ?gr5
  case gy5 => (intro w hSw; (try dsimp only at hSw); go_simp; (try with_reducible rfl))
  try simp only [List.getElem_toArray, List.getElem_cons_zero, List.getElem_cons_succ, Act.put, List.setIfInBounds_toArray, List.set_cons_zero, List.set_cons_succ]
  refine' wpAnyH_take (i := 8) (v := _) rfl (by kernel_rfl) (by kernel_rfl) (by kernel_rfl) (fun _ _ _ h => h) (Or.inl ⟨by rfl, ?gy6⟩) (by assumption) ?gr6
  case gy6 => (intro w hSw; (try dsimp only at hSw); go_simp; (try with_reducible rfl))
  try simp only [List.getElem_toArray, List.getElem_cons_zero, List.getElem_cons_succ, Act.put, List.setIfInBounds_toArray, List.set_cons_zero, List.set_cons_succ]
  refine' wpAnyH_take (i := 9) (v := _) rfl (by kernel_rfl) (by kernel_rfl) (by kernel_rfl) (fun _ _ _ h => h) (Or.inl ⟨by rfl, ?gy7⟩) (by assumption) ?gr7
  case gy7 => (intro w hSw; (try dsimp only at hSw); go_simp; (try with_reducible rfl))
  try simp only [List.getElem_toArray, List.getElem_cons_zero, List.getElem_cons_succ, Act.put, List.setIfInBounds_toArray, List.set_cons_zero, List.set_cons_succ]
  refine' wpAnyH_take (i := 10) (v := _) rfl (by kernel_rfl) (by kernel_rfl) (by kernel_rfl) (fun _ _ _ h => h) (Or.inl ⟨by rfl, ?gy8⟩) (by assumption) ?gr8
  case gy8 => (intro w hSw; (try dsimp only at hSw); go_simp; (try with_reducible rfl))
  try simp only [List.getElem_toArray, List.getElem_cons_zero, List.getElem_cons_succ, Act.put, List.setIfInBounds_toArray, List.set_cons_zero, List.set_cons_succ]
  refine t3_0_0 (W0 := (W3 w vars n cap K 6 A B C).drew) (W := (W3 w vars n cap K 6 A B C).drew) AT1 AT2 AT3 HS (fun W p11 p12 p13 hB z11 z12 z13 n1112 n1113 n1213 => ?_) (Below.refl _ _) (by kernel_rfl) (by rfl)
  clear hHeld AT1 AT2 AT3 HS n1112 n1113 n1213
  have I4 := HI.out W hB
  have SA : Hid (SeenAt W p11 ia ta N sa) := SB.seen z11 KA.out.1 I4.bel
  have SB' : Hid (SeenAt W p12 ib tb N sb) := SB.seen z12 KA.out.2.1 I4.bel
  have SC : Hid (SeenAt W p13 ic tc N sc) := SB.seen z13 KA.out.2.2 I4.bel
  have q1 := I4.cv
  have q2 := I4.ck
  have q3 := I4.cA
  have q4 := I4.cB
  have q5 := I4.cC
  have a0 := SA.out.c0
  have b0 := SB'.out.c0
  have g0 := SC.out.c0
  have D4 := I4.bel
  clear z11 z12 z13 KA HI hB
  clear SB' SC I4
  have lp : p11 < W.heap.size := World.block_lt_of_cell? W _ a0
  clear SA
  dsimp only [tmT]
  cases v1 : decide (B < 0)
  · cases v2 : decide ((vars : Int) ≤ B)
    · cases v3 : decide (C < 0)
      · cases v4 : decide ((vars : Int) ≤ C)
        · exact absurd hbad (by rw [v1, v2, v3, v4]; simp)
        · clear hbad
          go_wp2_with fail
          go_region
          go_wp2_with fail
          go_ret3
          exact ⟨W.heap.size, rfl, D4.size, by simp, by simp [go_sem], Below.al (Below.drew D4) _⟩
      · clear hbad
        go_wp2_with fail
        go_region
        go_wp2_with fail
        go_ret3
        exact ⟨W.heap.size, rfl, D4.size, by simp, by simp [go_sem], Below.al (Below.drew D4) _⟩
    · clear hbad
      go_wp2_with fail
      go_region
      go_wp2_with fail
      go_ret3
      exact ⟨W.heap.size, rfl, D4.size, by simp, by simp [go_sem], Below.al (Below.drew D4) _⟩
  · clear hbad
    go_wp2_with fail
    go_region
    go_wp2_with fail
    go_ret3
    exact ⟨W.heap.size, rfl, D4.size, by simp, by simp [go_sem], Below.al (Below.drew D4) _⟩
end Go.Proofs.Ytgcimcpcnoojnaa


