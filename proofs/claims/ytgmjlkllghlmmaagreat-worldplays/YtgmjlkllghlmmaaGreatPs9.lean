/-
  StepPlays: what follows the switch.
-/
import Derived.Test.YtgmjlkllghlmmaaGreatLy
import Derived.Test.YtgmjlkllghlmmaaGreatPs1
namespace Go.Proofs.YtgmjlkllghlmmaaGreat
open Go.RowKit Go.Maps

theorem step_slice1 {P : Program} {w : World} {ops : Array Oper} {o : Oper} {a : Act} {K : Act → World → Prop} {Q : Exit → Act → World → Prop} {E : Prop} (hgd : o.guard = none) (x : Operand) (t : TypeId) (ho : o.op = .buildSlice t 1 #[(0, x)]) (v : Value) (hx : a.eval x = v) (v' : Value) (w' : World) (hr : (Instr.buildSlice t 1 #[(0, v)]).run P w = .ok v' w') (h : K (a.put o.dst v') w') :
    if Region.wanted o (yielded ops a.tmps) = true then Oper.wp P o a w K Q else E := by
  have hw : Region.wanted o (yielded ops a.tmps) = true := by simp [Region.wanted, hgd]
  rw [if_pos hw]
  unfold Oper.wp execOp
  simp only [ho, List.map_toArray, List.map_cons, List.map_nil, hx, Sem.run_bind, hr, Result.andThen_ok]
  exact h
theorem fact_slice (f : Ft) (w : World) : (Instr.buildSlice 33 1 #[(0, .agg #[.int .i64 f.i, .int .i64 f.p.s, .int .i64 f.p.d, .int .i64 f.p.sp, .int .i64 f.p.dp, .int .i64 f.n])]).run Tryz.prog w = .ok (.slice (some ⟨w.heap.size, 0, none⟩) 1 1) (w.alloc (.cells #[.int .i64 f.i, .int .i64 f.p.s, .int .i64 f.p.d, .int .i64 f.p.sp, .int .i64 f.p.dp, .int .i64 f.n] 101)) := by
  go_simp
theorem MOut.drewN {w W : World} {g : Nat} {A L : Option Addr} {c d : Nat} {F : Option Addr} {ds : List Dv} {ls : List Lk} {FL : List Ft} (h : MOut w g A L c d F ds ls FL W) (n : Nat) : MOut w g A L c d F ds ls FL (W.drewN n) := by
  obtain ⟨F', cF', h1, h2, h3⟩ := h
  have hb : Below W.heap.size W (W.drewN n) := belowNN (Below.refl _ _) n
  exact ⟨F', cF', h1.drewN n, ⟨hb.os.trans h2.os, hb.tape.trans h2.tape, hb.output.trans h2.output, Nat.le_trans h2.size hb.size, fun b q1 q2 q3 => (hb.block b (Nat.lt_of_lt_of_le q1 h2.size)).trans (h2.block b q1 q2 q3)⟩, h3⟩
theorem Bk.more {W w7 : World} {g : Nat} {A L : Option Addr} {c d : Nat} {F : Option Addr} {cF : Nat} {ds : List Dv} {ls : List Lk} {FL : List Ft} {k : Nat} {cs : Array Value} {t : TypeId} {v7 : Value} (h : MnAt W g A L c d F cF ds ls FL) (hB : Bk W k cs t) (ht : t ≠ 101) (hm : t ≠ 35) (K7 : KeptB W w7 (Value.slice F FL.length cF).ownBlock) : Bk (w7.setCell ⟨g, 2, none⟩ v7) k cs t := by
  have hk : k ≠ g := fun e => by
    have hg := h.blk
    rw [← e] at hg
    unfold Bk at hg hB
    rw [hB] at hg
    simp only [Option.some.injEq, Obj.cells.injEq] at hg
    exact hm hg.2.1
  refine (Below.heap_setCell w7 ⟨g, 2, none⟩ v7 k hk).trans ((K7.block k hB.lt (fun e => ?_)).trans hB)
  obtain ⟨_, _, cur, h2⟩ := own_block h.facts e.symm
  unfold Bk at hB
  rw [hB] at h2
  simp only [Option.some.injEq, Obj.cells.injEq] at h2
  exact ht h2.2.1
def plOf : Option (Int × Int) → Int × Int
  | none => (0, 0)
  | some t => t
theorem placeV_of (x : Option (Int × Int)) : placeV x = .agg #[.int .i64 (plOf x).1, .int .i64 (plOf x).2] := by cases x <;> rfl
set_option maxHeartbeats 8000000 in
set_option maxRecDepth 1000000 in
theorem re_any {w w8 : World} {g b o : Nat} {L : Option Addr} {c d : Nat} {F : Option Addr} {cF : Nat} {ds : List Dv} {ls : List Lk} {FL : List Ft} {j : Nat} {q : Int} {p : Pk} {ch : Int} {dv : Dv} {Ab Ar At : Option Addr} {nb cb nr cr nt ct : Nat} {D Q : Nat} {G : Pk → World → Prop} {r : MR} {kd : Int} {v14 : Value} (FX : HFacts w g (some ⟨b, o, none⟩) L c d F cF ds ls FL (j : Int) q p ch dv kd (.slice Ab nb cb) (.slice Ar nr cr) (.slice At nt ct) D Q G) (G8 : G r.p w8) (K8 : KN r.k v14 w8) (hfl : FL.length ≤ 5000) (R : Ending → World → Prop) (hbad : Hid (∀ (a : Act) (W : World), a.defers = [] → a.eval (.tmp 8) = .pointer (some ⟨w.heap.size + 1 + 1 + 1, 0, none⟩) → a.eval (.tmp 9) = .int .i64 7 → (r.out = false ∨ peerF ls (j : Int) r.port = none) → Bk W (w.heap.size + 1 + 1 + 1) #[.int .i64 0, .int .i64 0, .int .i64 0, .int .i64 0, .int .i64 0, .int .i64 0] 43 → MOut w g (some ⟨b, o, none⟩) L c d F ds ls FL W → QZ R .ret a W)) (hok : Hid (∀ (a : Act) (W : World) (t : Int × Int), r.out = true → peerF ls (j : Int) r.port = some t → a.defers = [] → a.eval (.tmp 8) = .pointer (some ⟨w.heap.size + 1 + 1 + 1, 0, none⟩) → a.eval (.tmp 9) = .int .i64 0 → Bk W (w.heap.size + 1 + 1 + 1) #[.int .i64 t.1, .int .i64 t.2, .int .i64 r.p.s, .int .i64 r.p.d, .int .i64 r.p.sp, .int .i64 r.p.dp] 43 → MOut w g (some ⟨b, o, none⟩) L c d F ds ls (addF FL r.k) W → QZ R .ret a W)) (c1 c2 c3 c4 c15 c16 c17 c18 c19 c20 c21 c22 c23 c24 c25 c26 c27 c28 c29 c30 c31 c32 c33 c34 c35 c36 c37 c38 c39 c40 c41 c42 c43 c44 c45 c46 c47 c48 c49 c50 c51 c52 c53 c54 c55 c56 c57 c58 c59 c60 c61 c62 c63 c64 c65 c66 c67 c68 c69 c70 c71 c72 c73 c74 c75 c76 c77 c78 c79 c80 c81 c82 c83 c84 c85 c86 c87 c88 c89 c90 c91 c92 c93 c94 c95 c96 c97 c98 c99 c100 c101 c102 c103 c104 c105 c106 c107 c108 c109 c110 c111 c112 c113 c114 c115 c116 c117 c118 c119 c120 c121 c122 c123 c124 c125 c126 c127 c128 c129 c130 c131 c132 c133 c134 c135 c136 c137 c138 c139 c140 c141 c142 c143 c144 c145 c146 c147 c148 c149 c150 c151 c152 c153 c154 c155 c156 c157 c158 c159 c160 c161 c162 c163 c164 c165 c166 c167 c168 c169 c170 c171 c172 c173 c174 c175 c176 c177 c178 c179 c180 c181 c182 c183 c184 c185 c186 c187 c188 c189 c190 c191 c192 c193 c194 c195 c196 c197 c198 c199 c200 c201 c202 c203 c204 c205 c206 c207 c208 c209 c210 c211 c212 c213 c214 c215 c216 c217 c218 c219 c220 c221 c222 c223 c224 c225 c226 c227 c228 c229 c230 c231 c232 c233 c234 c235 c236 c237 c238 c239 c240 c241 c242 c243 c244 c245 c246 c247 c248 c249 c250 c251 c252 c253 c254 c255 c256 c257 c258 c259 c260 c261 c262 c263 c264 c265 c266 c267 c268 c269 c270 c271 c272 c273 c274 c275 c276 c277 c278 c279 c280 c281 c282 c283 c284 c285 c286 c287 c288 c289 c290 c291 c292 c293 c294 c295 c296 c297 c298 : Value) : reCode.wp Tryz.prog (QZ R) ⟨#[.pointer (some ⟨g, 0, none⟩), c1, c2, c3, c4, .pointer (some ⟨w.heap.size, 0, none⟩), .pointer (some ⟨w.heap.size + 1, 0, none⟩), .pointer (some ⟨w.heap.size + 1 + 1, 0, none⟩), .pointer (some ⟨w.heap.size + 1 + 1 + 1, 0, none⟩), .int .i64 0, .pointer (some ⟨D, 0, none⟩), .bool r.out, .int .i64 r.port, .pointer (some ⟨Q, 0, none⟩), v14, c15, c16, c17, c18, c19, c20, c21, c22, c23, c24, c25, c26, c27, c28, c29, c30, c31, c32, c33, c34, c35, c36, c37, c38, c39, c40, c41, c42, c43, c44, c45, c46, c47, c48, c49, c50, c51, c52, c53, c54, c55, c56, c57, c58, c59, c60, c61, c62, c63, c64, c65, c66, c67, c68, c69, c70, c71, c72, c73, c74, c75, c76, c77, c78, c79, c80, c81, c82, c83, c84, c85, c86, c87, c88, c89, c90, c91, c92, c93, c94, c95, c96, c97, c98, c99, c100, c101, c102, c103, c104, c105, c106, c107, c108, c109, c110, c111, c112, c113, c114, c115, c116, c117, c118, c119, c120, c121, c122, c123, c124, c125, c126, c127, c128, c129, c130, c131, c132, c133, c134, c135, c136, c137, c138, c139, c140, c141, c142, c143, c144, c145, c146, c147, c148, c149, c150, c151, c152, c153, c154, c155, c156, c157, c158, c159, c160, c161, c162, c163, c164, c165, c166, c167, c168, c169, c170, c171, c172, c173, c174, c175, c176, c177, c178, c179, c180, c181, c182, c183, c184, c185, c186, c187, c188, c189, c190, c191, c192, c193, c194, c195, c196, c197, c198, c199, c200, c201, c202, c203, c204, c205, c206, c207, c208, c209, c210, c211, c212, c213, c214, c215, c216, c217, c218, c219, c220, c221, c222, c223, c224, c225, c226, c227, c228, c229, c230, c231, c232, c233, c234, c235, c236, c237, c238, c239, c240, c241, c242, c243, c244, c245, c246, c247, c248, c249, c250, c251, c252, c253, c254, c255, c256, c257, c258, c259, c260, c261, c262, c263, c264, c265, c266, c267, c268, c269, c270, c271, c272, c273, c274, c275, c276, c277, c278, c279, c280, c281, c282, c283, c284, c285, c286, c287, c288, c289, c290, c291, c292, c293, c294, c295, c296, c297, c298], []⟩ w8 := by
  conv => arg 2; whnf
  dsimp only
  have GD : G r.p w8.drew := FX.keep G8 (Below.refl _ _).drew
  have GW := GD
  have KW : KN r.k v14 w8.drew := K8.keep (Below.refl _ _).drew
  go_upto_region 49 with fail
  go_cut [21, 22] from 252 to 263 (fun v21 v22 wx => ∃ P, v21 = .pointer (some ⟨P, 0, none⟩) ∧ Bk wx P #[.int .i64 (plOf (peerF ls (j : Int) r.port)).1, .int .i64 (plOf (peerF ls (j : Int) r.port)).2] 37 ∧ v22 = .bool (peerF ls (j : Int) r.port).isSome ∧ KN r.k v14 wx ∧ G r.p wx)
  case first =>
    refine wp_region_held_drew (S := fun w' => w'.cell? ⟨g, 0, none⟩ = some (.slice (some ⟨b, o, none⟩) ds.length c) ∧ w'.cell? ⟨g, 1, none⟩ = some (.slice L ls.length d) ∧ w'.cell? ⟨w.heap.size, 0, none⟩ = some (.int .i64 (j : Int))) (by kernel_rfl) ⟨(FX.cg GW).1, (FX.cg GW).2.1, (FX.ca GW).1⟩ (fun hHeld => ?_)
    refine' tk 0 rfl (by kernel_rfl) (fun _ _ _ h => h) (by rfl) (by assumption) ?y15 ?r15
    case y15 => (intro w h; (try dsimp only at h); go_simp; (try with_reducible rfl))
    try simp only [lays]
    refine' tk 1 rfl (by kernel_rfl) (fun _ _ _ h => h) (by rfl) (by assumption) ?y16 ?r16
    case y16 => (intro w h; (try dsimp only at h); go_simp; (try with_reducible rfl))
    try simp only [lays]
    refine' tk 2 rfl (by kernel_rfl) (fun _ _ _ h => h) (by rfl) (by assumption) ?y17 ?r17
    case y17 => (intro w h; (try dsimp only at h); go_simp; (try with_reducible rfl))
    try simp only [lays]
    refine' tk 3 rfl (by kernel_rfl) (fun _ _ _ h => h) (by rfl) (by assumption) ?y18 ?r18
    case y18 => (intro w h; (try dsimp only at h); go_simp; (try with_reducible rfl))
    try simp only [lays]
    refine' tk 4 rfl (by kernel_rfl) (fun _ _ _ h => h) (by rfl) (by assumption) ?y19 ?r19
    case y19 => (intro w h; (try dsimp only at h); go_simp; (try with_reducible rfl))
    try simp only [lays]
    refine' tk 5 rfl (by kernel_rfl) (fun _ _ _ h => h) (by rfl) (by assumption) ?y20 ?r20
    case y20 => (intro w h; (try dsimp only at h); go_simp; (try with_reducible rfl))
    try simp only [lays]
    refine' tk 6 rfl (by kernel_rfl) (fun _ _ _ h => h) (by rfl) (by assumption) ?y21 ?r21
    case y21 => (intro w h; (try dsimp only at h); go_simp; (try with_reducible rfl))
    try simp only [lays]
    refine' wpAnyH_take (i := 7) (v := _) rfl (by kernel_rfl) (by kernel_rfl) (by kernel_rfl) (fun _ _ _ h => h) (yields_build2 (by rfl) 37 _ _ 0 1 (by rfl) _ _ _ (fun w => pl_build2 (j : Int) r.port w) (by rfl) (by rfl)) (by assumption) ?gr22
    try simp only [lays]
    refine wpAnyH_ready (rs := [8, 12]) (by kernel_rfl) (by simp) (AllReadyH.cons rfl (fun K hK => ?_) ?_)
    · as_aux_lemma =>
        go_simp
        refine (FX.peer GD r.port).mono ?_
        rintro e w9 ⟨rfl, hb9⟩
        rw [placeV_of]
        dsimp only
        have G9 := FX.keep GD hb9
        try go_wp2_with fail
        clear hHeld
        refine hK.out _ _ (⟨(FX.cg G9).1, (FX.cg G9).2.1, (FX.ca G9).1⟩) (fun hHeld => ?_)
        clear hK K
        try simp only [lays]
        refine' tk 9 rfl (by kernel_rfl) (fun _ _ _ h => h) (by rfl) (by assumption) ?y23 ?r23
        case y23 => (intro w h; (try dsimp only at h); go_simp; (try with_reducible rfl))
        try simp only [lays]
        refine' tk 10 rfl (by kernel_rfl) (fun _ _ _ h => h) (by rfl) (by assumption) ?y24 ?r24
        case y24 => (intro w h; (try dsimp only at h); go_simp; (try with_reducible rfl))
        try simp only [lays]
        refine' tk 11 rfl (by kernel_rfl) (fun _ _ _ h => h) (by rfl) (by assumption) ?y25 ?r25
        case y25 => (intro w h; (try dsimp only at h); go_simp; (try with_reducible rfl))
        try simp only [lays]
        have GA := FX.keep G9 ((Below.refl w9.heap.size w9).alloc (Nat.le_refl _) (.cells #[.int .i64 0, .int .i64 0] 37))
        refine wpAnyH_ready (rs := [12]) (by kernel_rfl) (by simp) (AllReadyH.cons rfl (fun K hK => ?_) AllReadyH.nil)
        go_simp
        skip
        try go_wp2_with fail
        clear hHeld
        refine hK.out _ _ (⟨(FX.cg GA).1, (FX.cg GA).2.1, (FX.ca GA).1⟩) (fun hHeld => ?_)
        clear hK K
        try simp only [lays]
        have GA' := FX.keep G9 ((Below.refl w9.heap.size w9).alloc (Nat.le_refl _) (.cells #[.int .i64 (plOf (peerF ls (j : Int) r.port)).1, .int .i64 (plOf (peerF ls (j : Int) r.port)).2] 37))
        refine wpAnyH_ready (rs := [13]) (by kernel_rfl) (by simp) (AllReadyH.cons rfl (fun K hK => ?_) AllReadyH.nil)
        go_simp
        skip
        try go_wp2_with fail
        clear hHeld
        refine hK.out _ _ (⟨(FX.cg GA').1, (FX.cg GA').2.1, (FX.ca GA').1⟩) (fun hHeld => ?_)
        clear hK K
        try simp only [lays]
        refine' tk 14 rfl (by kernel_rfl) (fun _ _ _ h => h) (by rfl) (by assumption) ?y26 ?r26
        case y26 => (intro w h; (try dsimp only at h); go_simp; (try with_reducible rfl))
        try simp only [lays]
        refine wpAnyH_done (by kernel_rfl) ?_ _
        repeat (first | go_guarded | go_step)
        go_meet
        exact ⟨_, rfl, bk_new w9 _ _, rfl, (KW.keep hb9).keep ((Below.refl w9.heap.size w9).alloc (Nat.le_refl _) _), GA'⟩
    refine AllReadyH.cons rfl (fun K hK => ?_) AllReadyH.nil
    as_aux_lemma =>
      have GZ := FX.keep GD ((Below.refl w8.drew.heap.size w8.drew).alloc (Nat.le_refl _) (.cells #[.int .i64 0, .int .i64 0] 37))
      have BZ := bk_new' w8.drew #[.int .i64 0, .int .i64 0] 37 w8.heap.size rfl
      have KZ := KW.keep ((Below.refl w8.drew.heap.size w8.drew).alloc (Nat.le_refl _) (.cells #[.int .i64 0, .int .i64 0] 37))
      go_simp
      skip
      try go_wp2_with fail
      clear hHeld
      refine hK.out _ _ (⟨(FX.cg GZ).1, (FX.cg GZ).2.1, (FX.ca GZ).1⟩) (fun hHeld => ?_)
      clear hK K
      try simp only [lays]
      refine wpAnyH_ready (rs := [8]) (by kernel_rfl) (by simp) (AllReadyH.cons rfl (fun K hK => ?_) AllReadyH.nil)
      go_simp
      refine (FX.peer GZ r.port).mono ?_
      rintro e w9 ⟨rfl, hb9⟩
      rw [placeV_of]
      dsimp only
      have G9 := FX.keep GZ hb9
      try go_wp2_with fail
      clear hHeld
      refine hK.out _ _ (⟨(FX.cg G9).1, (FX.cg G9).2.1, (FX.ca G9).1⟩) (fun hHeld => ?_)
      clear hK K
      try simp only [lays]
      refine' tk 9 rfl (by kernel_rfl) (fun _ _ _ h => h) (by rfl) (by assumption) ?y27 ?r27
      case y27 => (intro w h; (try dsimp only at h); go_simp; (try with_reducible rfl))
      try simp only [lays]
      refine' tk 10 rfl (by kernel_rfl) (fun _ _ _ h => h) (by rfl) (by assumption) ?y28 ?r28
      case y28 => (intro w h; (try dsimp only at h); go_simp; (try with_reducible rfl))
      try simp only [lays]
      refine' tk 11 rfl (by kernel_rfl) (fun _ _ _ h => h) (by rfl) (by assumption) ?y29 ?r29
      case y29 => (intro w h; (try dsimp only at h); go_simp; (try with_reducible rfl))
      try simp only [lays]
      have B9 := BZ.keep hb9
      have hbb : Below w8.drew.heap.size w8.drew w9 := ((Below.refl w8.drew.heap.size w8.drew).alloc (Nat.le_refl _) (.cells #[.int .i64 0, .int .i64 0] 37)).trans (hb9.mono (by simp))
      have hbs := (hbb.setCell (p := ⟨w8.heap.size, 0, none⟩) (Nat.le_refl _) (.int .i64 (plOf (peerF ls (j : Int) r.port)).1)).setCell (p := ⟨w8.heap.size, 1, none⟩) (Nat.le_refl _) (.int .i64 (plOf (peerF ls (j : Int) r.port)).2)
      have GS := FX.keep GD hbs
      have KS := KW.keep hbs
      have BS := (B9.setS (j := 0) (.int .i64 (plOf (peerF ls (j : Int) r.port)).1)).setS (j := 1) (.int .i64 (plOf (peerF ls (j : Int) r.port)).2)
      obtain ⟨x0, x1⟩ := B9.two
      have x2 := B9.fz 0
      have x3 := B9.fz 1
      refine wpAnyH_ready (rs := [13]) (by kernel_rfl) (by simp) (AllReadyH.cons rfl (fun K hK => ?_) AllReadyH.nil)
      go_simp
      skip
      try go_wp2_with fail
      clear hHeld
      refine hK.out _ _ (⟨(FX.cg GS).1, (FX.cg GS).2.1, (FX.ca GS).1⟩) (fun hHeld => ?_)
      clear hK K
      try simp only [lays]
      refine' tk 14 rfl (by kernel_rfl) (fun _ _ _ h => h) (by rfl) (by assumption) ?y30 ?r30
      case y30 => (intro w h; (try dsimp only at h); go_simp; (try with_reducible rfl))
      try simp only [lays]
      refine wpAnyH_done (by kernel_rfl) ?_ _
      repeat (first | go_guarded | go_step)
      go_meet
      exact ⟨_, rfl, BS, rfl, KS, GS⟩
  case rest =>
    obtain ⟨P, rfl, BP, rfl, KX, GX⟩ := hcut
    clear GD GW KW K8 G8
    cases ho : r.out
    · as_aux_lemma =>
        have R9 := FX.cr GX
        obtain ⟨⟨l0, l1, l2, l3, l4, l5⟩, ⟨f0, f1, f2, f3, f4, f5⟩⟩ := R9.six
        have hf : Hid (MOut w g (some ⟨b, o, none⟩) L c d F ds ls FL wc) := MOut.same (FX.mn GX) (FX.bl GX)
        have RQ : Hid (Bk _ _ _ _) := R9
        have hGG := FX.hb
        clear R9 BP GX KX
        repeat (first | go_guarded | go_step)
        exact hbad.out _ _ rfl rfl rfl (Or.inl ho) (Bk.zero6 RQ.out) (MOut.set6 hf.out RQ.out hGG (by omega) (by decide))
    cases hpe : peerF ls (j : Int) r.port
    · as_aux_lemma =>
        have R9 := FX.cr GX
        obtain ⟨⟨l0, l1, l2, l3, l4, l5⟩, ⟨f0, f1, f2, f3, f4, f5⟩⟩ := R9.six
        have hf : Hid (MOut w g (some ⟨b, o, none⟩) L c d F ds ls FL wc) := MOut.same (FX.mn GX) (FX.bl GX)
        have RQ : Hid (Bk _ _ _ _) := R9
        have hGG := FX.hb
        clear R9 BP GX KX
        repeat (first | go_guarded | go_step)
        exact hbad.out _ _ rfl rfl rfl (Or.inr hpe) (Bk.zero6 RQ.out) (MOut.set6 hf.out RQ.out hGG (by omega) (by decide))
    rename_i t
    have BPt : Bk wc P #[.int .i64 t.1, .int .i64 t.2] 37 := by rw [hpe] at BP; exact BP
    clear BP hbad
    cases hk : r.k
    · have hv14 : v14 = .pointer none := by rw [hk] at KX; exact KX
      subst hv14
      as_aux_lemma =>
        have BQt := FX.bq GX
        have BRt := FX.cr GX
        have hMM : Hid (∀ n, MOut w g (some ⟨b, o, none⟩) L c d F ds ls (addF FL r.k) (wc.drewN n)) := fun n => by
          rw [show addF FL r.k = FL by rw [hk]; rfl]
          exact MOut.same ((FX.mn GX).drewN n) (belowNN (FX.bl GX) n)
        repeat (first | go_guarded | go_step)
        go_quiet (fail)
        obtain ⟨t0, t1⟩ := BPt.two
        obtain ⟨q0, q1, q2, q3, q9⟩ := BQt.four
        clear q9
        obtain ⟨⟨l0, l1, l2, l3, l4, l5⟩, ⟨f0, f1, f2, f3, f4, f5⟩⟩ := BRt.six
        have hGG := FX.hb
        have RQ : Hid (∀ n, Bk (World.drewN wc n) _ _ _) := fun n => BRt.drewN n
        clear BPt BQt BRt
        go_upto_region 54 with fail
        go_step
        go_step
        go_step
        go_step
        go_step
        go_step
        go_step
        go_step
        refine wp_build2 43 _ _ 0 1 (by rfl) _ _ _ (arrival_build _ _ r.p _) (by rfl) (by rfl) ?_
        repeat (first | go_guarded | go_step)
        exact hok.out _ _ t ho hpe rfl rfl rfl (((((((RQ.out _).setS _).setS _).setS _).setS _).setS _).setS _) (MOut.set6 (hMM.out _) (RQ.out _) hGG (by omega) (by decide))
    rename_i f
    obtain ⟨K, hv14, BK⟩ : ∃ K, v14 = .pointer (some ⟨K, 0, none⟩) ∧ Bk wc K #[.int .i64 f.i, .int .i64 f.p.s, .int .i64 f.p.d, .int .i64 f.p.sp, .int .i64 f.p.dp, .int .i64 f.n] 101 := by rw [hk] at KX; exact KX
    subst hv14
    have GY : G r.p wc.drew := FX.keep GX (Below.refl _ _).drew
    have BKd : Bk wc.drew K #[.int .i64 f.i, .int .i64 f.p.s, .int .i64 f.p.d, .int .i64 f.p.sp, .int .i64 f.p.dp, .int .i64 f.n] 101 := BK
    have BPd : Bk wc.drew P #[.int .i64 t.1, .int .i64 t.2] 37 := BPt
    have c2 := (FX.cg GY).2.2
    obtain ⟨⟨k0, k1, k2, k3, k4, k5⟩, kx⟩ := BKd.six
    clear kx KX
    repeat (first | go_guarded | go_step)
    go_cut [283] from 271 to 283 (fun v283 wx => v283 = .bool (!FL.any (fun x => ftB x f)) ∧ G r.p wx ∧ Bk wx K #[.int .i64 f.i, .int .i64 f.p.s, .int .i64 f.p.d, .int .i64 f.p.sp, .int .i64 f.p.dp, .int .i64 f.n] 101 ∧ Bk wx P #[.int .i64 t.1, .int .i64 t.2] 37)
    case first =>
      go_region_held3 (fun w' => w'.cell? ⟨g, 2, none⟩ = some (.slice F FL.length cF) ∧ w'.cell? ⟨K, 0, none⟩ = some (.int .i64 f.i) ∧ w'.cell? ⟨K, 1, none⟩ = some (.int .i64 f.p.s) ∧ w'.cell? ⟨K, 2, none⟩ = some (.int .i64 f.p.d) ∧ w'.cell? ⟨K, 3, none⟩ = some (.int .i64 f.p.sp) ∧ w'.cell? ⟨K, 4, none⟩ = some (.int .i64 f.p.dp) ∧ w'.cell? ⟨K, 5, none⟩ = some (.int .i64 f.n)) (go_keep) ((go_at_call 44; refine (FX.cont GY f).mono ?_; rintro e w10 ⟨rfl, hb10⟩; have G10 := FX.keep GY hb10; have BK10 := BKd.keep hb10; have BP10 := BPd.keep hb10; have c2' := (FX.cg G10).2.2; obtain ⟨⟨k0', k1', k2', k3', k4', k5'⟩, kx'⟩ := BK10.six))
      repeat (first | go_guarded | go_step)
      go_meet
      exact ⟨rfl, G10, BK10, BP10⟩
    case rest =>
      clear GY BKd BPd c2 k0 k1 k2 k3 k4 k5 GX BK BPt
      obtain ⟨rfl, GX, BK, BPt⟩ := hcut
      cases hany : FL.any (fun x => ftB x f)
      rotate_left
      · as_aux_lemma =>
          have BQt := FX.bq GX
          have BRt := FX.cr GX
          have hMM : Hid (∀ n, MOut w g (some ⟨b, o, none⟩) L c d F ds ls (addF FL r.k) (wc.drewN n)) := fun n => by
            rw [show addF FL r.k = FL by rw [hk]; exact if_pos hany]
            exact MOut.same ((FX.mn GX).drewN n) (belowNN (FX.bl GX) n)
          obtain ⟨t0, t1⟩ := BPt.two
          obtain ⟨q0, q1, q2, q3, q9⟩ := BQt.four
          clear q9
          obtain ⟨⟨l0, l1, l2, l3, l4, l5⟩, ⟨f0, f1, f2, f3, f4, f5⟩⟩ := BRt.six
          have hGG := FX.hb
          have RQ : Hid (∀ n, Bk (World.drewN wc n) _ _ _) := fun n => BRt.drewN n
          clear BPt BQt BRt
          go_upto_region 54 with fail
          go_step
          go_step
          go_step
          go_step
          go_step
          go_step
          go_step
          go_step
          refine wp_build2 43 _ _ 0 1 (by rfl) _ _ _ (arrival_build _ _ r.p _) (by rfl) (by rfl) ?_
          repeat (first | go_guarded | go_step)
          exact hok.out _ _ t ho hpe rfl rfl rfl (((((((RQ.out 0).setS _).setS _).setS _).setS _).setS _).setS _) (MOut.set6 (hMM.out 0) (RQ.out 0) hGG (by omega) (by decide))
      as_aux_lemma =>
        have M3 := FX.mn (FX.keep GX (Below.refl wc.heap.size wc).drew)
        have hgl := M3.blk.lt
        obtain ⟨v7, w7, r7, O7, D7, K7, g7⟩ := app_el (w := wc.drew) uFts infoFt rfl (by omega) (by omega) 33 M3.facts (us := ftC f) rfl (ftC_one f) hfl (by omega)
        have r7' : (Builtin.append_ #[33, 33] 33 #[.slice F FL.length cF, .slice (some ⟨wc.heap.size, 0, none⟩) 1 1]).run Tryz.prog (wc.alloc (.cells #[.int .i64 f.i, .int .i64 f.p.s, .int .i64 f.p.d, .int .i64 f.p.sp, .int .i64 f.p.dp, .int .i64 f.n] 101)).drew = .ok v7 w7 := r7
        have hM7 := mout_more M3 (FX.bl (FX.keep GX (Below.refl wc.heap.size wc).drew)) O7 D7 K7 g7
        have BPt' := Bk.more M3 (show Bk wc.drew _ _ _ from BPt) (by decide) (by decide) K7 (v7 := v7)
        have BQt' := Bk.more M3 (FX.bq (FX.keep GX (Below.refl wc.heap.size wc).drew)) (by decide) (by decide) K7 (v7 := v7)
        have BRt' := Bk.more M3 (FX.cr (FX.keep GX (Below.refl wc.heap.size wc).drew)) (by decide) (by decide) K7 (v7 := v7)
        have hMM : Hid (∀ n, MOut w g (some ⟨b, o, none⟩) L c d F ds ls (addF FL r.k) ((w7.setCell ⟨g, 2, none⟩ v7).drewN n)) := fun n => by
          rw [show addF FL r.k = FL ++ [f] by rw [hk]; exact if_neg (by rw [hany]; exact Bool.false_ne_true)]
          exact hM7.drewN n
        have cg2 := (FX.cg GX).2.2
        have cg3 := (FX.cg (FX.keep GX ((Below.refl wc.heap.size wc).alloc (Nat.le_refl _) (.cells #[.int .i64 f.i, .int .i64 f.p.s, .int .i64 f.p.d, .int .i64 f.p.sp, .int .i64 f.p.dp, .int .i64 f.n] 101)))).2.2
        obtain ⟨⟨k0, k1, k2, k3, k4, k5⟩, kx⟩ := BK.six
        have B7 := D7.block g (by omega)
        have BG7 : Bk w7 g _ _ := B7.trans M3.blk
        have d7 := BG7.at 2
        have f7 := BG7.fz 2
        obtain ⟨A7, q7, hv7, xx7⟩ := own_sl O7
        subst hv7
        clear kx xx7 M3 r7 O7 D7 K7 g7 hM7 B7 BG7 GX BK BPt
        repeat (first | go_guarded | go_step)
        go_cut [283] from 284 to 295 (fun v283 wx => wx = w7.setCell ⟨g, 2, none⟩ (.slice A7 _ q7))
        case first =>
          refine wp_region_any (by kernel_rfl) ?_
          change wpAny _ _ _ _ _ _ _ (World.drew _)
          refine' wpAny_take (i := 0) (v := _) rfl (by kernel_rfl) (by kernel_rfl) (by kernel_rfl) (fun _ _ _ h => h) (Or.inl ⟨by rfl, ?gy31⟩) ?gr31
          case gy31 => (intro w; go_simp; (try with_reducible rfl))
          try simp only [lays]
          refine' wpAny_take (i := 1) (v := _) rfl (by kernel_rfl) (by kernel_rfl) (by kernel_rfl) (fun _ _ _ h => h) (Or.inl ⟨by rfl, ?gy32⟩) ?gr32
          case gy32 => (intro w; go_simp; (try with_reducible rfl))
          try simp only [lays]
          refine' wpAny_take (i := 2) (v := _) rfl (by kernel_rfl) (by kernel_rfl) (by kernel_rfl) (fun _ _ _ h => h) (Or.inl ⟨by rfl, ?gy33⟩) ?gr33
          case gy33 => (intro w; go_simp; (try with_reducible rfl))
          try simp only [lays]
          refine' wpAny_take (i := 3) (v := _) rfl (by kernel_rfl) (by kernel_rfl) (by kernel_rfl) (fun _ _ _ h => h) (Or.inl ⟨by rfl, ?gy34⟩) ?gr34
          case gy34 => (intro w; go_simp; (try with_reducible rfl))
          try simp only [lays]
          refine' wpAny_take (i := 5) (v := _) rfl (by kernel_rfl) (by kernel_rfl) (by kernel_rfl) (fun _ _ _ h => h) (Or.inl ⟨by rfl, ?gy35⟩) ?gr35
          case gy35 => (intro w; go_simp; (try with_reducible rfl))
          try simp only [lays]
          refine' wpAny_take (i := 6) (v := _) rfl (by kernel_rfl) (by kernel_rfl) (by kernel_rfl) (fun _ _ _ h => h) (Or.inl ⟨by rfl, ?gy36⟩) ?gr36
          case gy36 => (intro w; go_simp; (try with_reducible rfl))
          try simp only [lays]
          refine wpAny_ready (rs := [4, 7]) (by kernel_rfl) (by simp) ?_
          refine AllReady.cons rfl (fun K0 hK => ?_) ?_
          · go_simp
            refine hK _ _ ?_
            clear hK K0
            try simp only [lays]
            refine wpAny_ready (rs := [7]) (by kernel_rfl) (by simp) ?_
            refine AllReady.cons rfl (fun K0 hK => ?_) AllReady.nil
            go_simp
            refine hK _ _ ?_
            clear hK K0
            try simp only [lays]
            refine wpAny_ready (rs := [8]) (by kernel_rfl) (by simp) ?_
            refine AllReady.cons rfl (fun K0 hK => ?_) AllReady.nil
            refine step_slice1 (by rfl) _ _ (by rfl) _ (by rfl) _ _ (fact_slice f _) ?_
            refine hK _ _ ?_
            clear hK K0
            try simp only [lays]
            refine wpAny_ready (rs := [9]) (by kernel_rfl) (by simp) ?_
            refine AllReady.cons rfl (fun K0 hK => ?_) AllReady.nil
            refine step_append_run (by rfl) _ _ 33 (by rfl) _ _ _ w7 (by rfl) (by rfl) r7' ?_
            refine hK _ _ ?_
            clear hK K0
            try simp only [lays]
            refine' wpAny_take (i := 10) (v := _) rfl (by kernel_rfl) (by kernel_rfl) (by kernel_rfl) (fun _ _ _ h => h) (Or.inl ⟨by rfl, ?gy37⟩) ?gr37
            case gy37 => (intro w; go_simp; (try with_reducible rfl))
            try simp only [lays]
            refine' wpAny_take (i := 11) (v := _) rfl (by kernel_rfl) (by kernel_rfl) (by kernel_rfl) (fun _ _ _ h => h) (Or.inl ⟨by rfl, ?gy38⟩) ?gr38
            case gy38 => (intro w; go_simp; (try with_reducible rfl))
            try simp only [lays]
            refine wpAny_ready (rs := [12]) (by kernel_rfl) (by simp) ?_
            refine AllReady.cons rfl (fun K0 hK => ?_) AllReady.nil
            go_simp
            refine hK _ _ ?_
            clear hK K0
            try simp only [lays]
            refine wpAny_done (by kernel_rfl) ?_ _
            repeat (first | go_guarded | go_step)
            go_meet
            rfl
          refine AllReady.cons rfl (fun K0 hK => ?_) AllReady.nil
          go_simp
          refine hK _ _ ?_
          clear hK K0
          try simp only [lays]
          refine wpAny_ready (rs := [4, 8]) (by kernel_rfl) (by simp) ?_
          refine AllReady.cons rfl (fun K0 hK => ?_) ?_
          · go_simp
            refine hK _ _ ?_
            clear hK K0
            try simp only [lays]
            refine wpAny_ready (rs := [8]) (by kernel_rfl) (by simp) ?_
            refine AllReady.cons rfl (fun K0 hK => ?_) AllReady.nil
            refine step_slice1 (by rfl) _ _ (by rfl) _ (by rfl) _ _ (fact_slice f _) ?_
            refine hK _ _ ?_
            clear hK K0
            try simp only [lays]
            refine wpAny_ready (rs := [9]) (by kernel_rfl) (by simp) ?_
            refine AllReady.cons rfl (fun K0 hK => ?_) AllReady.nil
            refine step_append_run (by rfl) _ _ 33 (by rfl) _ _ _ w7 (by rfl) (by rfl) r7' ?_
            refine hK _ _ ?_
            clear hK K0
            try simp only [lays]
            refine' wpAny_take (i := 10) (v := _) rfl (by kernel_rfl) (by kernel_rfl) (by kernel_rfl) (fun _ _ _ h => h) (Or.inl ⟨by rfl, ?gy39⟩) ?gr39
            case gy39 => (intro w; go_simp; (try with_reducible rfl))
            try simp only [lays]
            refine' wpAny_take (i := 11) (v := _) rfl (by kernel_rfl) (by kernel_rfl) (by kernel_rfl) (fun _ _ _ h => h) (Or.inl ⟨by rfl, ?gy40⟩) ?gr40
            case gy40 => (intro w; go_simp; (try with_reducible rfl))
            try simp only [lays]
            refine wpAny_ready (rs := [12]) (by kernel_rfl) (by simp) ?_
            refine AllReady.cons rfl (fun K0 hK => ?_) AllReady.nil
            go_simp
            refine hK _ _ ?_
            clear hK K0
            try simp only [lays]
            refine wpAny_done (by kernel_rfl) ?_ _
            repeat (first | go_guarded | go_step)
            go_meet
            rfl
          refine AllReady.cons rfl (fun K0 hK => ?_) AllReady.nil
          refine step_slice1 (by rfl) _ _ (by rfl) _ (by rfl) _ _ (fact_slice f _) ?_
          refine hK _ _ ?_
          clear hK K0
          try simp only [lays]
          refine wpAny_ready (rs := [4]) (by kernel_rfl) (by simp) ?_
          refine AllReady.cons rfl (fun K0 hK => ?_) AllReady.nil
          go_simp
          refine hK _ _ ?_
          clear hK K0
          try simp only [lays]
          refine wpAny_ready (rs := [9]) (by kernel_rfl) (by simp) ?_
          refine AllReady.cons rfl (fun K0 hK => ?_) AllReady.nil
          refine step_append_run (by rfl) _ _ 33 (by rfl) _ _ _ w7 (by rfl) (by rfl) r7' ?_
          refine hK _ _ ?_
          clear hK K0
          try simp only [lays]
          refine' wpAny_take (i := 10) (v := _) rfl (by kernel_rfl) (by kernel_rfl) (by kernel_rfl) (fun _ _ _ h => h) (Or.inl ⟨by rfl, ?gy41⟩) ?gr41
          case gy41 => (intro w; go_simp; (try with_reducible rfl))
          try simp only [lays]
          refine' wpAny_take (i := 11) (v := _) rfl (by kernel_rfl) (by kernel_rfl) (by kernel_rfl) (fun _ _ _ h => h) (Or.inl ⟨by rfl, ?gy42⟩) ?gr42
          case gy42 => (intro w; go_simp; (try with_reducible rfl))
          try simp only [lays]
          refine wpAny_ready (rs := [12]) (by kernel_rfl) (by simp) ?_
          refine AllReady.cons rfl (fun K0 hK => ?_) AllReady.nil
          go_simp
          refine hK _ _ ?_
          clear hK K0
          try simp only [lays]
          refine wpAny_done (by kernel_rfl) ?_ _
          repeat (first | go_guarded | go_step)
          go_meet
          rfl
        case rest =>
          subst hcut
          obtain ⟨t0, t1⟩ := BPt'.two
          obtain ⟨q0, q1, q2, q3, q9⟩ := BQt'.four
          clear q9
          obtain ⟨⟨l0, l1, l2, l3, l4, l5⟩, ⟨f0, f1, f2, f3, f4, f5⟩⟩ := BRt'.six
          have hGG := FX.hb
          have RQ : Hid (∀ n, Bk (World.drewN (w7.setCell ⟨g, 2, none⟩ (.slice A7 _ q7)) n) _ _ _) := fun n => BRt'.drewN n
          clear BPt' BQt' BRt'
          go_upto_region 54 with fail
          go_step
          go_step
          go_step
          go_step
          go_step
          go_step
          go_step
          go_step
          refine wp_build2 43 _ _ 0 1 (by rfl) _ _ _ (arrival_build _ _ r.p _) (by rfl) (by rfl) ?_
          repeat (first | go_guarded | go_step)
          exact hok.out _ _ t ho hpe rfl rfl rfl (((((((RQ.out 0).setS _).setS _).setS _).setS _).setS _).setS _) (MOut.set6 (hMM.out 0) (RQ.out 0) hGG (by omega) (by decide))
end Go.Proofs.YtgmjlkllghlmmaaGreat
