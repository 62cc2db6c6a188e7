/-
  StepPlays: the switch, kind 4 at port 0.
-/
import Derived.Test.YthioedgnambomaaGreatLy
import Derived.Test.YthioedgnambomaaGreatXAL
namespace Go.Proofs.YthioedgnambomaaGreat
open Go.RowKit Go.Maps

set_option maxHeartbeats 8000000 in
set_option maxRecDepth 1000000 in
theorem sw_k4b {w w8 : World} {g b o : Nat} {L : Option Addr} {c d : Nat} {F : Option Addr} {cF : Nat} {ds : List Dv} {ls : List Lk} {FL : List Ft} {j : Nat} {q : Int} {p : Pk} {ch : Int} {dv : Dv} {Ab Ar At : Option Addr} {nb cb nr cr nt ct : Nat} {D Q : Nat} {G : Pk → World → Prop} {r : MR} (HR : Hid (mSend dv FL (j : Int) q p ch = r)) (HKK : Hid (dv.kind = 4)) (hq0 : q = 0) (FX : HFacts w g (some ⟨b, o, none⟩) L c d F cF ds ls FL (j : Int) q p ch dv 4 (.slice Ab nb cb) (.slice Ar nr cr) (.slice At nt ct) D Q G) (G8 : G p w8) (R : Ending → World → Prop) (hret : Hid (Rets w g (some ⟨b, o, none⟩) L c d F ds ls FL r (QZ R))) (c1 c2 c3 c4 c15 c16 c17 c18 c19 c20 c21 c22 c23 c24 c25 c26 c27 c28 c29 c30 c31 c32 c33 c34 c35 c36 c37 c38 c39 c40 c41 c42 c43 c44 c45 c46 c47 c48 c49 c50 c51 c52 c53 c54 c55 c56 c57 c58 c59 c60 c61 c62 c63 c64 c65 c66 c67 c68 c69 c70 c72 c73 c74 c75 c76 c77 c78 c79 c80 c81 c82 c83 c84 c85 c86 c87 c88 c89 c90 c91 c92 c93 c94 c95 c96 c97 c98 c99 c100 c101 c102 c103 c104 c105 c106 c107 c108 c109 c110 c111 c112 c113 c114 c115 c116 c117 c118 c119 c120 c121 c122 c123 c124 c125 c126 c127 c128 c129 c130 c131 c132 c133 c134 c135 c136 c137 c138 c139 c140 c141 c142 c143 c144 c145 c146 c147 c148 c149 c150 c151 c152 c153 c154 c155 c156 c157 c158 c159 c160 c161 c162 c163 c164 c165 c166 c167 c168 c169 c170 c171 c172 c173 c174 c175 c176 c177 c178 c179 c180 c181 c182 c183 c184 c185 c186 c187 c188 c189 c190 c191 c192 c193 c194 c195 c196 c197 c198 c199 c200 c201 c202 c203 c204 c205 c206 c207 c208 c209 c210 c211 c212 c213 c214 c215 c216 c217 c218 c219 c220 c221 c222 c223 c224 c225 c226 c227 c228 c229 c230 c231 c232 c233 c234 c235 c236 c237 c238 c239 c240 c241 c242 c243 c244 c245 c246 c247 c248 c249 c250 c251 c252 c253 c254 c255 c256 c257 c258 c259 c260 c261 c262 c263 c264 c265 c266 c267 c268 c269 c270 c271 c272 c273 c274 c275 c276 c277 c278 c279 c280 c281 c282 c283 c284 c285 c286 c287 c288 c289 c290 c291 c292 c293 c294 c295 c296 c297 c298 : Value) (J K' : Act → World → Prop) (h1 : ∀ a' w', SwR w g D Q 4 c1 c2 c3 c4 c21 c22 c23 c24 c25 c26 c27 c28 c29 c30 c31 c32 c33 c34 c35 c36 c37 c38 c39 c40 c41 c42 c43 c44 c45 c46 c47 c48 c49 c50 c51 c52 c53 c54 c55 c56 c57 c58 c59 c60 c61 c62 c63 c64 c65 c66 c67 c68 c69 c70 c252 c253 c254 c255 c256 c257 c258 c259 c260 c261 c262 c263 c264 c265 c266 c267 c268 c269 c270 c271 c272 c273 c274 c275 c276 c277 c278 c279 c280 c281 c282 c283 c284 c285 c286 c287 c288 c289 c290 c291 c292 c293 c294 c295 c296 c297 c298 (fun v11 v12 v14 wx => v11 = .bool r.out ∧ v12 = .int .i64 r.port ∧ KN r.k v14 wx ∧ G r.p wx ∧ r.err = 0) a' w' → J a' w') (h2 : ∀ a' w', Met J a' w' → K' a' w') : swCode.wp Tryz.prog (Exit.then K' (QZ R)) ⟨#[.pointer (some ⟨g, 0, none⟩), c1, c2, c3, c4, .pointer (some ⟨w.heap.size, 0, none⟩), .pointer (some ⟨w.heap.size + 1, 0, none⟩), .pointer (some ⟨w.heap.size + 1 + 1, 0, none⟩), .pointer (some ⟨w.heap.size + 1 + 1 + 1, 0, none⟩), .int .i64 0, .pointer (some ⟨D, 0, none⟩), .bool false, .int .i64 (1 - q), .pointer (some ⟨Q, 0, none⟩), .pointer none, c15, c16, c17, c18, c19, c20, c21, c22, c23, c24, c25, c26, c27, c28, c29, c30, c31, c32, c33, c34, c35, c36, c37, c38, c39, c40, c41, c42, c43, c44, c45, c46, c47, c48, c49, c50, c51, c52, c53, c54, c55, c56, c57, c58, c59, c60, c61, c62, c63, c64, c65, c66, c67, c68, c69, c70, .int .i64 4, c72, c73, c74, c75, c76, c77, c78, c79, c80, c81, c82, c83, c84, c85, c86, c87, c88, c89, c90, c91, c92, c93, c94, c95, c96, c97, c98, c99, c100, c101, c102, c103, c104, c105, c106, c107, c108, c109, c110, c111, c112, c113, c114, c115, c116, c117, c118, c119, c120, c121, c122, c123, c124, c125, c126, c127, c128, c129, c130, c131, c132, c133, c134, c135, c136, c137, c138, c139, c140, c141, c142, c143, c144, c145, c146, c147, c148, c149, c150, c151, c152, c153, c154, c155, c156, c157, c158, c159, c160, c161, c162, c163, c164, c165, c166, c167, c168, c169, c170, c171, c172, c173, c174, c175, c176, c177, c178, c179, c180, c181, c182, c183, c184, c185, c186, c187, c188, c189, c190, c191, c192, c193, c194, c195, c196, c197, c198, c199, c200, c201, c202, c203, c204, c205, c206, c207, c208, c209, c210, c211, c212, c213, c214, c215, c216, c217, c218, c219, c220, c221, c222, c223, c224, c225, c226, c227, c228, c229, c230, c231, c232, c233, c234, c235, c236, c237, c238, c239, c240, c241, c242, c243, c244, c245, c246, c247, c248, c249, c250, c251, c252, c253, c254, c255, c256, c257, c258, c259, c260, c261, c262, c263, c264, c265, c266, c267, c268, c269, c270, c271, c272, c273, c274, c275, c276, c277, c278, c279, c280, c281, c282, c283, c284, c285, c286, c287, c288, c289, c290, c291, c292, c293, c294, c295, c296, c297, c298], []⟩ w8 := by
  unfold SwR at h1
  conv => arg 2; whnf
  have d1 := (FX.cd G8).1
  have n2 : ¬ dv.kind = 2 := by rw [HKK.out]; decide
  have n3 : ¬ dv.kind = 3 := by rw [HKK.out]; decide
  subst hq0
  obtain ⟨a0, a1⟩ := FX.ca G8
  obtain ⟨p0, p1, p2, p3⟩ := FX.cp G8
  have GO := FX.keep G8 ((Below.refl w8.heap.size w8).alloc (Nat.le_refl _) (.cells #[.int .i64 p.s, .int .i64 0, .int .i64 p.sp, .int .i64 0] 29))
  have BO := bk_new w8 #[.int .i64 p.s, .int .i64 0, .int .i64 p.sp, .int .i64 0] 29
  go_upto_region 24 with fail
  go_step
  go_step
  go_step
  go_step
  go_step
  go_step
  go_step
  go_step
  go_step
  go_step
  go_step
  go_step
  go_step
  go_step
  refine wp_build2 29 _ _ 0 2 (by rfl) _ _ _ (pk_build2 p.s p.sp _) (by rfl) (by rfl) ?_
  repeat (first | go_guarded | go_step)
  refine (FX.f3 GO w8.heap.size ⟨p.s, 0, p.sp, 0⟩ BO).mono ?_
  rintro e w9 ⟨x, rfl, hx, hb9⟩
  dsimp only
  have G9 := FX.keep GO hb9
  have B9 := BO.keep hb9
  have c0 := FX.cc G9
  clear d1 a0 a1 p0 p1 p2 p3 GO BO hb9 G8
  generalize w8.heap.size = O at *
  rcases hx.out with ⟨rfl, hno⟩ | ⟨k, f, rfl, hk, hfd, jk⟩
  rotate_left
  · clear jk
    as_aux_lemma =>
      have hv : r = ⟨0, true, 1, ⟨dv.addr, p.d, f.n, p.dp⟩, some ⟨(j : Int), ⟨p.s, 0, p.sp, 0⟩, f.n⟩⟩ := by
        rw [← HR.out]
        unfold mSend
        rw [if_neg n2, if_neg n3, if_pos HKK.out, if_pos rfl, hfd]
      subst hv
      obtain ⟨fb, fo, hF, y1, y3, y5, uu1, uu2⟩ := FX.fact G9 hk
      have g2 := (FX.cg G9).2.2
      rw [hF] at g2
      clear HR n2 n3 hx hk hfd hF y1 y3 hret
      have AB := (Below.refl w9.heap.size w9).alloc (Nat.le_refl _) (.cells #[.int .i64 (j : Int), .int .i64 p.s, .int .i64 0, .int .i64 p.sp, .int .i64 0, .int .i64 f.n] 85)
      have GB := FX.keep G9 AB
      obtain ⟨a0, a1⟩ := FX.ca G9
      obtain ⟨o0, o1, o2, o3, jk⟩ := B9.four
      clear jk
      obtain ⟨b0, b1⟩ := FX.ca GB
      obtain ⟨r0, r1, r2, r3, jk⟩ := (B9.keep AB).four
      clear jk b1 a1
      have KB := bk_new w9 #[.int .i64 (j : Int), .int .i64 p.s, .int .i64 0, .int .i64 p.sp, .int .i64 0, .int .i64 f.n] 85
      go_upto_region 33 with fail
      go_cut [11, 14] from 180 to 185 (fun v11 v14 wx => v11 = .bool true ∧ ∃ K, v14 = .pointer (some ⟨K, 0, none⟩) ∧ Bk wx K #[.int .i64 (j : Int), .int .i64 p.s, .int .i64 0, .int .i64 p.sp, .int .i64 0, .int .i64 f.n] 85 ∧ G p wx)
      case first =>
        refine wp_region_held_drew (S := fun w' => w'.cell? ⟨w.heap.size, 0, none⟩ = some (.int .i64 (j : Int)) ∧ w'.cell? ⟨O, 0, none⟩ = some (.int .i64 p.s) ∧ w'.cell? ⟨O, 1, none⟩ = some (.int .i64 0) ∧ w'.cell? ⟨O, 2, none⟩ = some (.int .i64 p.sp) ∧ w'.cell? ⟨O, 3, none⟩ = some (.int .i64 0)) (by kernel_rfl) ⟨a0, o0, o1, o2, o3⟩ (fun hHeld => ?_)
        refine' tk 0 rfl (by kernel_rfl) (fun _ _ _ h => h) (by rfl) (by assumption) ?y1 ?r1
        case y1 => (intro w h; (try dsimp only at h); go_simp; (try with_reducible rfl))
        try simp only [lays]
        refine' tk 1 rfl (by kernel_rfl) (fun _ _ _ h => h) (by rfl) (by assumption) ?y2 ?r2
        case y2 => (intro w h; (try dsimp only at h); go_simp; (try with_reducible rfl))
        try simp only [lays]
        refine' tk 2 rfl (by kernel_rfl) (fun _ _ _ h => h) (by rfl) (by assumption) ?y3 ?r3
        case y3 => (intro w h; (try dsimp only at h); go_simp; (try with_reducible rfl))
        try simp only [lays]
        refine' tk 3 rfl (by kernel_rfl) (fun _ _ _ h => h) (by rfl) (by assumption) ?y4 ?r4
        case y4 => (intro w h; (try dsimp only at h); go_simp; (try with_reducible rfl))
        try simp only [lays]
        refine' wpAnyH_take (i := 4) (v := _) rfl (by kernel_rfl) (by kernel_rfl) (by kernel_rfl) (fun _ _ _ h => h) (yields_build3 (by rfl) 85 _ _ _ 0 1 2 (by rfl) _ _ _ _ (fun w => fact_build (j : Int) f.n ⟨p.s, 0, p.sp, 0⟩ w) (by rfl) (by rfl) (by rfl)) (by assumption) ?gr5
        try simp only [lays]
        refine' tk 6 rfl (by kernel_rfl) (fun _ _ _ h => h) (by rfl) (by assumption) ?y6 ?r6
        case y6 => (intro w h; (try dsimp only at h); go_simp; (try with_reducible rfl))
        try simp only [lays]
        refine wpAnyH_ready (rs := [5]) (by kernel_rfl) (by simp) (AllReadyH.cons rfl (fun K hK => ?_) AllReadyH.nil)
        go_simp
        skip
        try go_wp2_with fail
        clear hHeld
        refine hK.out _ _ (⟨b0, r0, r1, r2, r3⟩) (fun hHeld => ?_)
        clear hK K
        try simp only [lays]
        refine' tk 7 rfl (by kernel_rfl) (fun _ _ _ h => h) (by rfl) (by assumption) ?y7 ?r7
        case y7 => (intro w h; (try dsimp only at h); go_simp; (try with_reducible rfl))
        try simp only [lays]
        refine wpAnyH_done (by kernel_rfl) ?_ _
        repeat (first | go_guarded | go_step)
        go_meet
        first
          | exact ⟨rfl, _, rfl, KB, GB⟩
          | exact ⟨rfl, _, rfl, KB, FX.keep GB (Below.refl _ _).drew⟩
      case rest =>
        clear GB KB AB a0 o0 o1 o2 o3 b0 r0 r1 r2 r3
        obtain ⟨rfl, K, rfl, KB, GB⟩ := hcut
        have hKQ : K ≠ Q := fun e => by
          have hq := FX.bq GB
          rw [← e] at hq
          unfold Bk at KB hq
          rw [KB] at hq
          simp only [Option.some.injEq, Obj.cells.injEq] at hq
          exact absurd hq.2.1 (by decide)
        have d2 := (FX.cd GB).2.1
        obtain ⟨q0, q1, q2, q3, z0, z1, z2, z3⟩ := FX.cq GB
        have GC := FX.s2 (FX.s0 GB dv.addr) f.n
        have KC : Bk ((wc.setCell ⟨Q, 0, none⟩ (.int .i64 dv.addr)).setCell ⟨Q, 2, none⟩ (.int .i64 f.n)) K #[.int .i64 (j : Int), .int .i64 p.s, .int .i64 0, .int .i64 p.sp, .int .i64 0, .int .i64 f.n] 85 := (KB.setO hKQ _).setO hKQ _
        clear q1 q3 z1 z3
        repeat (first | go_guarded | go_step)
        go_meet
        exact ⟨rfl, by simp, ⟨K, rfl, KC⟩, GC, rfl⟩
  have IC : Hid (∀ W, Calls Tryz.prog 7 #[.int .i64 ch, .int .i64 0, .int .i64 7] W fun e w' => e = .returned (.bool (poB ch)) ∧ w' = W) := fun W => by
    have := finR ch 0 7 W
    rw [poB_in] at this
    exact this
  have HC : Hid (∀ W, Calls Tryz.prog 39 #[.int .i64 (dv.pool : Int), .int .i64 ch] W fun e w' => e = .returned (.bool (hasB dv.pool ch)) ∧ w' = W) := fun W => rhas_int dv.pool ch W (Nat.lt_trans dv.hp (by decide))
  have d3 := (FX.cd G9).2.2.1
  have hwp : wrap64 (dv.pool : Int) = (dv.pool : Int) := by
    have := dv.hp
    unfold wrap64
    omega
  clear hx
  repeat (first | go_guarded | go_step)
  refine (IC.out _).mono ?_
  rintro e w' ⟨rfl, hx⟩
  obtain rfl := hx.symm
  dsimp only
  cases hpo : poB ch
  · as_aux_lemma =>
      have hv : r = ⟨1, false, 0, p, none⟩ := by
        rw [← HR.out]
        unfold mSend
        rw [if_neg n2, if_neg n3, if_pos HKK.out, if_pos rfl, hno]
        show (if poolB dv ch = true then _ else _) = _
        rw [show poolB dv ch = false by unfold poolB; rw [hpo]; rfl, if_neg Bool.false_ne_true]
      subst hv
      clear HR HC IC
      have R9 := FX.cr G9
      obtain ⟨⟨l0, l1, l2, l3, l4, l5⟩, ⟨f0, f1, f2, f3, f4, f5⟩⟩ := R9.six
      have hf : Hid (MOut w g (some ⟨b, o, none⟩) L c d F ds ls FL w9) := MOut.same (FX.mn G9) (FX.bl G9)
      have RQ : Hid (Bk _ _ _ _) := R9
      have hGG := FX.hb
      clear R9
      repeat (first | go_guarded | go_step)
      exact hret.out _ _ rfl rfl rfl (show (1 : Int) ≠ 0 by decide) (Bk.zero6 RQ.out) (MOut.set6 hf.out RQ.out hGG (by omega) (by decide))
  have hhb : hasB dv.pool ch = poolB dv ch := hasB_pool hpo
  rw [hhb] at HC
  repeat (first | go_guarded | go_step)
  rw [hwp]
  refine (HC.out _).mono ?_
  rintro e w' ⟨rfl, hx⟩
  obtain rfl := hx.symm
  dsimp only
  cases hpl : poolB dv ch
  · as_aux_lemma =>
      have hv : r = ⟨1, false, 0, p, none⟩ := by
        rw [← HR.out]
        unfold mSend
        rw [if_neg n2, if_neg n3, if_pos HKK.out, if_pos rfl, hno]
        show (if poolB dv ch = true then _ else _) = _
        rw [hpl, if_neg Bool.false_ne_true]
      subst hv
      clear HR HC IC
      have R9 := FX.cr G9
      obtain ⟨⟨l0, l1, l2, l3, l4, l5⟩, ⟨f0, f1, f2, f3, f4, f5⟩⟩ := R9.six
      have hf : Hid (MOut w g (some ⟨b, o, none⟩) L c d F ds ls FL w9) := MOut.same (FX.mn G9) (FX.bl G9)
      have RQ : Hid (Bk _ _ _ _) := R9
      have hGG := FX.hb
      clear R9
      repeat (first | go_guarded | go_step)
      exact hret.out _ _ rfl rfl rfl (show (1 : Int) ≠ 0 by decide) (Bk.zero6 RQ.out) (MOut.set6 hf.out RQ.out hGG (by omega) (by decide))
  repeat (first | go_guarded | go_step)
  refine (FX.f4 G9).mono ?_
  rintro e w10 ⟨x, rfl, hx, hb10⟩
  dsimp only
  have GX := FX.keep G9 hb10
  have BX := B9.keep hb10
  clear c0 d3 HC IC hb10 G9 B9
  cases hal : FL.any (ofPort (j : Int) ch)
  rotate_left
  · as_aux_lemma =>
      have hv : r = ⟨6, false, 0, p, none⟩ := by
        rw [← HR.out]
        unfold mSend
        rw [if_neg n2, if_neg n3, if_pos HKK.out, if_pos rfl, hno]
        show (if poolB dv ch = true then _ else _) = _
        rw [hpl, if_pos rfl]
        show (if FL.any (ofPort (j : Int) ch) = true then _ else _) = _
        rw [hal, if_pos rfl]
      subst hv
      have hxa := idx_any hx.out
      rw [hal] at hxa
      clear HR hx
      have R9 := FX.cr GX
      obtain ⟨⟨l0, l1, l2, l3, l4, l5⟩, ⟨f0, f1, f2, f3, f4, f5⟩⟩ := R9.six
      have hf : Hid (MOut w g (some ⟨b, o, none⟩) L c d F ds ls FL w10) := MOut.same (FX.mn GX) (FX.bl GX)
      have RQ : Hid (Bk _ _ _ _) := R9
      have hGG := FX.hb
      clear R9
      repeat (first | go_guarded | go_step)
      exact hret.out _ _ rfl rfl rfl (show (6 : Int) ≠ 0 by decide) (Bk.zero6 RQ.out) (MOut.set6 hf.out RQ.out hGG (by omega) (by decide))
  as_aux_lemma =>
    have hv : r = ⟨0, true, 1, ⟨dv.addr, p.d, ch, p.dp⟩, some ⟨(j : Int), ⟨p.s, 0, p.sp, 0⟩, ch⟩⟩ := by
      rw [← HR.out]
      unfold mSend
      rw [if_neg n2, if_neg n3, if_pos HKK.out, if_pos rfl, hno]
      show (if poolB dv ch = true then _ else _) = _
      rw [hpl, if_pos rfl]
      show (if FL.any (ofPort (j : Int) ch) = true then _ else _) = _
      rw [hal, if_neg Bool.false_ne_true]
    subst hv
    have hxa := idx_any hx.out
    rw [hal] at hxa
    clear HR n2 n3 hx hret
    have AB := (Below.refl w10.heap.size w10).alloc (Nat.le_refl _) (.cells #[.int .i64 (j : Int), .int .i64 p.s, .int .i64 0, .int .i64 p.sp, .int .i64 0, .int .i64 ch] 85)
    have GB := FX.keep GX AB
    obtain ⟨a0, a1⟩ := FX.ca GX
    obtain ⟨o0, o1, o2, o3, jk⟩ := BX.four
    clear jk
    obtain ⟨b0, b1⟩ := FX.ca GB
    obtain ⟨r0, r1, r2, r3, jk⟩ := (BX.keep AB).four
    clear jk b1 a1
    have KB := bk_new w10 #[.int .i64 (j : Int), .int .i64 p.s, .int .i64 0, .int .i64 p.sp, .int .i64 0, .int .i64 ch] 85
    go_upto_region 33 with fail
    go_cut [11, 14] from 180 to 185 (fun v11 v14 wx => v11 = .bool true ∧ ∃ K, v14 = .pointer (some ⟨K, 0, none⟩) ∧ Bk wx K #[.int .i64 (j : Int), .int .i64 p.s, .int .i64 0, .int .i64 p.sp, .int .i64 0, .int .i64 ch] 85 ∧ G p wx)
    case first =>
      refine wp_region_held_drew (S := fun w' => w'.cell? ⟨w.heap.size, 0, none⟩ = some (.int .i64 (j : Int)) ∧ w'.cell? ⟨O, 0, none⟩ = some (.int .i64 p.s) ∧ w'.cell? ⟨O, 1, none⟩ = some (.int .i64 0) ∧ w'.cell? ⟨O, 2, none⟩ = some (.int .i64 p.sp) ∧ w'.cell? ⟨O, 3, none⟩ = some (.int .i64 0)) (by kernel_rfl) ⟨a0, o0, o1, o2, o3⟩ (fun hHeld => ?_)
      refine' tk 0 rfl (by kernel_rfl) (fun _ _ _ h => h) (by rfl) (by assumption) ?y8 ?r8
      case y8 => (intro w h; (try dsimp only at h); go_simp; (try with_reducible rfl))
      try simp only [lays]
      refine' tk 1 rfl (by kernel_rfl) (fun _ _ _ h => h) (by rfl) (by assumption) ?y9 ?r9
      case y9 => (intro w h; (try dsimp only at h); go_simp; (try with_reducible rfl))
      try simp only [lays]
      refine' tk 2 rfl (by kernel_rfl) (fun _ _ _ h => h) (by rfl) (by assumption) ?y10 ?r10
      case y10 => (intro w h; (try dsimp only at h); go_simp; (try with_reducible rfl))
      try simp only [lays]
      refine' tk 3 rfl (by kernel_rfl) (fun _ _ _ h => h) (by rfl) (by assumption) ?y11 ?r11
      case y11 => (intro w h; (try dsimp only at h); go_simp; (try with_reducible rfl))
      try simp only [lays]
      refine' wpAnyH_take (i := 4) (v := _) rfl (by kernel_rfl) (by kernel_rfl) (by kernel_rfl) (fun _ _ _ h => h) (yields_build3 (by rfl) 85 _ _ _ 0 1 2 (by rfl) _ _ _ _ (fun w => fact_build (j : Int) ch ⟨p.s, 0, p.sp, 0⟩ w) (by rfl) (by rfl) (by rfl)) (by assumption) ?gr12
      try simp only [lays]
      refine' tk 6 rfl (by kernel_rfl) (fun _ _ _ h => h) (by rfl) (by assumption) ?y13 ?r13
      case y13 => (intro w h; (try dsimp only at h); go_simp; (try with_reducible rfl))
      try simp only [lays]
      refine wpAnyH_ready (rs := [5]) (by kernel_rfl) (by simp) (AllReadyH.cons rfl (fun K hK => ?_) AllReadyH.nil)
      go_simp
      skip
      try go_wp2_with fail
      clear hHeld
      refine hK.out _ _ (⟨b0, r0, r1, r2, r3⟩) (fun hHeld => ?_)
      clear hK K
      try simp only [lays]
      refine' tk 7 rfl (by kernel_rfl) (fun _ _ _ h => h) (by rfl) (by assumption) ?y14 ?r14
      case y14 => (intro w h; (try dsimp only at h); go_simp; (try with_reducible rfl))
      try simp only [lays]
      refine wpAnyH_done (by kernel_rfl) ?_ _
      repeat (first | go_guarded | go_step)
      go_meet
      first
        | exact ⟨rfl, _, rfl, KB, GB⟩
        | exact ⟨rfl, _, rfl, KB, FX.keep GB (Below.refl _ _).drew⟩
    case rest =>
      clear GB KB AB a0 o0 o1 o2 o3 b0 r0 r1 r2 r3
      obtain ⟨rfl, K, rfl, KB, GB⟩ := hcut
      have hKQ : K ≠ Q := fun e => by
        have hq := FX.bq GB
        rw [← e] at hq
        unfold Bk at KB hq
        rw [KB] at hq
        simp only [Option.some.injEq, Obj.cells.injEq] at hq
        exact absurd hq.2.1 (by decide)
      have d2 := (FX.cd GB).2.1
      obtain ⟨q0, q1, q2, q3, z0, z1, z2, z3⟩ := FX.cq GB
      have GC := FX.s2 (FX.s0 GB dv.addr) ch
      have KC : Bk ((wc.setCell ⟨Q, 0, none⟩ (.int .i64 dv.addr)).setCell ⟨Q, 2, none⟩ (.int .i64 ch)) K #[.int .i64 (j : Int), .int .i64 p.s, .int .i64 0, .int .i64 p.sp, .int .i64 0, .int .i64 ch] 85 := (KB.setO hKQ _).setO hKQ _
      clear q1 q3 z1 z3
      repeat (first | go_guarded | go_step)
      go_meet
      exact ⟨rfl, by simp, ⟨K, rfl, KC⟩, GC, rfl⟩
end Go.Proofs.YthioedgnambomaaGreat



namespace Go.Proofs.YthioedgnambomaaGreat
open Go.RowKit Go.Maps

set_option maxHeartbeats 8000000 in
set_option maxRecDepth 1000000 in
theorem sw_k5a {w w8 : World} {g b o : Nat} {L : Option Addr} {c d : Nat} {F : Option Addr} {cF : Nat} {ds : List Dv} {ls : List Lk} {FL : List Ft} {j : Nat} {q : Int} {p : Pk} {ch : Int} {dv : Dv} {Ab Ar At : Option Addr} {nb cb nr cr nt ct : Nat} {D Q : Nat} {G : Pk → World → Prop} {r : MR} (HR : Hid (mSend dv FL (j : Int) q p ch = r)) (HKK : Hid (dv.kind = 5)) (hq4 : 0 ≤ q) (hq5 : q < 2) (hq0 : ¬ q = 0) (FX : HFacts w g (some ⟨b, o, none⟩) L c d F cF ds ls FL (j : Int) q p ch dv 5 (.slice Ab nb cb) (.slice Ar nr cr) (.slice At nt ct) D Q G) (G8 : G p w8) (R : Ending → World → Prop) (c1 c2 c3 c4 c15 c16 c17 c18 c19 c20 c21 c22 c23 c24 c25 c26 c27 c28 c29 c30 c31 c32 c33 c34 c35 c36 c37 c38 c39 c40 c41 c42 c43 c44 c45 c46 c47 c48 c49 c50 c51 c52 c53 c54 c55 c56 c57 c58 c59 c60 c61 c62 c63 c64 c65 c66 c67 c68 c69 c70 c72 c73 c74 c75 c76 c77 c78 c79 c80 c81 c82 c83 c84 c85 c86 c87 c88 c89 c90 c91 c92 c93 c94 c95 c96 c97 c98 c99 c100 c101 c102 c103 c104 c105 c106 c107 c108 c109 c110 c111 c112 c113 c114 c115 c116 c117 c118 c119 c120 c121 c122 c123 c124 c125 c126 c127 c128 c129 c130 c131 c132 c133 c134 c135 c136 c137 c138 c139 c140 c141 c142 c143 c144 c145 c146 c147 c148 c149 c150 c151 c152 c153 c154 c155 c156 c157 c158 c159 c160 c161 c162 c163 c164 c165 c166 c167 c168 c169 c170 c171 c172 c173 c174 c175 c176 c177 c178 c179 c180 c181 c182 c183 c184 c185 c186 c187 c188 c189 c190 c191 c192 c193 c194 c195 c196 c197 c198 c199 c200 c201 c202 c203 c204 c205 c206 c207 c208 c209 c210 c211 c212 c213 c214 c215 c216 c217 c218 c219 c220 c221 c222 c223 c224 c225 c226 c227 c228 c229 c230 c231 c232 c233 c234 c235 c236 c237 c238 c239 c240 c241 c242 c243 c244 c245 c246 c247 c248 c249 c250 c251 c252 c253 c254 c255 c256 c257 c258 c259 c260 c261 c262 c263 c264 c265 c266 c267 c268 c269 c270 c271 c272 c273 c274 c275 c276 c277 c278 c279 c280 c281 c282 c283 c284 c285 c286 c287 c288 c289 c290 c291 c292 c293 c294 c295 c296 c297 c298 : Value) (J K' : Act → World → Prop) (h1 : ∀ a' w', SwR w g D Q 5 c1 c2 c3 c4 c21 c22 c23 c24 c25 c26 c27 c28 c29 c30 c31 c32 c33 c34 c35 c36 c37 c38 c39 c40 c41 c42 c43 c44 c45 c46 c47 c48 c49 c50 c51 c52 c53 c54 c55 c56 c57 c58 c59 c60 c61 c62 c63 c64 c65 c66 c67 c68 c69 c70 c252 c253 c254 c255 c256 c257 c258 c259 c260 c261 c262 c263 c264 c265 c266 c267 c268 c269 c270 c271 c272 c273 c274 c275 c276 c277 c278 c279 c280 c281 c282 c283 c284 c285 c286 c287 c288 c289 c290 c291 c292 c293 c294 c295 c296 c297 c298 (fun v11 v12 v14 wx => v11 = .bool r.out ∧ v12 = .int .i64 r.port ∧ KN r.k v14 wx ∧ G r.p wx ∧ r.err = 0) a' w' → J a' w') (h2 : ∀ a' w', Met J a' w' → K' a' w') : swCode.wp Tryz.prog (Exit.then K' (QZ R)) ⟨#[.pointer (some ⟨g, 0, none⟩), c1, c2, c3, c4, .pointer (some ⟨w.heap.size, 0, none⟩), .pointer (some ⟨w.heap.size + 1, 0, none⟩), .pointer (some ⟨w.heap.size + 1 + 1, 0, none⟩), .pointer (some ⟨w.heap.size + 1 + 1 + 1, 0, none⟩), .int .i64 0, .pointer (some ⟨D, 0, none⟩), .bool false, .int .i64 (1 - q), .pointer (some ⟨Q, 0, none⟩), .pointer none, c15, c16, c17, c18, c19, c20, c21, c22, c23, c24, c25, c26, c27, c28, c29, c30, c31, c32, c33, c34, c35, c36, c37, c38, c39, c40, c41, c42, c43, c44, c45, c46, c47, c48, c49, c50, c51, c52, c53, c54, c55, c56, c57, c58, c59, c60, c61, c62, c63, c64, c65, c66, c67, c68, c69, c70, .int .i64 5, c72, c73, c74, c75, c76, c77, c78, c79, c80, c81, c82, c83, c84, c85, c86, c87, c88, c89, c90, c91, c92, c93, c94, c95, c96, c97, c98, c99, c100, c101, c102, c103, c104, c105, c106, c107, c108, c109, c110, c111, c112, c113, c114, c115, c116, c117, c118, c119, c120, c121, c122, c123, c124, c125, c126, c127, c128, c129, c130, c131, c132, c133, c134, c135, c136, c137, c138, c139, c140, c141, c142, c143, c144, c145, c146, c147, c148, c149, c150, c151, c152, c153, c154, c155, c156, c157, c158, c159, c160, c161, c162, c163, c164, c165, c166, c167, c168, c169, c170, c171, c172, c173, c174, c175, c176, c177, c178, c179, c180, c181, c182, c183, c184, c185, c186, c187, c188, c189, c190, c191, c192, c193, c194, c195, c196, c197, c198, c199, c200, c201, c202, c203, c204, c205, c206, c207, c208, c209, c210, c211, c212, c213, c214, c215, c216, c217, c218, c219, c220, c221, c222, c223, c224, c225, c226, c227, c228, c229, c230, c231, c232, c233, c234, c235, c236, c237, c238, c239, c240, c241, c242, c243, c244, c245, c246, c247, c248, c249, c250, c251, c252, c253, c254, c255, c256, c257, c258, c259, c260, c261, c262, c263, c264, c265, c266, c267, c268, c269, c270, c271, c272, c273, c274, c275, c276, c277, c278, c279, c280, c281, c282, c283, c284, c285, c286, c287, c288, c289, c290, c291, c292, c293, c294, c295, c296, c297, c298], []⟩ w8 := by
  unfold SwR at h1
  conv => arg 2; whnf
  have d1 := (FX.cd G8).1
  have n2 : ¬ dv.kind = 2 := by rw [HKK.out]; decide
  have n3 : ¬ dv.kind = 3 := by rw [HKK.out]; decide
  have n4 : ¬ dv.kind = 4 := by rw [HKK.out]; decide
  obtain rfl : q = 1 := by omega
  obtain ⟨a0, a1⟩ := FX.ca G8
  obtain ⟨p0, p1, p2, p3⟩ := FX.cp G8
  have d2 := (FX.cd G8).2.1
  have GO := FX.keep G8 ((Below.refl w8.heap.size w8).alloc (Nat.le_refl _) (.cells #[.int .i64 p.d, .int .i64 dv.addr, .int .i64 p.dp, .int .i64 p.sp] 29))
  have BO := bk_new w8 #[.int .i64 p.d, .int .i64 dv.addr, .int .i64 p.dp, .int .i64 p.sp] 29
  go_upto_region 38 with fail
  go_step
  go_step
  go_step
  go_step
  go_step
  go_step
  go_step
  go_step
  go_step
  go_step
  go_step
  go_step
  go_step
  go_step
  go_step
  go_step
  go_step
  go_step
  go_step
  go_step
  go_step
  go_step
  go_step
  go_step
  go_step
  go_step
  refine wp_build4 29 _ _ _ _ 0 2 1 3 (by rfl) _ _ _ _ _ (pk_build4 p.d dv.addr p.dp p.sp _) (by rfl) (by rfl) (by rfl) (by rfl) ?_
  repeat (first | go_guarded | go_step)
  refine (FX.f5 GO w8.heap.size ⟨p.d, dv.addr, p.dp, p.sp⟩ BO).mono ?_
  rintro e w9 ⟨x, rfl, hx, hb9⟩
  dsimp only
  have G9 := FX.keep GO hb9
  have d2 := (FX.cd G9).2.1
  obtain ⟨q0, q1, q2, q3, z0, z1, z2, z3⟩ := FX.cq G9
  have hxa := idx_any hx.out
  clear d1 a0 a1 p0 p1 p2 p3 GO BO hb9 G8 hx
  cases hal : FL.any (fun f => ftB f ⟨(j : Int), ⟨p.d, dv.addr, p.dp, p.sp⟩, p.s⟩)
  · rw [hal] at hxa
    as_aux_lemma =>
      have hv : r = ⟨0, true, 0, p, none⟩ := by
        rw [← HR.out]
        unfold mSend
        rw [if_neg n2, if_neg n3, if_neg n4, if_pos HKK.out, if_neg hq0, if_neg (by rw [hal]; exact Bool.false_ne_true)]
      subst hv
      clear HR n2 n3 n4 hq0
      repeat (first | go_guarded | go_step)
      go_meet
      exact ⟨rfl, by simp, rfl, G9, rfl⟩
  rw [hal] at hxa
  as_aux_lemma =>
    have hv : r = ⟨0, true, 0, ⟨dv.addr, p.d, p.sp, p.dp⟩, none⟩ := by
      rw [← HR.out]
      unfold mSend
      rw [if_neg n2, if_neg n3, if_neg n4, if_pos HKK.out, if_neg hq0, if_pos hal]
    subst hv
    have GC := FX.s0 G9 dv.addr
    clear HR n2 n3 n4 hq0 q1 q2 q3 z1 z2 z3
    repeat (first | go_guarded | go_step)
    go_meet
    exact ⟨rfl, by simp, rfl, GC, rfl⟩
end Go.Proofs.YthioedgnambomaaGreat



namespace Go.Proofs.YthioedgnambomaaGreat
open Go.RowKit Go.Maps

set_option maxHeartbeats 8000000 in
set_option maxRecDepth 1000000 in
theorem sw_k5b {w w8 : World} {g b o : Nat} {L : Option Addr} {c d : Nat} {F : Option Addr} {cF : Nat} {ds : List Dv} {ls : List Lk} {FL : List Ft} {j : Nat} {q : Int} {p : Pk} {ch : Int} {dv : Dv} {Ab Ar At : Option Addr} {nb cb nr cr nt ct : Nat} {D Q : Nat} {G : Pk → World → Prop} {r : MR} (HR : Hid (mSend dv FL (j : Int) q p ch = r)) (HKK : Hid (dv.kind = 5)) (hq0 : q = 0) (hnb : nb ≤ maxLen) (FX : HFacts w g (some ⟨b, o, none⟩) L c d F cF ds ls FL (j : Int) q p ch dv 5 (.slice Ab nb cb) (.slice Ar nr cr) (.slice At nt ct) D Q G) (G8 : G p w8) (R : Ending → World → Prop) (hret : Hid (Rets w g (some ⟨b, o, none⟩) L c d F ds ls FL r (QZ R))) (c1 c2 c3 c4 c15 c16 c17 c18 c19 c20 c21 c22 c23 c24 c25 c26 c27 c28 c29 c30 c31 c32 c33 c34 c35 c36 c37 c38 c39 c40 c41 c42 c43 c44 c45 c46 c47 c48 c49 c50 c51 c52 c53 c54 c55 c56 c57 c58 c59 c60 c61 c62 c63 c64 c65 c66 c67 c68 c69 c70 c72 c73 c74 c75 c76 c77 c78 c79 c80 c81 c82 c83 c84 c85 c86 c87 c88 c89 c90 c91 c92 c93 c94 c95 c96 c97 c98 c99 c100 c101 c102 c103 c104 c105 c106 c107 c108 c109 c110 c111 c112 c113 c114 c115 c116 c117 c118 c119 c120 c121 c122 c123 c124 c125 c126 c127 c128 c129 c130 c131 c132 c133 c134 c135 c136 c137 c138 c139 c140 c141 c142 c143 c144 c145 c146 c147 c148 c149 c150 c151 c152 c153 c154 c155 c156 c157 c158 c159 c160 c161 c162 c163 c164 c165 c166 c167 c168 c169 c170 c171 c172 c173 c174 c175 c176 c177 c178 c179 c180 c181 c182 c183 c184 c185 c186 c187 c188 c189 c190 c191 c192 c193 c194 c195 c196 c197 c198 c199 c200 c201 c202 c203 c204 c205 c206 c207 c208 c209 c210 c211 c212 c213 c214 c215 c216 c217 c218 c219 c220 c221 c222 c223 c224 c225 c226 c227 c228 c229 c230 c231 c232 c233 c234 c235 c236 c237 c238 c239 c240 c241 c242 c243 c244 c245 c246 c247 c248 c249 c250 c251 c252 c253 c254 c255 c256 c257 c258 c259 c260 c261 c262 c263 c264 c265 c266 c267 c268 c269 c270 c271 c272 c273 c274 c275 c276 c277 c278 c279 c280 c281 c282 c283 c284 c285 c286 c287 c288 c289 c290 c291 c292 c293 c294 c295 c296 c297 c298 : Value) (J K' : Act → World → Prop) (h1 : ∀ a' w', SwR w g D Q 5 c1 c2 c3 c4 c21 c22 c23 c24 c25 c26 c27 c28 c29 c30 c31 c32 c33 c34 c35 c36 c37 c38 c39 c40 c41 c42 c43 c44 c45 c46 c47 c48 c49 c50 c51 c52 c53 c54 c55 c56 c57 c58 c59 c60 c61 c62 c63 c64 c65 c66 c67 c68 c69 c70 c252 c253 c254 c255 c256 c257 c258 c259 c260 c261 c262 c263 c264 c265 c266 c267 c268 c269 c270 c271 c272 c273 c274 c275 c276 c277 c278 c279 c280 c281 c282 c283 c284 c285 c286 c287 c288 c289 c290 c291 c292 c293 c294 c295 c296 c297 c298 (fun v11 v12 v14 wx => v11 = .bool r.out ∧ v12 = .int .i64 r.port ∧ KN r.k v14 wx ∧ G r.p wx ∧ r.err = 0) a' w' → J a' w') (h2 : ∀ a' w', Met J a' w' → K' a' w') : swCode.wp Tryz.prog (Exit.then K' (QZ R)) ⟨#[.pointer (some ⟨g, 0, none⟩), c1, c2, c3, c4, .pointer (some ⟨w.heap.size, 0, none⟩), .pointer (some ⟨w.heap.size + 1, 0, none⟩), .pointer (some ⟨w.heap.size + 1 + 1, 0, none⟩), .pointer (some ⟨w.heap.size + 1 + 1 + 1, 0, none⟩), .int .i64 0, .pointer (some ⟨D, 0, none⟩), .bool false, .int .i64 (1 - q), .pointer (some ⟨Q, 0, none⟩), .pointer none, c15, c16, c17, c18, c19, c20, c21, c22, c23, c24, c25, c26, c27, c28, c29, c30, c31, c32, c33, c34, c35, c36, c37, c38, c39, c40, c41, c42, c43, c44, c45, c46, c47, c48, c49, c50, c51, c52, c53, c54, c55, c56, c57, c58, c59, c60, c61, c62, c63, c64, c65, c66, c67, c68, c69, c70, .int .i64 5, c72, c73, c74, c75, c76, c77, c78, c79, c80, c81, c82, c83, c84, c85, c86, c87, c88, c89, c90, c91, c92, c93, c94, c95, c96, c97, c98, c99, c100, c101, c102, c103, c104, c105, c106, c107, c108, c109, c110, c111, c112, c113, c114, c115, c116, c117, c118, c119, c120, c121, c122, c123, c124, c125, c126, c127, c128, c129, c130, c131, c132, c133, c134, c135, c136, c137, c138, c139, c140, c141, c142, c143, c144, c145, c146, c147, c148, c149, c150, c151, c152, c153, c154, c155, c156, c157, c158, c159, c160, c161, c162, c163, c164, c165, c166, c167, c168, c169, c170, c171, c172, c173, c174, c175, c176, c177, c178, c179, c180, c181, c182, c183, c184, c185, c186, c187, c188, c189, c190, c191, c192, c193, c194, c195, c196, c197, c198, c199, c200, c201, c202, c203, c204, c205, c206, c207, c208, c209, c210, c211, c212, c213, c214, c215, c216, c217, c218, c219, c220, c221, c222, c223, c224, c225, c226, c227, c228, c229, c230, c231, c232, c233, c234, c235, c236, c237, c238, c239, c240, c241, c242, c243, c244, c245, c246, c247, c248, c249, c250, c251, c252, c253, c254, c255, c256, c257, c258, c259, c260, c261, c262, c263, c264, c265, c266, c267, c268, c269, c270, c271, c272, c273, c274, c275, c276, c277, c278, c279, c280, c281, c282, c283, c284, c285, c286, c287, c288, c289, c290, c291, c292, c293, c294, c295, c296, c297, c298], []⟩ w8 := by
  unfold SwR at h1
  conv => arg 2; whnf
  have d1 := (FX.cd G8).1
  have n2 : ¬ dv.kind = 2 := by rw [HKK.out]; decide
  have n3 : ¬ dv.kind = 3 := by rw [HKK.out]; decide
  have n4 : ¬ dv.kind = 4 := by rw [HKK.out]; decide
  subst hq0
  obtain ⟨a0, a1⟩ := FX.ca G8
  obtain ⟨p0, p1, p2, p3⟩ := FX.cp G8
  have d2 := (FX.cd G8).2.1
  cases hpa : (p.d == dv.addr)
  · have hpn : ¬ p.d = dv.addr := by simpa using hpa
    have hpb : (p.d != dv.addr) = true := by simpa using hpn
    as_aux_lemma =>
      have hv : r = ⟨0, true, 1, p, none⟩ := by
        rw [← HR.out]
        unfold mSend
        rw [if_neg n2, if_neg n3, if_neg n4, if_pos HKK.out, if_pos rfl, if_neg (by rw [hpa]; exact Bool.false_ne_true)]
      subst hv
      clear HR n2 n3 n4 hret hpn p0 p2 p3
      repeat (first | go_guarded | go_step)
      go_meet
      exact ⟨rfl, by simp, rfl, G8, rfl⟩
  have hpb : (p.d != dv.addr) = false := by simpa using hpa
  clear p0 p2 p3
  repeat (first | go_guarded | go_step)
  refine (FX.f6 G8).mono ?_
  rintro e w9 ⟨x, rfl, hx, hb9⟩
  dsimp only
  have G9 := FX.keep G8 hb9
  clear d1 d2 a0 a1 p1 hb9 G8
  rcases hx.out with ⟨rfl, hno⟩ | ⟨k, f, rfl, hk, hfd, jk⟩
  rotate_left
  · clear jk
    as_aux_lemma =>
      have hv : r = ⟨0, true, 1, ⟨p.s, f.n, p.sp, p.dp⟩, some ⟨(j : Int), p, f.n⟩⟩ := by
        rw [← HR.out]
        unfold mSend
        rw [if_neg n2, if_neg n3, if_neg n4, if_pos HKK.out, if_pos rfl, if_pos hpa, hfd]
      subst hv
      obtain ⟨fb, fo, hF, y1, y3, y5, uu1, uu2⟩ := FX.fact G9 hk
      have g2 := (FX.cg G9).2.2
      rw [hF] at g2
      clear HR n2 n3 n4 hx hk hfd hF y1 y3 hret hpa hpb
      have GC := FX.s1 G9 f.n
      have GA := FX.keep GC ((Below.refl (w9.setCell ⟨Q, 1, none⟩ (.int .i64 f.n)).heap.size (w9.setCell ⟨Q, 1, none⟩ (.int .i64 f.n))).alloc (Nat.le_refl _) (.cells #[.int .i64 (j : Int), .int .i64 p.s, .int .i64 p.d, .int .i64 p.sp, .int .i64 p.dp, .int .i64 f.n] 85))
      have KB := bk_new' (w9.setCell ⟨Q, 1, none⟩ (.int .i64 f.n)) #[.int .i64 (j : Int), .int .i64 p.s, .int .i64 p.d, .int .i64 p.sp, .int .i64 p.dp, .int .i64 f.n] 85 w9.heap.size (by simp [World.setCell])
      obtain ⟨q0, q1, q2, q3, z0, z1, z2, z3⟩ := FX.cq G9
      obtain ⟨aa0, aa1⟩ := FX.ca GC
      obtain ⟨pp0, pp1, pp2, pp3⟩ := FX.cp GC
      have qq1 := (FX.cq GC).2.1
      clear q0 q2 q3 z0 z2 z3 aa1
      go_upto_region 48 with fail
      go_step
      go_step
      go_step
      go_step
      go_step
      go_step
      go_step
      go_step
      go_step
      go_step
      go_step
      go_step
      go_step
      go_step
      go_step
      go_step
      go_step
      refine wp_build3 85 _ _ _ 0 1 2 (by rfl) _ _ _ _ (fact_build (j : Int) f.n p _) (by rfl) (by rfl) (by rfl) ?_
      repeat (first | go_guarded | go_step)
      go_meet
      exact ⟨rfl, by simp, ⟨_, rfl, KB⟩, GA, rfl⟩
  have hwb : IntKind.i64.wrap ((nb : Int) - 1) = (nb : Int) - 1 := IntWalk.i64_in _ (by unfold maxLen at hnb; omega)
  have d4 := (FX.cd G9).2.2.2.1
  have c0 := FX.cc G9
  obtain ⟨Ab', cb', hsl, hbk⟩ := FX.back G9
  obtain ⟨rfl, rfl, rfl⟩ := Value.slice.inj hsl
  clear hsl hx
  cases hin : (decide (0 ≤ ch) && decide (ch < (dv.backs.length : Int)))
  · as_aux_lemma =>
      have hv : r = ⟨1, false, 0, p, none⟩ := by
        rw [← HR.out]
        unfold mSend
        rw [if_neg n2, if_neg n3, if_neg n4, if_pos HKK.out, if_pos rfl, if_pos hpa, hno]
        show (if (decide (0 ≤ ch) && decide (ch < (dv.backs.length : Int))) = true then _ else _) = _
        rw [hin, if_neg Bool.false_ne_true]
      subst hv
      have IC : Hid (∀ W, Calls Tryz.prog 7 #[.int .i64 ch, .int .i64 0, .int .i64 ((dv.backs.length : Int) - 1)] W fun e w' => e = .returned (.bool false) ∧ w' = W) := fun W => by
        have := finR ch 0 ((dv.backs.length : Int) - 1) W
        rw [show (decide (0 ≤ ch) && decide (ch ≤ (dv.backs.length : Int) - 1)) = false by rw [← hin]; congr 1; exact decide_eq_decide.2 (by omega)] at this
        exact this
      clear HR n2 n3 n4 hpa hpb hno hin
      repeat (first | go_guarded | go_step)
      refine (IC.out _).mono ?_
      rintro e w' ⟨rfl, hx⟩
      obtain rfl := hx.symm
      dsimp only
      clear IC hwb
      have R9 := FX.cr G9
      obtain ⟨⟨l0, l1, l2, l3, l4, l5⟩, ⟨f0, f1, f2, f3, f4, f5⟩⟩ := R9.six
      have hf : Hid (MOut w g (some ⟨b, o, none⟩) L c d F ds ls FL w9) := MOut.same (FX.mn G9) (FX.bl G9)
      have RQ : Hid (Bk _ _ _ _) := R9
      have hGG := FX.hb
      clear R9
      repeat (first | go_guarded | go_step)
      exact hret.out _ _ rfl rfl rfl (show (1 : Int) ≠ 0 by decide) (Bk.zero6 RQ.out) (MOut.set6 hf.out RQ.out hGG (by omega) (by decide))
  as_aux_lemma =>
    have hc12 := hin
    simp only [Bool.and_eq_true, decide_eq_true_eq] at hc12
    obtain ⟨hc1, hc2⟩ := hc12
    obtain ⟨n9, hn9⟩ : ∃ n9, dv.backs[ch.toNat]? = some n9 := ⟨_, List.getElem?_eq_getElem (by omega)⟩
    have hg9 : dv.backs.getD ch.toNat 0 = n9 := by rw [List.getD_eq_getElem?_getD, hn9]; rfl
    have hv : r = ⟨0, true, 1, ⟨p.s, n9, p.sp, p.dp⟩, some ⟨(j : Int), p, n9⟩⟩ := by
      rw [← HR.out]
      unfold mSend
      rw [if_neg n2, if_neg n3, if_neg n4, if_pos HKK.out, if_pos rfl, if_pos hpa, hno]
      show (if (decide (0 ≤ ch) && decide (ch < (dv.backs.length : Int))) = true then _ else _) = _
      rw [hin, if_pos rfl, hg9]
    subst hv
    have IC : Hid (∀ W, Calls Tryz.prog 7 #[.int .i64 ch, .int .i64 0, .int .i64 ((dv.backs.length : Int) - 1)] W fun e w' => e = .returned (.bool true) ∧ w' = W) := fun W => by
      have := finR ch 0 ((dv.backs.length : Int) - 1) W
      rw [show (decide (0 ≤ ch) && decide (ch ≤ (dv.backs.length : Int) - 1)) = true by rw [← hin]; congr 1; exact decide_eq_decide.2 (by omega)] at this
      exact this
    obtain ⟨bb, bo, rfl, hcell⟩ := hbk hn9
    obtain ⟨k, rfl⟩ : ∃ k : Nat, ch = (k : Int) := ⟨ch.toNat, by omega⟩
    rw [Int.toNat_natCast] at hcell
    clear HR n2 n3 n4 hpa hpb hno hn9 hbk hret hg9 hin
    repeat (first | go_guarded | go_step)
    refine (IC.out _).mono ?_
    rintro e w' ⟨rfl, hx⟩
    obtain rfl := hx.symm
    dsimp only
    clear IC hwb
    have GC := FX.s1 G9 n9
    have GA := FX.keep GC ((Below.refl (w9.setCell ⟨Q, 1, none⟩ (.int .i64 n9)).heap.size (w9.setCell ⟨Q, 1, none⟩ (.int .i64 n9))).alloc (Nat.le_refl _) (.cells #[.int .i64 (j : Int), .int .i64 p.s, .int .i64 p.d, .int .i64 p.sp, .int .i64 p.dp, .int .i64 n9] 85))
    have KB := bk_new' (w9.setCell ⟨Q, 1, none⟩ (.int .i64 n9)) #[.int .i64 (j : Int), .int .i64 p.s, .int .i64 p.d, .int .i64 p.sp, .int .i64 p.dp, .int .i64 n9] 85 w9.heap.size (by simp [World.setCell])
    obtain ⟨q0, q1, q2, q3, z0, z1, z2, z3⟩ := FX.cq G9
    obtain ⟨aa0, aa1⟩ := FX.ca GC
    obtain ⟨pp0, pp1, pp2, pp3⟩ := FX.cp GC
    have qq1 := (FX.cq GC).2.1
    clear q0 q2 q3 z0 z2 z3 aa1
    go_upto_region 48 with fail
    go_step
    go_step
    go_step
    go_step
    go_step
    go_step
    go_step
    go_step
    go_step
    go_step
    go_step
    go_step
    go_step
    go_step
    go_step
    go_step
    go_step
    refine wp_build3 85 _ _ _ 0 1 2 (by rfl) _ _ _ _ (fact_build (j : Int) n9 p _) (by rfl) (by rfl) (by rfl) ?_
    repeat (first | go_guarded | go_step)
    go_meet
    exact ⟨rfl, by simp, ⟨_, rfl, KB⟩, GA, rfl⟩
end Go.Proofs.YthioedgnambomaaGreat



namespace Go.Proofs.YthioedgnambomaaGreat
open Go.RowKit Go.Maps

theorem step_slice1 {P : Program} {w : World} {ops : Array Oper} {o : Oper} {a : Act} {K : Act → World → Prop} {Q : Exit → Act → World → Prop} {E : Prop} (hgd : o.guard = none) (x : Operand) (t : TypeId) (ho : o.op = .buildSlice t 1 #[(0, x)]) (v : Value) (hx : a.eval x = v) (v' : Value) (w' : World) (hr : (Instr.buildSlice t 1 #[(0, v)]).run P w = .ok v' w') (h : K (a.put o.dst v') w') :
    if Region.wanted o (yielded ops a.tmps) = true then Oper.wp P o a w K Q else E := by
  have hw : Region.wanted o (yielded ops a.tmps) = true := by simp [Region.wanted, hgd]
  rw [if_pos hw]
  unfold Oper.wp execOp
  simp only [ho, List.map_toArray, List.map_cons, List.map_nil, hx, Sem.run_bind, hr, Result.andThen_ok]
  exact h
theorem fact_slice (f : Ft) (w : World) : (Instr.buildSlice 56 1 #[(0, .agg #[.int .i64 f.i, .int .i64 f.p.s, .int .i64 f.p.d, .int .i64 f.p.sp, .int .i64 f.p.dp, .int .i64 f.n])]).run Tryz.prog w = .ok (.slice (some ⟨w.heap.size, 0, none⟩) 1 1) (w.alloc (.cells #[.int .i64 f.i, .int .i64 f.p.s, .int .i64 f.p.d, .int .i64 f.p.sp, .int .i64 f.p.dp, .int .i64 f.n] 85)) := by
  go_simp
theorem MOut.drewN {w W : World} {g : Nat} {A L : Option Addr} {c d : Nat} {F : Option Addr} {ds : List Dv} {ls : List Lk} {FL : List Ft} (h : MOut w g A L c d F ds ls FL W) (n : Nat) : MOut w g A L c d F ds ls FL (W.drewN n) := by
  obtain ⟨F', cF', h1, h2, h3⟩ := h
  have hb : Below W.heap.size W (W.drewN n) := belowNN (Below.refl _ _) n
  exact ⟨F', cF', h1.drewN n, ⟨hb.os.trans h2.os, hb.tape.trans h2.tape, hb.output.trans h2.output, Nat.le_trans h2.size hb.size, fun b q1 q2 q3 => (hb.block b (Nat.lt_of_lt_of_le q1 h2.size)).trans (h2.block b q1 q2 q3)⟩, h3⟩
theorem Bk.more {W w7 : World} {g : Nat} {A L : Option Addr} {c d : Nat} {F : Option Addr} {cF : Nat} {ds : List Dv} {ls : List Lk} {FL : List Ft} {k : Nat} {cs : Array Value} {t : TypeId} {v7 : Value} (h : MnAt W g A L c d F cF ds ls FL) (hB : Bk W k cs t) (ht : t ≠ 85) (hm : t ≠ 58) (K7 : KeptB W w7 (Value.slice F FL.length cF).ownBlock) : Bk (w7.setCell ⟨g, 2, none⟩ v7) k cs t := by
  have hk : k ≠ g := fun e => by
    have hg := h.blk
    rw [← e] at hg
    unfold Bk at hg hB
    rw [hB] at hg
    simp only [Option.some.injEq, Obj.cells.injEq] at hg
    exact hm hg.2.1
  refine (Below.heap_setCell w7 ⟨g, 2, none⟩ v7 k hk).trans ((K7.block k hB.lt (fun e => ?_)).trans hB)
  obtain ⟨_, _, cur, h2⟩ := own_block h.facts e.symm
  unfold Bk at hB
  rw [hB] at h2
  simp only [Option.some.injEq, Obj.cells.injEq] at h2
  exact ht h2.2.1
def plOf : Option (Int × Int) → Int × Int
  | none => (0, 0)
  | some t => t
theorem placeV_of (x : Option (Int × Int)) : placeV x = .agg #[.int .i64 (plOf x).1, .int .i64 (plOf x).2] := by cases x <;> rfl
set_option maxHeartbeats 8000000 in
set_option maxRecDepth 1000000 in
theorem re_any {w w8 : World} {g b o : Nat} {L : Option Addr} {c d : Nat} {F : Option Addr} {cF : Nat} {ds : List Dv} {ls : List Lk} {FL : List Ft} {j : Nat} {q : Int} {p : Pk} {ch : Int} {dv : Dv} {Ab Ar At : Option Addr} {nb cb nr cr nt ct : Nat} {D Q : Nat} {G : Pk → World → Prop} {r : MR} {kd : Int} {v14 : Value} (FX : HFacts w g (some ⟨b, o, none⟩) L c d F cF ds ls FL (j : Int) q p ch dv kd (.slice Ab nb cb) (.slice Ar nr cr) (.slice At nt ct) D Q G) (G8 : G r.p w8) (K8 : KN r.k v14 w8) (hfl : FL.length ≤ 5000) (R : Ending → World → Prop) (hbad : Hid (∀ (a : Act) (W : World), a.defers = [] → a.eval (.tmp 8) = .pointer (some ⟨w.heap.size + 1 + 1 + 1, 0, none⟩) → a.eval (.tmp 9) = .int .i64 7 → (r.out = false ∨ peerF ls (j : Int) r.port = none) → Bk W (w.heap.size + 1 + 1 + 1) #[.int .i64 0, .int .i64 0, .int .i64 0, .int .i64 0, .int .i64 0, .int .i64 0] 60 → MOut w g (some ⟨b, o, none⟩) L c d F ds ls FL W → QZ R .ret a W)) (hok : Hid (∀ (a : Act) (W : World) (t : Int × Int), r.out = true → peerF ls (j : Int) r.port = some t → a.defers = [] → a.eval (.tmp 8) = .pointer (some ⟨w.heap.size + 1 + 1 + 1, 0, none⟩) → a.eval (.tmp 9) = .int .i64 0 → Bk W (w.heap.size + 1 + 1 + 1) #[.int .i64 t.1, .int .i64 t.2, .int .i64 r.p.s, .int .i64 r.p.d, .int .i64 r.p.sp, .int .i64 r.p.dp] 60 → MOut w g (some ⟨b, o, none⟩) L c d F ds ls (addF FL r.k) W → QZ R .ret a W)) (c1 c2 c3 c4 c15 c16 c17 c18 c19 c20 c21 c22 c23 c24 c25 c26 c27 c28 c29 c30 c31 c32 c33 c34 c35 c36 c37 c38 c39 c40 c41 c42 c43 c44 c45 c46 c47 c48 c49 c50 c51 c52 c53 c54 c55 c56 c57 c58 c59 c60 c61 c62 c63 c64 c65 c66 c67 c68 c69 c70 c71 c72 c73 c74 c75 c76 c77 c78 c79 c80 c81 c82 c83 c84 c85 c86 c87 c88 c89 c90 c91 c92 c93 c94 c95 c96 c97 c98 c99 c100 c101 c102 c103 c104 c105 c106 c107 c108 c109 c110 c111 c112 c113 c114 c115 c116 c117 c118 c119 c120 c121 c122 c123 c124 c125 c126 c127 c128 c129 c130 c131 c132 c133 c134 c135 c136 c137 c138 c139 c140 c141 c142 c143 c144 c145 c146 c147 c148 c149 c150 c151 c152 c153 c154 c155 c156 c157 c158 c159 c160 c161 c162 c163 c164 c165 c166 c167 c168 c169 c170 c171 c172 c173 c174 c175 c176 c177 c178 c179 c180 c181 c182 c183 c184 c185 c186 c187 c188 c189 c190 c191 c192 c193 c194 c195 c196 c197 c198 c199 c200 c201 c202 c203 c204 c205 c206 c207 c208 c209 c210 c211 c212 c213 c214 c215 c216 c217 c218 c219 c220 c221 c222 c223 c224 c225 c226 c227 c228 c229 c230 c231 c232 c233 c234 c235 c236 c237 c238 c239 c240 c241 c242 c243 c244 c245 c246 c247 c248 c249 c250 c251 c252 c253 c254 c255 c256 c257 c258 c259 c260 c261 c262 c263 c264 c265 c266 c267 c268 c269 c270 c271 c272 c273 c274 c275 c276 c277 c278 c279 c280 c281 c282 c283 c284 c285 c286 c287 c288 c289 c290 c291 c292 c293 c294 c295 c296 c297 c298 : Value) : reCode.wp Tryz.prog (QZ R) ⟨#[.pointer (some ⟨g, 0, none⟩), c1, c2, c3, c4, .pointer (some ⟨w.heap.size, 0, none⟩), .pointer (some ⟨w.heap.size + 1, 0, none⟩), .pointer (some ⟨w.heap.size + 1 + 1, 0, none⟩), .pointer (some ⟨w.heap.size + 1 + 1 + 1, 0, none⟩), .int .i64 0, .pointer (some ⟨D, 0, none⟩), .bool r.out, .int .i64 r.port, .pointer (some ⟨Q, 0, none⟩), v14, c15, c16, c17, c18, c19, c20, c21, c22, c23, c24, c25, c26, c27, c28, c29, c30, c31, c32, c33, c34, c35, c36, c37, c38, c39, c40, c41, c42, c43, c44, c45, c46, c47, c48, c49, c50, c51, c52, c53, c54, c55, c56, c57, c58, c59, c60, c61, c62, c63, c64, c65, c66, c67, c68, c69, c70, c71, c72, c73, c74, c75, c76, c77, c78, c79, c80, c81, c82, c83, c84, c85, c86, c87, c88, c89, c90, c91, c92, c93, c94, c95, c96, c97, c98, c99, c100, c101, c102, c103, c104, c105, c106, c107, c108, c109, c110, c111, c112, c113, c114, c115, c116, c117, c118, c119, c120, c121, c122, c123, c124, c125, c126, c127, c128, c129, c130, c131, c132, c133, c134, c135, c136, c137, c138, c139, c140, c141, c142, c143, c144, c145, c146, c147, c148, c149, c150, c151, c152, c153, c154, c155, c156, c157, c158, c159, c160, c161, c162, c163, c164, c165, c166, c167, c168, c169, c170, c171, c172, c173, c174, c175, c176, c177, c178, c179, c180, c181, c182, c183, c184, c185, c186, c187, c188, c189, c190, c191, c192, c193, c194, c195, c196, c197, c198, c199, c200, c201, c202, c203, c204, c205, c206, c207, c208, c209, c210, c211, c212, c213, c214, c215, c216, c217, c218, c219, c220, c221, c222, c223, c224, c225, c226, c227, c228, c229, c230, c231, c232, c233, c234, c235, c236, c237, c238, c239, c240, c241, c242, c243, c244, c245, c246, c247, c248, c249, c250, c251, c252, c253, c254, c255, c256, c257, c258, c259, c260, c261, c262, c263, c264, c265, c266, c267, c268, c269, c270, c271, c272, c273, c274, c275, c276, c277, c278, c279, c280, c281, c282, c283, c284, c285, c286, c287, c288, c289, c290, c291, c292, c293, c294, c295, c296, c297, c298], []⟩ w8 := by
  conv => arg 2; whnf
  dsimp only
  have GD : G r.p w8.drew := FX.keep G8 (Below.refl _ _).drew
  have GW := GD
  have KW : KN r.k v14 w8.drew := K8.keep (Below.refl _ _).drew
  go_upto_region 49 with fail
  go_cut [21, 22] from 252 to 263 (fun v21 v22 wx => ∃ P, v21 = .pointer (some ⟨P, 0, none⟩) ∧ Bk wx P #[.int .i64 (plOf (peerF ls (j : Int) r.port)).1, .int .i64 (plOf (peerF ls (j : Int) r.port)).2] 27 ∧ v22 = .bool (peerF ls (j : Int) r.port).isSome ∧ KN r.k v14 wx ∧ G r.p wx)
  case first =>
    refine wp_region_held_drew (S := fun w' => w'.cell? ⟨g, 0, none⟩ = some (.slice (some ⟨b, o, none⟩) ds.length c) ∧ w'.cell? ⟨g, 1, none⟩ = some (.slice L ls.length d) ∧ w'.cell? ⟨w.heap.size, 0, none⟩ = some (.int .i64 (j : Int))) (by kernel_rfl) ⟨(FX.cg GW).1, (FX.cg GW).2.1, (FX.ca GW).1⟩ (fun hHeld => ?_)
    refine' tk 0 rfl (by kernel_rfl) (fun _ _ _ h => h) (by rfl) (by assumption) ?y15 ?r15
    case y15 => (intro w h; (try dsimp only at h); go_simp; (try with_reducible rfl))
    try simp only [lays]
    refine' tk 1 rfl (by kernel_rfl) (fun _ _ _ h => h) (by rfl) (by assumption) ?y16 ?r16
    case y16 => (intro w h; (try dsimp only at h); go_simp; (try with_reducible rfl))
    try simp only [lays]
    refine' tk 2 rfl (by kernel_rfl) (fun _ _ _ h => h) (by rfl) (by assumption) ?y17 ?r17
    case y17 => (intro w h; (try dsimp only at h); go_simp; (try with_reducible rfl))
    try simp only [lays]
    refine' tk 3 rfl (by kernel_rfl) (fun _ _ _ h => h) (by rfl) (by assumption) ?y18 ?r18
    case y18 => (intro w h; (try dsimp only at h); go_simp; (try with_reducible rfl))
    try simp only [lays]
    refine' tk 4 rfl (by kernel_rfl) (fun _ _ _ h => h) (by rfl) (by assumption) ?y19 ?r19
    case y19 => (intro w h; (try dsimp only at h); go_simp; (try with_reducible rfl))
    try simp only [lays]
    refine' tk 5 rfl (by kernel_rfl) (fun _ _ _ h => h) (by rfl) (by assumption) ?y20 ?r20
    case y20 => (intro w h; (try dsimp only at h); go_simp; (try with_reducible rfl))
    try simp only [lays]
    refine' tk 6 rfl (by kernel_rfl) (fun _ _ _ h => h) (by rfl) (by assumption) ?y21 ?r21
    case y21 => (intro w h; (try dsimp only at h); go_simp; (try with_reducible rfl))
    try simp only [lays]
    refine' wpAnyH_take (i := 7) (v := _) rfl (by kernel_rfl) (by kernel_rfl) (by kernel_rfl) (fun _ _ _ h => h) (yields_build2 (by rfl) 27 _ _ 0 1 (by rfl) _ _ _ (fun w => pl_build2 (j : Int) r.port w) (by rfl) (by rfl)) (by assumption) ?gr22
    try simp only [lays]
    refine wpAnyH_ready (rs := [8, 12]) (by kernel_rfl) (by simp) (AllReadyH.cons rfl (fun K hK => ?_) ?_)
    · as_aux_lemma =>
        go_simp
        refine (FX.peer GD r.port).mono ?_
        rintro e w9 ⟨rfl, hb9⟩
        rw [placeV_of]
        dsimp only
        have G9 := FX.keep GD hb9
        try go_wp2_with fail
        clear hHeld
        refine hK.out _ _ (⟨(FX.cg G9).1, (FX.cg G9).2.1, (FX.ca G9).1⟩) (fun hHeld => ?_)
        clear hK K
        try simp only [lays]
        refine' tk 9 rfl (by kernel_rfl) (fun _ _ _ h => h) (by rfl) (by assumption) ?y23 ?r23
        case y23 => (intro w h; (try dsimp only at h); go_simp; (try with_reducible rfl))
        try simp only [lays]
        refine' tk 10 rfl (by kernel_rfl) (fun _ _ _ h => h) (by rfl) (by assumption) ?y24 ?r24
        case y24 => (intro w h; (try dsimp only at h); go_simp; (try with_reducible rfl))
        try simp only [lays]
        refine' tk 11 rfl (by kernel_rfl) (fun _ _ _ h => h) (by rfl) (by assumption) ?y25 ?r25
        case y25 => (intro w h; (try dsimp only at h); go_simp; (try with_reducible rfl))
        try simp only [lays]
        have GA := FX.keep G9 ((Below.refl w9.heap.size w9).alloc (Nat.le_refl _) (.cells #[.int .i64 0, .int .i64 0] 27))
        refine wpAnyH_ready (rs := [12]) (by kernel_rfl) (by simp) (AllReadyH.cons rfl (fun K hK => ?_) AllReadyH.nil)
        go_simp
        skip
        try go_wp2_with fail
        clear hHeld
        refine hK.out _ _ (⟨(FX.cg GA).1, (FX.cg GA).2.1, (FX.ca GA).1⟩) (fun hHeld => ?_)
        clear hK K
        try simp only [lays]
        have GA' := FX.keep G9 ((Below.refl w9.heap.size w9).alloc (Nat.le_refl _) (.cells #[.int .i64 (plOf (peerF ls (j : Int) r.port)).1, .int .i64 (plOf (peerF ls (j : Int) r.port)).2] 27))
        refine wpAnyH_ready (rs := [13]) (by kernel_rfl) (by simp) (AllReadyH.cons rfl (fun K hK => ?_) AllReadyH.nil)
        go_simp
        skip
        try go_wp2_with fail
        clear hHeld
        refine hK.out _ _ (⟨(FX.cg GA').1, (FX.cg GA').2.1, (FX.ca GA').1⟩) (fun hHeld => ?_)
        clear hK K
        try simp only [lays]
        refine' tk 14 rfl (by kernel_rfl) (fun _ _ _ h => h) (by rfl) (by assumption) ?y26 ?r26
        case y26 => (intro w h; (try dsimp only at h); go_simp; (try with_reducible rfl))
        try simp only [lays]
        refine wpAnyH_done (by kernel_rfl) ?_ _
        repeat (first | go_guarded | go_step)
        go_meet
        exact ⟨_, rfl, bk_new w9 _ _, rfl, (KW.keep hb9).keep ((Below.refl w9.heap.size w9).alloc (Nat.le_refl _) _), GA'⟩
    refine AllReadyH.cons rfl (fun K hK => ?_) AllReadyH.nil
    as_aux_lemma =>
      have GZ := FX.keep GD ((Below.refl w8.drew.heap.size w8.drew).alloc (Nat.le_refl _) (.cells #[.int .i64 0, .int .i64 0] 27))
      have BZ := bk_new' w8.drew #[.int .i64 0, .int .i64 0] 27 w8.heap.size rfl
      have KZ := KW.keep ((Below.refl w8.drew.heap.size w8.drew).alloc (Nat.le_refl _) (.cells #[.int .i64 0, .int .i64 0] 27))
      go_simp
      skip
      try go_wp2_with fail
      clear hHeld
      refine hK.out _ _ (⟨(FX.cg GZ).1, (FX.cg GZ).2.1, (FX.ca GZ).1⟩) (fun hHeld => ?_)
      clear hK K
      try simp only [lays]
      refine wpAnyH_ready (rs := [8]) (by kernel_rfl) (by simp) (AllReadyH.cons rfl (fun K hK => ?_) AllReadyH.nil)
      go_simp
      refine (FX.peer GZ r.port).mono ?_
      rintro e w9 ⟨rfl, hb9⟩
      rw [placeV_of]
      dsimp only
      have G9 := FX.keep GZ hb9
      try go_wp2_with fail
      clear hHeld
      refine hK.out _ _ (⟨(FX.cg G9).1, (FX.cg G9).2.1, (FX.ca G9).1⟩) (fun hHeld => ?_)
      clear hK K
      try simp only [lays]
      refine' tk 9 rfl (by kernel_rfl) (fun _ _ _ h => h) (by rfl) (by assumption) ?y27 ?r27
      case y27 => (intro w h; (try dsimp only at h); go_simp; (try with_reducible rfl))
      try simp only [lays]
      refine' tk 10 rfl (by kernel_rfl) (fun _ _ _ h => h) (by rfl) (by assumption) ?y28 ?r28
      case y28 => (intro w h; (try dsimp only at h); go_simp; (try with_reducible rfl))
      try simp only [lays]
      refine' tk 11 rfl (by kernel_rfl) (fun _ _ _ h => h) (by rfl) (by assumption) ?y29 ?r29
      case y29 => (intro w h; (try dsimp only at h); go_simp; (try with_reducible rfl))
      try simp only [lays]
      have B9 := BZ.keep hb9
      have hbb : Below w8.drew.heap.size w8.drew w9 := ((Below.refl w8.drew.heap.size w8.drew).alloc (Nat.le_refl _) (.cells #[.int .i64 0, .int .i64 0] 27)).trans (hb9.mono (by simp))
      have hbs := (hbb.setCell (p := ⟨w8.heap.size, 0, none⟩) (Nat.le_refl _) (.int .i64 (plOf (peerF ls (j : Int) r.port)).1)).setCell (p := ⟨w8.heap.size, 1, none⟩) (Nat.le_refl _) (.int .i64 (plOf (peerF ls (j : Int) r.port)).2)
      have GS := FX.keep GD hbs
      have KS := KW.keep hbs
      have BS := (B9.setS (j := 0) (.int .i64 (plOf (peerF ls (j : Int) r.port)).1)).setS (j := 1) (.int .i64 (plOf (peerF ls (j : Int) r.port)).2)
      obtain ⟨x0, x1⟩ := B9.two
      have x2 := B9.fz 0
      have x3 := B9.fz 1
      refine wpAnyH_ready (rs := [13]) (by kernel_rfl) (by simp) (AllReadyH.cons rfl (fun K hK => ?_) AllReadyH.nil)
      go_simp
      skip
      try go_wp2_with fail
      clear hHeld
      refine hK.out _ _ (⟨(FX.cg GS).1, (FX.cg GS).2.1, (FX.ca GS).1⟩) (fun hHeld => ?_)
      clear hK K
      try simp only [lays]
      refine' tk 14 rfl (by kernel_rfl) (fun _ _ _ h => h) (by rfl) (by assumption) ?y30 ?r30
      case y30 => (intro w h; (try dsimp only at h); go_simp; (try with_reducible rfl))
      try simp only [lays]
      refine wpAnyH_done (by kernel_rfl) ?_ _
      repeat (first | go_guarded | go_step)
      go_meet
      exact ⟨_, rfl, BS, rfl, KS, GS⟩
  case rest =>
    obtain ⟨P, rfl, BP, rfl, KX, GX⟩ := hcut
    clear GD GW KW K8 G8
    cases ho : r.out
    · as_aux_lemma =>
        have R9 := FX.cr GX
        obtain ⟨⟨l0, l1, l2, l3, l4, l5⟩, ⟨f0, f1, f2, f3, f4, f5⟩⟩ := R9.six
        have hf : Hid (MOut w g (some ⟨b, o, none⟩) L c d F ds ls FL wc) := MOut.same (FX.mn GX) (FX.bl GX)
        have RQ : Hid (Bk _ _ _ _) := R9
        have hGG := FX.hb
        clear R9 BP GX KX
        repeat (first | go_guarded | go_step)
        exact hbad.out _ _ rfl rfl rfl (Or.inl ho) (Bk.zero6 RQ.out) (MOut.set6 hf.out RQ.out hGG (by omega) (by decide))
    cases hpe : peerF ls (j : Int) r.port
    · as_aux_lemma =>
        have R9 := FX.cr GX
        obtain ⟨⟨l0, l1, l2, l3, l4, l5⟩, ⟨f0, f1, f2, f3, f4, f5⟩⟩ := R9.six
        have hf : Hid (MOut w g (some ⟨b, o, none⟩) L c d F ds ls FL wc) := MOut.same (FX.mn GX) (FX.bl GX)
        have RQ : Hid (Bk _ _ _ _) := R9
        have hGG := FX.hb
        clear R9 BP GX KX
        repeat (first | go_guarded | go_step)
        exact hbad.out _ _ rfl rfl rfl (Or.inr hpe) (Bk.zero6 RQ.out) (MOut.set6 hf.out RQ.out hGG (by omega) (by decide))
    rename_i t
    have BPt : Bk wc P #[.int .i64 t.1, .int .i64 t.2] 27 := by rw [hpe] at BP; exact BP
    clear BP hbad
    cases hk : r.k
    · have hv14 : v14 = .pointer none := by rw [hk] at KX; exact KX
      subst hv14
      as_aux_lemma =>
        have BQt := FX.bq GX
        have BRt := FX.cr GX
        have hMM : Hid (∀ n, MOut w g (some ⟨b, o, none⟩) L c d F ds ls (addF FL r.k) (wc.drewN n)) := fun n => by
          rw [show addF FL r.k = FL by rw [hk]; rfl]
          exact MOut.same ((FX.mn GX).drewN n) (belowNN (FX.bl GX) n)
        repeat (first | go_guarded | go_step)
        go_quiet (fail)
        obtain ⟨t0, t1⟩ := BPt.two
        obtain ⟨q0, q1, q2, q3, q9⟩ := BQt.four
        clear q9
        obtain ⟨⟨l0, l1, l2, l3, l4, l5⟩, ⟨f0, f1, f2, f3, f4, f5⟩⟩ := BRt.six
        have hGG := FX.hb
        have RQ : Hid (∀ n, Bk (World.drewN wc n) _ _ _) := fun n => BRt.drewN n
        clear BPt BQt BRt
        go_upto_region 54 with fail
        go_step
        go_step
        go_step
        go_step
        go_step
        go_step
        go_step
        go_step
        refine wp_build2 60 _ _ 0 1 (by rfl) _ _ _ (arrival_build _ _ r.p _) (by rfl) (by rfl) ?_
        repeat (first | go_guarded | go_step)
        exact hok.out _ _ t ho hpe rfl rfl rfl (((((((RQ.out _).setS _).setS _).setS _).setS _).setS _).setS _) (MOut.set6 (hMM.out _) (RQ.out _) hGG (by omega) (by decide))
    rename_i f
    obtain ⟨K, hv14, BK⟩ : ∃ K, v14 = .pointer (some ⟨K, 0, none⟩) ∧ Bk wc K #[.int .i64 f.i, .int .i64 f.p.s, .int .i64 f.p.d, .int .i64 f.p.sp, .int .i64 f.p.dp, .int .i64 f.n] 85 := by rw [hk] at KX; exact KX
    subst hv14
    have GY : G r.p wc.drew := FX.keep GX (Below.refl _ _).drew
    have BKd : Bk wc.drew K #[.int .i64 f.i, .int .i64 f.p.s, .int .i64 f.p.d, .int .i64 f.p.sp, .int .i64 f.p.dp, .int .i64 f.n] 85 := BK
    have BPd : Bk wc.drew P #[.int .i64 t.1, .int .i64 t.2] 27 := BPt
    have c2 := (FX.cg GY).2.2
    obtain ⟨⟨k0, k1, k2, k3, k4, k5⟩, kx⟩ := BKd.six
    clear kx KX
    repeat (first | go_guarded | go_step)
    go_cut [283] from 271 to 283 (fun v283 wx => v283 = .bool (!FL.any (fun x => ftB x f)) ∧ G r.p wx ∧ Bk wx K #[.int .i64 f.i, .int .i64 f.p.s, .int .i64 f.p.d, .int .i64 f.p.sp, .int .i64 f.p.dp, .int .i64 f.n] 85 ∧ Bk wx P #[.int .i64 t.1, .int .i64 t.2] 27)
    case first =>
      go_region_held3 (fun w' => w'.cell? ⟨g, 2, none⟩ = some (.slice F FL.length cF) ∧ w'.cell? ⟨K, 0, none⟩ = some (.int .i64 f.i) ∧ w'.cell? ⟨K, 1, none⟩ = some (.int .i64 f.p.s) ∧ w'.cell? ⟨K, 2, none⟩ = some (.int .i64 f.p.d) ∧ w'.cell? ⟨K, 3, none⟩ = some (.int .i64 f.p.sp) ∧ w'.cell? ⟨K, 4, none⟩ = some (.int .i64 f.p.dp) ∧ w'.cell? ⟨K, 5, none⟩ = some (.int .i64 f.n)) (go_keep) ((go_at_call 44; refine (FX.cont GY f).mono ?_; rintro e w10 ⟨rfl, hb10⟩; have G10 := FX.keep GY hb10; have BK10 := BKd.keep hb10; have BP10 := BPd.keep hb10; have c2' := (FX.cg G10).2.2; obtain ⟨⟨k0', k1', k2', k3', k4', k5'⟩, kx'⟩ := BK10.six))
      repeat (first | go_guarded | go_step)
      go_meet
      exact ⟨rfl, G10, BK10, BP10⟩
    case rest =>
      clear GY BKd BPd c2 k0 k1 k2 k3 k4 k5 GX BK BPt
      obtain ⟨rfl, GX, BK, BPt⟩ := hcut
      cases hany : FL.any (fun x => ftB x f)
      rotate_left
      · as_aux_lemma =>
          have BQt := FX.bq GX
          have BRt := FX.cr GX
          have hMM : Hid (∀ n, MOut w g (some ⟨b, o, none⟩) L c d F ds ls (addF FL r.k) (wc.drewN n)) := fun n => by
            rw [show addF FL r.k = FL by rw [hk]; exact if_pos hany]
            exact MOut.same ((FX.mn GX).drewN n) (belowNN (FX.bl GX) n)
          obtain ⟨t0, t1⟩ := BPt.two
          obtain ⟨q0, q1, q2, q3, q9⟩ := BQt.four
          clear q9
          obtain ⟨⟨l0, l1, l2, l3, l4, l5⟩, ⟨f0, f1, f2, f3, f4, f5⟩⟩ := BRt.six
          have hGG := FX.hb
          have RQ : Hid (∀ n, Bk (World.drewN wc n) _ _ _) := fun n => BRt.drewN n
          clear BPt BQt BRt
          go_upto_region 54 with fail
          go_step
          go_step
          go_step
          go_step
          go_step
          go_step
          go_step
          go_step
          refine wp_build2 60 _ _ 0 1 (by rfl) _ _ _ (arrival_build _ _ r.p _) (by rfl) (by rfl) ?_
          repeat (first | go_guarded | go_step)
          exact hok.out _ _ t ho hpe rfl rfl rfl (((((((RQ.out 0).setS _).setS _).setS _).setS _).setS _).setS _) (MOut.set6 (hMM.out 0) (RQ.out 0) hGG (by omega) (by decide))
      as_aux_lemma =>
        have M3 := FX.mn (FX.keep GX (Below.refl wc.heap.size wc).drew)
        have hgl := M3.blk.lt
        obtain ⟨v7, w7, r7, O7, D7, K7, g7⟩ := app_el (w := wc.drew) uFts infoFt rfl (by omega) (by omega) 56 M3.facts (us := ftC f) rfl (ftC_one f) hfl (by omega)
        have r7' : (Builtin.append_ #[56, 56] 56 #[.slice F FL.length cF, .slice (some ⟨wc.heap.size, 0, none⟩) 1 1]).run Tryz.prog (wc.alloc (.cells #[.int .i64 f.i, .int .i64 f.p.s, .int .i64 f.p.d, .int .i64 f.p.sp, .int .i64 f.p.dp, .int .i64 f.n] 85)).drew = .ok v7 w7 := r7
        have hM7 := mout_more M3 (FX.bl (FX.keep GX (Below.refl wc.heap.size wc).drew)) O7 D7 K7 g7
        have BPt' := Bk.more M3 (show Bk wc.drew _ _ _ from BPt) (by decide) (by decide) K7 (v7 := v7)
        have BQt' := Bk.more M3 (FX.bq (FX.keep GX (Below.refl wc.heap.size wc).drew)) (by decide) (by decide) K7 (v7 := v7)
        have BRt' := Bk.more M3 (FX.cr (FX.keep GX (Below.refl wc.heap.size wc).drew)) (by decide) (by decide) K7 (v7 := v7)
        have hMM : Hid (∀ n, MOut w g (some ⟨b, o, none⟩) L c d F ds ls (addF FL r.k) ((w7.setCell ⟨g, 2, none⟩ v7).drewN n)) := fun n => by
          rw [show addF FL r.k = FL ++ [f] by rw [hk]; exact if_neg (by rw [hany]; exact Bool.false_ne_true)]
          exact hM7.drewN n
        have cg2 := (FX.cg GX).2.2
        have cg3 := (FX.cg (FX.keep GX ((Below.refl wc.heap.size wc).alloc (Nat.le_refl _) (.cells #[.int .i64 f.i, .int .i64 f.p.s, .int .i64 f.p.d, .int .i64 f.p.sp, .int .i64 f.p.dp, .int .i64 f.n] 85)))).2.2
        obtain ⟨⟨k0, k1, k2, k3, k4, k5⟩, kx⟩ := BK.six
        have B7 := D7.block g (by omega)
        have BG7 : Bk w7 g _ _ := B7.trans M3.blk
        have d7 := BG7.at 2
        have f7 := BG7.fz 2
        obtain ⟨A7, q7, hv7, xx7⟩ := own_sl O7
        subst hv7
        clear kx xx7 M3 r7 O7 D7 K7 g7 hM7 B7 BG7 GX BK BPt
        repeat (first | go_guarded | go_step)
        go_cut [283] from 284 to 295 (fun v283 wx => wx = w7.setCell ⟨g, 2, none⟩ (.slice A7 _ q7))
        case first =>
          refine wp_region_any (by kernel_rfl) ?_
          change wpAny _ _ _ _ _ _ _ (World.drew _)
          refine' wpAny_take (i := 0) (v := _) rfl (by kernel_rfl) (by kernel_rfl) (by kernel_rfl) (fun _ _ _ h => h) (Or.inl ⟨by rfl, ?gy31⟩) ?gr31
          case gy31 => (intro w; go_simp; (try with_reducible rfl))
          try simp only [lays]
          refine' wpAny_take (i := 1) (v := _) rfl (by kernel_rfl) (by kernel_rfl) (by kernel_rfl) (fun _ _ _ h => h) (Or.inl ⟨by rfl, ?gy32⟩) ?gr32
          case gy32 => (intro w; go_simp; (try with_reducible rfl))
          try simp only [lays]
          refine' wpAny_take (i := 2) (v := _) rfl (by kernel_rfl) (by kernel_rfl) (by kernel_rfl) (fun _ _ _ h => h) (Or.inl ⟨by rfl, ?gy33⟩) ?gr33
          case gy33 => (intro w; go_simp; (try with_reducible rfl))
          try simp only [lays]
          refine' wpAny_take (i := 3) (v := _) rfl (by kernel_rfl) (by kernel_rfl) (by kernel_rfl) (fun _ _ _ h => h) (Or.inl ⟨by rfl, ?gy34⟩) ?gr34
          case gy34 => (intro w; go_simp; (try with_reducible rfl))
          try simp only [lays]
          refine' wpAny_take (i := 5) (v := _) rfl (by kernel_rfl) (by kernel_rfl) (by kernel_rfl) (fun _ _ _ h => h) (Or.inl ⟨by rfl, ?gy35⟩) ?gr35
          case gy35 => (intro w; go_simp; (try with_reducible rfl))
          try simp only [lays]
          refine' wpAny_take (i := 6) (v := _) rfl (by kernel_rfl) (by kernel_rfl) (by kernel_rfl) (fun _ _ _ h => h) (Or.inl ⟨by rfl, ?gy36⟩) ?gr36
          case gy36 => (intro w; go_simp; (try with_reducible rfl))
          try simp only [lays]
          refine wpAny_ready (rs := [4, 7]) (by kernel_rfl) (by simp) ?_
          refine AllReady.cons rfl (fun K0 hK => ?_) ?_
          · go_simp
            refine hK _ _ ?_
            clear hK K0
            try simp only [lays]
            refine wpAny_ready (rs := [7]) (by kernel_rfl) (by simp) ?_
            refine AllReady.cons rfl (fun K0 hK => ?_) AllReady.nil
            go_simp
            refine hK _ _ ?_
            clear hK K0
            try simp only [lays]
            refine wpAny_ready (rs := [8]) (by kernel_rfl) (by simp) ?_
            refine AllReady.cons rfl (fun K0 hK => ?_) AllReady.nil
            refine step_slice1 (by rfl) _ _ (by rfl) _ (by rfl) _ _ (fact_slice f _) ?_
            refine hK _ _ ?_
            clear hK K0
            try simp only [lays]
            refine wpAny_ready (rs := [9]) (by kernel_rfl) (by simp) ?_
            refine AllReady.cons rfl (fun K0 hK => ?_) AllReady.nil
            refine step_append_run (by rfl) _ _ 56 (by rfl) _ _ _ w7 (by rfl) (by rfl) r7' ?_
            refine hK _ _ ?_
            clear hK K0
            try simp only [lays]
            refine' wpAny_take (i := 10) (v := _) rfl (by kernel_rfl) (by kernel_rfl) (by kernel_rfl) (fun _ _ _ h => h) (Or.inl ⟨by rfl, ?gy37⟩) ?gr37
            case gy37 => (intro w; go_simp; (try with_reducible rfl))
            try simp only [lays]
            refine' wpAny_take (i := 11) (v := _) rfl (by kernel_rfl) (by kernel_rfl) (by kernel_rfl) (fun _ _ _ h => h) (Or.inl ⟨by rfl, ?gy38⟩) ?gr38
            case gy38 => (intro w; go_simp; (try with_reducible rfl))
            try simp only [lays]
            refine wpAny_ready (rs := [12]) (by kernel_rfl) (by simp) ?_
            refine AllReady.cons rfl (fun K0 hK => ?_) AllReady.nil
            go_simp
            refine hK _ _ ?_
            clear hK K0
            try simp only [lays]
            refine wpAny_done (by kernel_rfl) ?_ _
            repeat (first | go_guarded | go_step)
            go_meet
            rfl
          refine AllReady.cons rfl (fun K0 hK => ?_) AllReady.nil
          go_simp
          refine hK _ _ ?_
          clear hK K0
          try simp only [lays]
          refine wpAny_ready (rs := [4, 8]) (by kernel_rfl) (by simp) ?_
          refine AllReady.cons rfl (fun K0 hK => ?_) ?_
          · go_simp
            refine hK _ _ ?_
            clear hK K0
            try simp only [lays]
            refine wpAny_ready (rs := [8]) (by kernel_rfl) (by simp) ?_
            refine AllReady.cons rfl (fun K0 hK => ?_) AllReady.nil
            refine step_slice1 (by rfl) _ _ (by rfl) _ (by rfl) _ _ (fact_slice f _) ?_
            refine hK _ _ ?_
            clear hK K0
            try simp only [lays]
            refine wpAny_ready (rs := [9]) (by kernel_rfl) (by simp) ?_
            refine AllReady.cons rfl (fun K0 hK => ?_) AllReady.nil
            refine step_append_run (by rfl) _ _ 56 (by rfl) _ _ _ w7 (by rfl) (by rfl) r7' ?_
            refine hK _ _ ?_
            clear hK K0
            try simp only [lays]
            refine' wpAny_take (i := 10) (v := _) rfl (by kernel_rfl) (by kernel_rfl) (by kernel_rfl) (fun _ _ _ h => h) (Or.inl ⟨by rfl, ?gy39⟩) ?gr39
            case gy39 => (intro w; go_simp; (try with_reducible rfl))
            try simp only [lays]
            refine' wpAny_take (i := 11) (v := _) rfl (by kernel_rfl) (by kernel_rfl) (by kernel_rfl) (fun _ _ _ h => h) (Or.inl ⟨by rfl, ?gy40⟩) ?gr40
            case gy40 => (intro w; go_simp; (try with_reducible rfl))
            try simp only [lays]
            refine wpAny_ready (rs := [12]) (by kernel_rfl) (by simp) ?_
            refine AllReady.cons rfl (fun K0 hK => ?_) AllReady.nil
            go_simp
            refine hK _ _ ?_
            clear hK K0
            try simp only [lays]
            refine wpAny_done (by kernel_rfl) ?_ _
            repeat (first | go_guarded | go_step)
            go_meet
            rfl
          refine AllReady.cons rfl (fun K0 hK => ?_) AllReady.nil
          refine step_slice1 (by rfl) _ _ (by rfl) _ (by rfl) _ _ (fact_slice f _) ?_
          refine hK _ _ ?_
          clear hK K0
          try simp only [lays]
          refine wpAny_ready (rs := [4]) (by kernel_rfl) (by simp) ?_
          refine AllReady.cons rfl (fun K0 hK => ?_) AllReady.nil
          go_simp
          refine hK _ _ ?_
          clear hK K0
          try simp only [lays]
          refine wpAny_ready (rs := [9]) (by kernel_rfl) (by simp) ?_
          refine AllReady.cons rfl (fun K0 hK => ?_) AllReady.nil
          refine step_append_run (by rfl) _ _ 56 (by rfl) _ _ _ w7 (by rfl) (by rfl) r7' ?_
          refine hK _ _ ?_
          clear hK K0
          try simp only [lays]
          refine' wpAny_take (i := 10) (v := _) rfl (by kernel_rfl) (by kernel_rfl) (by kernel_rfl) (fun _ _ _ h => h) (Or.inl ⟨by rfl, ?gy41⟩) ?gr41
          case gy41 => (intro w; go_simp; (try with_reducible rfl))
          try simp only [lays]
          refine' wpAny_take (i := 11) (v := _) rfl (by kernel_rfl) (by kernel_rfl) (by kernel_rfl) (fun _ _ _ h => h) (Or.inl ⟨by rfl, ?gy42⟩) ?gr42
          case gy42 => (intro w; go_simp; (try with_reducible rfl))
          try simp only [lays]
          refine wpAny_ready (rs := [12]) (by kernel_rfl) (by simp) ?_
          refine AllReady.cons rfl (fun K0 hK => ?_) AllReady.nil
          go_simp
          refine hK _ _ ?_
          clear hK K0
          try simp only [lays]
          refine wpAny_done (by kernel_rfl) ?_ _
          repeat (first | go_guarded | go_step)
          go_meet
          rfl
        case rest =>
          subst hcut
          obtain ⟨t0, t1⟩ := BPt'.two
          obtain ⟨q0, q1, q2, q3, q9⟩ := BQt'.four
          clear q9
          obtain ⟨⟨l0, l1, l2, l3, l4, l5⟩, ⟨f0, f1, f2, f3, f4, f5⟩⟩ := BRt'.six
          have hGG := FX.hb
          have RQ : Hid (∀ n, Bk (World.drewN (w7.setCell ⟨g, 2, none⟩ (.slice A7 _ q7)) n) _ _ _) := fun n => BRt'.drewN n
          clear BPt' BQt' BRt'
          go_upto_region 54 with fail
          go_step
          go_step
          go_step
          go_step
          go_step
          go_step
          go_step
          go_step
          refine wp_build2 60 _ _ 0 1 (by rfl) _ _ _ (arrival_build _ _ r.p _) (by rfl) (by rfl) ?_
          repeat (first | go_guarded | go_step)
          exact hok.out _ _ t ho hpe rfl rfl rfl (((((((RQ.out 0).setS _).setS _).setS _).setS _).setS _).setS _) (MOut.set6 (hMM.out 0) (RQ.out 0) hGG (by omega) (by decide))
end Go.Proofs.YthioedgnambomaaGreat


