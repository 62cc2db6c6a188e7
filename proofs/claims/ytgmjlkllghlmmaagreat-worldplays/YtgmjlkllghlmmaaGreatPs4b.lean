/-
  StepPlays: the switch, kind 4 at port 0.
-/
import Derived.Test.YtgmjlkllghlmmaaGreatLy
import Derived.Test.YtgmjlkllghlmmaaGreatPs1
namespace Go.Proofs.YtgmjlkllghlmmaaGreat
open Go.RowKit Go.Maps

set_option maxHeartbeats 8000000 in
set_option maxRecDepth 1000000 in
theorem sw_k4b {w w8 : World} {g b o : Nat} {L : Option Addr} {c d : Nat} {F : Option Addr} {cF : Nat} {ds : List Dv} {ls : List Lk} {FL : List Ft} {j : Nat} {q : Int} {p : Pk} {ch : Int} {dv : Dv} {Ab Ar At : Option Addr} {nb cb nr cr nt ct : Nat} {D Q : Nat} {G : Pk → World → Prop} {r : MR} (HR : Hid (mSend dv FL (j : Int) q p ch = r)) (HKK : Hid (dv.kind = 4)) (hq0 : q = 0) (FX : HFacts w g (some ⟨b, o, none⟩) L c d F cF ds ls FL (j : Int) q p ch dv 4 (.slice Ab nb cb) (.slice Ar nr cr) (.slice At nt ct) D Q G) (G8 : G p w8) (R : Ending → World → Prop) (hret : Hid (Rets w g (some ⟨b, o, none⟩) L c d F ds ls FL r (QZ R))) (c1 c2 c3 c4 c15 c16 c17 c18 c19 c20 c21 c22 c23 c24 c25 c26 c27 c28 c29 c30 c31 c32 c33 c34 c35 c36 c37 c38 c39 c40 c41 c42 c43 c44 c45 c46 c47 c48 c49 c50 c51 c52 c53 c54 c55 c56 c57 c58 c59 c60 c61 c62 c63 c64 c65 c66 c67 c68 c69 c70 c72 c73 c74 c75 c76 c77 c78 c79 c80 c81 c82 c83 c84 c85 c86 c87 c88 c89 c90 c91 c92 c93 c94 c95 c96 c97 c98 c99 c100 c101 c102 c103 c104 c105 c106 c107 c108 c109 c110 c111 c112 c113 c114 c115 c116 c117 c118 c119 c120 c121 c122 c123 c124 c125 c126 c127 c128 c129 c130 c131 c132 c133 c134 c135 c136 c137 c138 c139 c140 c141 c142 c143 c144 c145 c146 c147 c148 c149 c150 c151 c152 c153 c154 c155 c156 c157 c158 c159 c160 c161 c162 c163 c164 c165 c166 c167 c168 c169 c170 c171 c172 c173 c174 c175 c176 c177 c178 c179 c180 c181 c182 c183 c184 c185 c186 c187 c188 c189 c190 c191 c192 c193 c194 c195 c196 c197 c198 c199 c200 c201 c202 c203 c204 c205 c206 c207 c208 c209 c210 c211 c212 c213 c214 c215 c216 c217 c218 c219 c220 c221 c222 c223 c224 c225 c226 c227 c228 c229 c230 c231 c232 c233 c234 c235 c236 c237 c238 c239 c240 c241 c242 c243 c244 c245 c246 c247 c248 c249 c250 c251 c252 c253 c254 c255 c256 c257 c258 c259 c260 c261 c262 c263 c264 c265 c266 c267 c268 c269 c270 c271 c272 c273 c274 c275 c276 c277 c278 c279 c280 c281 c282 c283 c284 c285 c286 c287 c288 c289 c290 c291 c292 c293 c294 c295 c296 c297 c298 : Value) (J K' : Act → World → Prop) (h1 : ∀ a' w', SwR w g D Q 4 c1 c2 c3 c4 c21 c22 c23 c24 c25 c26 c27 c28 c29 c30 c31 c32 c33 c34 c35 c36 c37 c38 c39 c40 c41 c42 c43 c44 c45 c46 c47 c48 c49 c50 c51 c52 c53 c54 c55 c56 c57 c58 c59 c60 c61 c62 c63 c64 c65 c66 c67 c68 c69 c70 c252 c253 c254 c255 c256 c257 c258 c259 c260 c261 c262 c263 c264 c265 c266 c267 c268 c269 c270 c271 c272 c273 c274 c275 c276 c277 c278 c279 c280 c281 c282 c283 c284 c285 c286 c287 c288 c289 c290 c291 c292 c293 c294 c295 c296 c297 c298 (fun v11 v12 v14 wx => v11 = .bool r.out ∧ v12 = .int .i64 r.port ∧ KN r.k v14 wx ∧ G r.p wx ∧ r.err = 0) a' w' → J a' w') (h2 : ∀ a' w', Met J a' w' → K' a' w') : swCode.wp Tryz.prog (Exit.then K' (QZ R)) ⟨#[.pointer (some ⟨g, 0, none⟩), c1, c2, c3, c4, .pointer (some ⟨w.heap.size, 0, none⟩), .pointer (some ⟨w.heap.size + 1, 0, none⟩), .pointer (some ⟨w.heap.size + 1 + 1, 0, none⟩), .pointer (some ⟨w.heap.size + 1 + 1 + 1, 0, none⟩), .int .i64 0, .pointer (some ⟨D, 0, none⟩), .bool false, .int .i64 (1 - q), .pointer (some ⟨Q, 0, none⟩), .pointer none, c15, c16, c17, c18, c19, c20, c21, c22, c23, c24, c25, c26, c27, c28, c29, c30, c31, c32, c33, c34, c35, c36, c37, c38, c39, c40, c41, c42, c43, c44, c45, c46, c47, c48, c49, c50, c51, c52, c53, c54, c55, c56, c57, c58, c59, c60, c61, c62, c63, c64, c65, c66, c67, c68, c69, c70, .int .i64 4, c72, c73, c74, c75, c76, c77, c78, c79, c80, c81, c82, c83, c84, c85, c86, c87, c88, c89, c90, c91, c92, c93, c94, c95, c96, c97, c98, c99, c100, c101, c102, c103, c104, c105, c106, c107, c108, c109, c110, c111, c112, c113, c114, c115, c116, c117, c118, c119, c120, c121, c122, c123, c124, c125, c126, c127, c128, c129, c130, c131, c132, c133, c134, c135, c136, c137, c138, c139, c140, c141, c142, c143, c144, c145, c146, c147, c148, c149, c150, c151, c152, c153, c154, c155, c156, c157, c158, c159, c160, c161, c162, c163, c164, c165, c166, c167, c168, c169, c170, c171, c172, c173, c174, c175, c176, c177, c178, c179, c180, c181, c182, c183, c184, c185, c186, c187, c188, c189, c190, c191, c192, c193, c194, c195, c196, c197, c198, c199, c200, c201, c202, c203, c204, c205, c206, c207, c208, c209, c210, c211, c212, c213, c214, c215, c216, c217, c218, c219, c220, c221, c222, c223, c224, c225, c226, c227, c228, c229, c230, c231, c232, c233, c234, c235, c236, c237, c238, c239, c240, c241, c242, c243, c244, c245, c246, c247, c248, c249, c250, c251, c252, c253, c254, c255, c256, c257, c258, c259, c260, c261, c262, c263, c264, c265, c266, c267, c268, c269, c270, c271, c272, c273, c274, c275, c276, c277, c278, c279, c280, c281, c282, c283, c284, c285, c286, c287, c288, c289, c290, c291, c292, c293, c294, c295, c296, c297, c298], []⟩ w8 := by
  unfold SwR at h1
  conv => arg 2; whnf
  have d1 := (FX.cd G8).1
  have n2 : ¬ dv.kind = 2 := by rw [HKK.out]; decide
  have n3 : ¬ dv.kind = 3 := by rw [HKK.out]; decide
  subst hq0
  obtain ⟨a0, a1⟩ := FX.ca G8
  obtain ⟨p0, p1, p2, p3⟩ := FX.cp G8
  have GO := FX.keep G8 ((Below.refl w8.heap.size w8).alloc (Nat.le_refl _) (.cells #[.int .i64 p.s, .int .i64 0, .int .i64 p.sp, .int .i64 0] 39))
  have BO := bk_new w8 #[.int .i64 p.s, .int .i64 0, .int .i64 p.sp, .int .i64 0] 39
  go_upto_region 24 with fail
  go_step
  go_step
  go_step
  go_step
  go_step
  go_step
  go_step
  go_step
  go_step
  go_step
  go_step
  go_step
  go_step
  go_step
  refine wp_build2 39 _ _ 0 2 (by rfl) _ _ _ (pk_build2 p.s p.sp _) (by rfl) (by rfl) ?_
  repeat (first | go_guarded | go_step)
  refine (FX.f3 GO w8.heap.size ⟨p.s, 0, p.sp, 0⟩ BO).mono ?_
  rintro e w9 ⟨x, rfl, hx, hb9⟩
  dsimp only
  have G9 := FX.keep GO hb9
  have B9 := BO.keep hb9
  have c0 := FX.cc G9
  clear d1 a0 a1 p0 p1 p2 p3 GO BO hb9 G8
  generalize w8.heap.size = O at *
  rcases hx.out with ⟨rfl, hno⟩ | ⟨k, f, rfl, hk, hfd, jk⟩
  rotate_left
  · clear jk
    as_aux_lemma =>
      have hv : r = ⟨0, true, 1, ⟨dv.addr, p.d, f.n, p.dp⟩, some ⟨(j : Int), ⟨p.s, 0, p.sp, 0⟩, f.n⟩⟩ := by
        rw [← HR.out]
        unfold mSend
        rw [if_neg n2, if_neg n3, if_pos HKK.out, if_pos rfl, hfd]
      subst hv
      obtain ⟨fb, fo, hF, y1, y3, y5, uu1, uu2⟩ := FX.fact G9 hk
      have g2 := (FX.cg G9).2.2
      rw [hF] at g2
      clear HR n2 n3 hx hk hfd hF y1 y3 hret
      have AB := (Below.refl w9.heap.size w9).alloc (Nat.le_refl _) (.cells #[.int .i64 (j : Int), .int .i64 p.s, .int .i64 0, .int .i64 p.sp, .int .i64 0, .int .i64 f.n] 101)
      have GB := FX.keep G9 AB
      obtain ⟨a0, a1⟩ := FX.ca G9
      obtain ⟨o0, o1, o2, o3, jk⟩ := B9.four
      clear jk
      obtain ⟨b0, b1⟩ := FX.ca GB
      obtain ⟨r0, r1, r2, r3, jk⟩ := (B9.keep AB).four
      clear jk b1 a1
      have KB := bk_new w9 #[.int .i64 (j : Int), .int .i64 p.s, .int .i64 0, .int .i64 p.sp, .int .i64 0, .int .i64 f.n] 101
      go_upto_region 33 with fail
      go_cut [11, 14] from 180 to 185 (fun v11 v14 wx => v11 = .bool true ∧ ∃ K, v14 = .pointer (some ⟨K, 0, none⟩) ∧ Bk wx K #[.int .i64 (j : Int), .int .i64 p.s, .int .i64 0, .int .i64 p.sp, .int .i64 0, .int .i64 f.n] 101 ∧ G p wx)
      case first =>
        refine wp_region_held_drew (S := fun w' => w'.cell? ⟨w.heap.size, 0, none⟩ = some (.int .i64 (j : Int)) ∧ w'.cell? ⟨O, 0, none⟩ = some (.int .i64 p.s) ∧ w'.cell? ⟨O, 1, none⟩ = some (.int .i64 0) ∧ w'.cell? ⟨O, 2, none⟩ = some (.int .i64 p.sp) ∧ w'.cell? ⟨O, 3, none⟩ = some (.int .i64 0)) (by kernel_rfl) ⟨a0, o0, o1, o2, o3⟩ (fun hHeld => ?_)
        refine' tk 0 rfl (by kernel_rfl) (fun _ _ _ h => h) (by rfl) (by assumption) ?y1 ?r1
        case y1 => (intro w h; (try dsimp only at h); go_simp; (try with_reducible rfl))
        try simp only [lays]
        refine' tk 1 rfl (by kernel_rfl) (fun _ _ _ h => h) (by rfl) (by assumption) ?y2 ?r2
        case y2 => (intro w h; (try dsimp only at h); go_simp; (try with_reducible rfl))
        try simp only [lays]
        refine' tk 2 rfl (by kernel_rfl) (fun _ _ _ h => h) (by rfl) (by assumption) ?y3 ?r3
        case y3 => (intro w h; (try dsimp only at h); go_simp; (try with_reducible rfl))
        try simp only [lays]
        refine' tk 3 rfl (by kernel_rfl) (fun _ _ _ h => h) (by rfl) (by assumption) ?y4 ?r4
        case y4 => (intro w h; (try dsimp only at h); go_simp; (try with_reducible rfl))
        try simp only [lays]
        refine' wpAnyH_take (i := 4) (v := _) rfl (by kernel_rfl) (by kernel_rfl) (by kernel_rfl) (fun _ _ _ h => h) (yields_build3 (by rfl) 101 _ _ _ 0 1 2 (by rfl) _ _ _ _ (fun w => fact_build (j : Int) f.n ⟨p.s, 0, p.sp, 0⟩ w) (by rfl) (by rfl) (by rfl)) (by assumption) ?gr5
        try simp only [lays]
        refine' tk 6 rfl (by kernel_rfl) (fun _ _ _ h => h) (by rfl) (by assumption) ?y6 ?r6
        case y6 => (intro w h; (try dsimp only at h); go_simp; (try with_reducible rfl))
        try simp only [lays]
        refine wpAnyH_ready (rs := [5]) (by kernel_rfl) (by simp) (AllReadyH.cons rfl (fun K hK => ?_) AllReadyH.nil)
        go_simp
        skip
        try go_wp2_with fail
        clear hHeld
        refine hK.out _ _ (⟨b0, r0, r1, r2, r3⟩) (fun hHeld => ?_)
        clear hK K
        try simp only [lays]
        refine' tk 7 rfl (by kernel_rfl) (fun _ _ _ h => h) (by rfl) (by assumption) ?y7 ?r7
        case y7 => (intro w h; (try dsimp only at h); go_simp; (try with_reducible rfl))
        try simp only [lays]
        refine wpAnyH_done (by kernel_rfl) ?_ _
        repeat (first | go_guarded | go_step)
        go_meet
        first
          | exact ⟨rfl, _, rfl, KB, GB⟩
          | exact ⟨rfl, _, rfl, KB, FX.keep GB (Below.refl _ _).drew⟩
      case rest =>
        clear GB KB AB a0 o0 o1 o2 o3 b0 r0 r1 r2 r3
        obtain ⟨rfl, K, rfl, KB, GB⟩ := hcut
        have hKQ : K ≠ Q := fun e => by
          have hq := FX.bq GB
          rw [← e] at hq
          unfold Bk at KB hq
          rw [KB] at hq
          simp only [Option.some.injEq, Obj.cells.injEq] at hq
          exact absurd hq.2.1 (by decide)
        have d2 := (FX.cd GB).2.1
        obtain ⟨q0, q1, q2, q3, z0, z1, z2, z3⟩ := FX.cq GB
        have GC := FX.s2 (FX.s0 GB dv.addr) f.n
        have KC : Bk ((wc.setCell ⟨Q, 0, none⟩ (.int .i64 dv.addr)).setCell ⟨Q, 2, none⟩ (.int .i64 f.n)) K #[.int .i64 (j : Int), .int .i64 p.s, .int .i64 0, .int .i64 p.sp, .int .i64 0, .int .i64 f.n] 101 := (KB.setO hKQ _).setO hKQ _
        clear q1 q3 z1 z3
        repeat (first | go_guarded | go_step)
        go_meet
        exact ⟨rfl, by simp, ⟨K, rfl, KC⟩, GC, rfl⟩
  have IC : Hid (∀ W, Calls Tryz.prog 23 #[.int .i64 ch, .int .i64 0, .int .i64 7] W fun e w' => e = .returned (.bool (poB ch)) ∧ w' = W) := fun W => by
    have := finR ch 0 7 W
    rw [poB_in] at this
    exact this
  have HC : Hid (∀ W, Calls Tryz.prog 39 #[.int .i64 (dv.pool : Int), .int .i64 ch] W fun e w' => e = .returned (.bool (hasB dv.pool ch)) ∧ w' = W) := fun W => rhas_int dv.pool ch W (Nat.lt_trans dv.hp (by decide))
  have d3 := (FX.cd G9).2.2.1
  have hwp : wrap64 (dv.pool : Int) = (dv.pool : Int) := by
    have := dv.hp
    unfold wrap64
    omega
  clear hx
  repeat (first | go_guarded | go_step)
  refine (IC.out _).mono ?_
  rintro e w' ⟨rfl, hx⟩
  obtain rfl := hx.symm
  dsimp only
  cases hpo : poB ch
  · as_aux_lemma =>
      have hv : r = ⟨1, false, 0, p, none⟩ := by
        rw [← HR.out]
        unfold mSend
        rw [if_neg n2, if_neg n3, if_pos HKK.out, if_pos rfl, hno]
        show (if poolB dv ch = true then _ else _) = _
        rw [show poolB dv ch = false by unfold poolB; rw [hpo]; rfl, if_neg Bool.false_ne_true]
      subst hv
      clear HR HC IC
      have R9 := FX.cr G9
      obtain ⟨⟨l0, l1, l2, l3, l4, l5⟩, ⟨f0, f1, f2, f3, f4, f5⟩⟩ := R9.six
      have hf : Hid (MOut w g (some ⟨b, o, none⟩) L c d F ds ls FL w9) := MOut.same (FX.mn G9) (FX.bl G9)
      have RQ : Hid (Bk _ _ _ _) := R9
      have hGG := FX.hb
      clear R9
      repeat (first | go_guarded | go_step)
      exact hret.out _ _ rfl rfl rfl (show (1 : Int) ≠ 0 by decide) (Bk.zero6 RQ.out) (MOut.set6 hf.out RQ.out hGG (by omega) (by decide))
  have hhb : hasB dv.pool ch = poolB dv ch := hasB_pool hpo
  rw [hhb] at HC
  repeat (first | go_guarded | go_step)
  rw [hwp]
  refine (HC.out _).mono ?_
  rintro e w' ⟨rfl, hx⟩
  obtain rfl := hx.symm
  dsimp only
  cases hpl : poolB dv ch
  · as_aux_lemma =>
      have hv : r = ⟨1, false, 0, p, none⟩ := by
        rw [← HR.out]
        unfold mSend
        rw [if_neg n2, if_neg n3, if_pos HKK.out, if_pos rfl, hno]
        show (if poolB dv ch = true then _ else _) = _
        rw [hpl, if_neg Bool.false_ne_true]
      subst hv
      clear HR HC IC
      have R9 := FX.cr G9
      obtain ⟨⟨l0, l1, l2, l3, l4, l5⟩, ⟨f0, f1, f2, f3, f4, f5⟩⟩ := R9.six
      have hf : Hid (MOut w g (some ⟨b, o, none⟩) L c d F ds ls FL w9) := MOut.same (FX.mn G9) (FX.bl G9)
      have RQ : Hid (Bk _ _ _ _) := R9
      have hGG := FX.hb
      clear R9
      repeat (first | go_guarded | go_step)
      exact hret.out _ _ rfl rfl rfl (show (1 : Int) ≠ 0 by decide) (Bk.zero6 RQ.out) (MOut.set6 hf.out RQ.out hGG (by omega) (by decide))
  repeat (first | go_guarded | go_step)
  refine (FX.f4 G9).mono ?_
  rintro e w10 ⟨x, rfl, hx, hb10⟩
  dsimp only
  have GX := FX.keep G9 hb10
  have BX := B9.keep hb10
  clear c0 d3 HC IC hb10 G9 B9
  cases hal : FL.any (ofPort (j : Int) ch)
  rotate_left
  · as_aux_lemma =>
      have hv : r = ⟨6, false, 0, p, none⟩ := by
        rw [← HR.out]
        unfold mSend
        rw [if_neg n2, if_neg n3, if_pos HKK.out, if_pos rfl, hno]
        show (if poolB dv ch = true then _ else _) = _
        rw [hpl, if_pos rfl]
        show (if FL.any (ofPort (j : Int) ch) = true then _ else _) = _
        rw [hal, if_pos rfl]
      subst hv
      have hxa := idx_any hx.out
      rw [hal] at hxa
      clear HR hx
      have R9 := FX.cr GX
      obtain ⟨⟨l0, l1, l2, l3, l4, l5⟩, ⟨f0, f1, f2, f3, f4, f5⟩⟩ := R9.six
      have hf : Hid (MOut w g (some ⟨b, o, none⟩) L c d F ds ls FL w10) := MOut.same (FX.mn GX) (FX.bl GX)
      have RQ : Hid (Bk _ _ _ _) := R9
      have hGG := FX.hb
      clear R9
      repeat (first | go_guarded | go_step)
      exact hret.out _ _ rfl rfl rfl (show (6 : Int) ≠ 0 by decide) (Bk.zero6 RQ.out) (MOut.set6 hf.out RQ.out hGG (by omega) (by decide))
  as_aux_lemma =>
    have hv : r = ⟨0, true, 1, ⟨dv.addr, p.d, ch, p.dp⟩, some ⟨(j : Int), ⟨p.s, 0, p.sp, 0⟩, ch⟩⟩ := by
      rw [← HR.out]
      unfold mSend
      rw [if_neg n2, if_neg n3, if_pos HKK.out, if_pos rfl, hno]
      show (if poolB dv ch = true then _ else _) = _
      rw [hpl, if_pos rfl]
      show (if FL.any (ofPort (j : Int) ch) = true then _ else _) = _
      rw [hal, if_neg Bool.false_ne_true]
    subst hv
    have hxa := idx_any hx.out
    rw [hal] at hxa
    clear HR n2 n3 hx hret
    have AB := (Below.refl w10.heap.size w10).alloc (Nat.le_refl _) (.cells #[.int .i64 (j : Int), .int .i64 p.s, .int .i64 0, .int .i64 p.sp, .int .i64 0, .int .i64 ch] 101)
    have GB := FX.keep GX AB
    obtain ⟨a0, a1⟩ := FX.ca GX
    obtain ⟨o0, o1, o2, o3, jk⟩ := BX.four
    clear jk
    obtain ⟨b0, b1⟩ := FX.ca GB
    obtain ⟨r0, r1, r2, r3, jk⟩ := (BX.keep AB).four
    clear jk b1 a1
    have KB := bk_new w10 #[.int .i64 (j : Int), .int .i64 p.s, .int .i64 0, .int .i64 p.sp, .int .i64 0, .int .i64 ch] 101
    go_upto_region 33 with fail
    go_cut [11, 14] from 180 to 185 (fun v11 v14 wx => v11 = .bool true ∧ ∃ K, v14 = .pointer (some ⟨K, 0, none⟩) ∧ Bk wx K #[.int .i64 (j : Int), .int .i64 p.s, .int .i64 0, .int .i64 p.sp, .int .i64 0, .int .i64 ch] 101 ∧ G p wx)
    case first =>
      refine wp_region_held_drew (S := fun w' => w'.cell? ⟨w.heap.size, 0, none⟩ = some (.int .i64 (j : Int)) ∧ w'.cell? ⟨O, 0, none⟩ = some (.int .i64 p.s) ∧ w'.cell? ⟨O, 1, none⟩ = some (.int .i64 0) ∧ w'.cell? ⟨O, 2, none⟩ = some (.int .i64 p.sp) ∧ w'.cell? ⟨O, 3, none⟩ = some (.int .i64 0)) (by kernel_rfl) ⟨a0, o0, o1, o2, o3⟩ (fun hHeld => ?_)
      refine' tk 0 rfl (by kernel_rfl) (fun _ _ _ h => h) (by rfl) (by assumption) ?y8 ?r8
      case y8 => (intro w h; (try dsimp only at h); go_simp; (try with_reducible rfl))
      try simp only [lays]
      refine' tk 1 rfl (by kernel_rfl) (fun _ _ _ h => h) (by rfl) (by assumption) ?y9 ?r9
      case y9 => (intro w h; (try dsimp only at h); go_simp; (try with_reducible rfl))
      try simp only [lays]
      refine' tk 2 rfl (by kernel_rfl) (fun _ _ _ h => h) (by rfl) (by assumption) ?y10 ?r10
      case y10 => (intro w h; (try dsimp only at h); go_simp; (try with_reducible rfl))
      try simp only [lays]
      refine' tk 3 rfl (by kernel_rfl) (fun _ _ _ h => h) (by rfl) (by assumption) ?y11 ?r11
      case y11 => (intro w h; (try dsimp only at h); go_simp; (try with_reducible rfl))
      try simp only [lays]
      refine' wpAnyH_take (i := 4) (v := _) rfl (by kernel_rfl) (by kernel_rfl) (by kernel_rfl) (fun _ _ _ h => h) (yields_build3 (by rfl) 101 _ _ _ 0 1 2 (by rfl) _ _ _ _ (fun w => fact_build (j : Int) ch ⟨p.s, 0, p.sp, 0⟩ w) (by rfl) (by rfl) (by rfl)) (by assumption) ?gr12
      try simp only [lays]
      refine' tk 6 rfl (by kernel_rfl) (fun _ _ _ h => h) (by rfl) (by assumption) ?y13 ?r13
      case y13 => (intro w h; (try dsimp only at h); go_simp; (try with_reducible rfl))
      try simp only [lays]
      refine wpAnyH_ready (rs := [5]) (by kernel_rfl) (by simp) (AllReadyH.cons rfl (fun K hK => ?_) AllReadyH.nil)
      go_simp
      skip
      try go_wp2_with fail
      clear hHeld
      refine hK.out _ _ (⟨b0, r0, r1, r2, r3⟩) (fun hHeld => ?_)
      clear hK K
      try simp only [lays]
      refine' tk 7 rfl (by kernel_rfl) (fun _ _ _ h => h) (by rfl) (by assumption) ?y14 ?r14
      case y14 => (intro w h; (try dsimp only at h); go_simp; (try with_reducible rfl))
      try simp only [lays]
      refine wpAnyH_done (by kernel_rfl) ?_ _
      repeat (first | go_guarded | go_step)
      go_meet
      first
        | exact ⟨rfl, _, rfl, KB, GB⟩
        | exact ⟨rfl, _, rfl, KB, FX.keep GB (Below.refl _ _).drew⟩
    case rest =>
      clear GB KB AB a0 o0 o1 o2 o3 b0 r0 r1 r2 r3
      obtain ⟨rfl, K, rfl, KB, GB⟩ := hcut
      have hKQ : K ≠ Q := fun e => by
        have hq := FX.bq GB
        rw [← e] at hq
        unfold Bk at KB hq
        rw [KB] at hq
        simp only [Option.some.injEq, Obj.cells.injEq] at hq
        exact absurd hq.2.1 (by decide)
      have d2 := (FX.cd GB).2.1
      obtain ⟨q0, q1, q2, q3, z0, z1, z2, z3⟩ := FX.cq GB
      have GC := FX.s2 (FX.s0 GB dv.addr) ch
      have KC : Bk ((wc.setCell ⟨Q, 0, none⟩ (.int .i64 dv.addr)).setCell ⟨Q, 2, none⟩ (.int .i64 ch)) K #[.int .i64 (j : Int), .int .i64 p.s, .int .i64 0, .int .i64 p.sp, .int .i64 0, .int .i64 ch] 101 := (KB.setO hKQ _).setO hKQ _
      clear q1 q3 z1 z3
      repeat (first | go_guarded | go_step)
      go_meet
      exact ⟨rfl, by simp, ⟨K, rfl, KC⟩, GC, rfl⟩
end Go.Proofs.YtgmjlkllghlmmaaGreat
