/-
  StepPlays: the switch, kind 2.
-/
import Derived.Test.YtgmjlkllghlmmaaGreatPs1
namespace Go.Proofs.YtgmjlkllghlmmaaGreat
open Go.RowKit Go.Maps

set_option maxHeartbeats 8000000 in
set_option maxRecDepth 1000000 in
theorem sw_k2 {w w8 : World} {g b o : Nat} {L : Option Addr} {c d : Nat} {F : Option Addr} {cF : Nat} {ds : List Dv} {ls : List Lk} {FL : List Ft} {j : Nat} {q : Int} {p : Pk} {ch : Int} {dv : Dv} {Ab Ar At : Option Addr} {nb cb nr cr nt ct : Nat} {D Q : Nat} {G : Pk → World → Prop} {r : MR} (HR : Hid (mSend dv FL (j : Int) q p ch = r)) (HKK : Hid (dv.kind = 2)) (FX : HFacts w g (some ⟨b, o, none⟩) L c d F cF ds ls FL (j : Int) q p ch dv 2 (.slice Ab nb cb) (.slice Ar nr cr) (.slice At nt ct) D Q G) (G8 : G p w8) (R : Ending → World → Prop) (hret : Hid (Rets w g (some ⟨b, o, none⟩) L c d F ds ls FL r (QZ R))) (c1 c2 c3 c4 c15 c16 c17 c18 c19 c20 c21 c22 c23 c24 c25 c26 c27 c28 c29 c30 c31 c32 c33 c34 c35 c36 c37 c38 c39 c40 c41 c42 c43 c44 c45 c46 c47 c48 c49 c50 c51 c52 c53 c54 c55 c56 c57 c58 c59 c60 c61 c62 c63 c64 c65 c66 c67 c68 c69 c70 c72 c73 c74 c75 c76 c77 c78 c79 c80 c81 c82 c83 c84 c85 c86 c87 c88 c89 c90 c91 c92 c93 c94 c95 c96 c97 c98 c99 c100 c101 c102 c103 c104 c105 c106 c107 c108 c109 c110 c111 c112 c113 c114 c115 c116 c117 c118 c119 c120 c121 c122 c123 c124 c125 c126 c127 c128 c129 c130 c131 c132 c133 c134 c135 c136 c137 c138 c139 c140 c141 c142 c143 c144 c145 c146 c147 c148 c149 c150 c151 c152 c153 c154 c155 c156 c157 c158 c159 c160 c161 c162 c163 c164 c165 c166 c167 c168 c169 c170 c171 c172 c173 c174 c175 c176 c177 c178 c179 c180 c181 c182 c183 c184 c185 c186 c187 c188 c189 c190 c191 c192 c193 c194 c195 c196 c197 c198 c199 c200 c201 c202 c203 c204 c205 c206 c207 c208 c209 c210 c211 c212 c213 c214 c215 c216 c217 c218 c219 c220 c221 c222 c223 c224 c225 c226 c227 c228 c229 c230 c231 c232 c233 c234 c235 c236 c237 c238 c239 c240 c241 c242 c243 c244 c245 c246 c247 c248 c249 c250 c251 c252 c253 c254 c255 c256 c257 c258 c259 c260 c261 c262 c263 c264 c265 c266 c267 c268 c269 c270 c271 c272 c273 c274 c275 c276 c277 c278 c279 c280 c281 c282 c283 c284 c285 c286 c287 c288 c289 c290 c291 c292 c293 c294 c295 c296 c297 c298 : Value) (J K' : Act → World → Prop) (h1 : ∀ a' w', SwR w g D Q 2 c1 c2 c3 c4 c21 c22 c23 c24 c25 c26 c27 c28 c29 c30 c31 c32 c33 c34 c35 c36 c37 c38 c39 c40 c41 c42 c43 c44 c45 c46 c47 c48 c49 c50 c51 c52 c53 c54 c55 c56 c57 c58 c59 c60 c61 c62 c63 c64 c65 c66 c67 c68 c69 c70 c252 c253 c254 c255 c256 c257 c258 c259 c260 c261 c262 c263 c264 c265 c266 c267 c268 c269 c270 c271 c272 c273 c274 c275 c276 c277 c278 c279 c280 c281 c282 c283 c284 c285 c286 c287 c288 c289 c290 c291 c292 c293 c294 c295 c296 c297 c298 (fun v11 v12 v14 wx => v11 = .bool r.out ∧ v12 = .int .i64 r.port ∧ KN r.k v14 wx ∧ G r.p wx ∧ r.err = 0) a' w' → J a' w') (h2 : ∀ a' w', Met J a' w' → K' a' w') : swCode.wp Tryz.prog (Exit.then K' (QZ R)) ⟨#[.pointer (some ⟨g, 0, none⟩), c1, c2, c3, c4, .pointer (some ⟨w.heap.size, 0, none⟩), .pointer (some ⟨w.heap.size + 1, 0, none⟩), .pointer (some ⟨w.heap.size + 1 + 1, 0, none⟩), .pointer (some ⟨w.heap.size + 1 + 1 + 1, 0, none⟩), .int .i64 0, .pointer (some ⟨D, 0, none⟩), .bool false, .int .i64 (1 - q), .pointer (some ⟨Q, 0, none⟩), .pointer none, c15, c16, c17, c18, c19, c20, c21, c22, c23, c24, c25, c26, c27, c28, c29, c30, c31, c32, c33, c34, c35, c36, c37, c38, c39, c40, c41, c42, c43, c44, c45, c46, c47, c48, c49, c50, c51, c52, c53, c54, c55, c56, c57, c58, c59, c60, c61, c62, c63, c64, c65, c66, c67, c68, c69, c70, .int .i64 2, c72, c73, c74, c75, c76, c77, c78, c79, c80, c81, c82, c83, c84, c85, c86, c87, c88, c89, c90, c91, c92, c93, c94, c95, c96, c97, c98, c99, c100, c101, c102, c103, c104, c105, c106, c107, c108, c109, c110, c111, c112, c113, c114, c115, c116, c117, c118, c119, c120, c121, c122, c123, c124, c125, c126, c127, c128, c129, c130, c131, c132, c133, c134, c135, c136, c137, c138, c139, c140, c141, c142, c143, c144, c145, c146, c147, c148, c149, c150, c151, c152, c153, c154, c155, c156, c157, c158, c159, c160, c161, c162, c163, c164, c165, c166, c167, c168, c169, c170, c171, c172, c173, c174, c175, c176, c177, c178, c179, c180, c181, c182, c183, c184, c185, c186, c187, c188, c189, c190, c191, c192, c193, c194, c195, c196, c197, c198, c199, c200, c201, c202, c203, c204, c205, c206, c207, c208, c209, c210, c211, c212, c213, c214, c215, c216, c217, c218, c219, c220, c221, c222, c223, c224, c225, c226, c227, c228, c229, c230, c231, c232, c233, c234, c235, c236, c237, c238, c239, c240, c241, c242, c243, c244, c245, c246, c247, c248, c249, c250, c251, c252, c253, c254, c255, c256, c257, c258, c259, c260, c261, c262, c263, c264, c265, c266, c267, c268, c269, c270, c271, c272, c273, c274, c275, c276, c277, c278, c279, c280, c281, c282, c283, c284, c285, c286, c287, c288, c289, c290, c291, c292, c293, c294, c295, c296, c297, c298], []⟩ w8 := by
  unfold SwR at h1
  conv => arg 2; whnf
  have d1 := (FX.cd G8).1
  have hv : r = ⟨0, outB (routesOf dv) p.d && letsB (rulesOf dv) p.s p.d p.sp p.dp, outN (routesOf dv) p.d, p, none⟩ := by
    rw [← HR.out]
    unfold mSend
    rw [if_pos HKK.out]
  subst hv
  clear HR hret
  have d6 := (FX.cd G8).2.2.2.2.2
  obtain ⟨p0, p1, p2, p3⟩ := FX.cp G8
  go_wp2_with fail
  refine (FX.out G8).mono ?_
  rintro e w9 ⟨rfl, hb9⟩
  dsimp only
  have G9 := FX.keep G8 hb9
  clear p0 p1 p2 p3 d1 d6 hb9
  have d5 := (FX.cd G9).2.2.2.2.1
  obtain ⟨p0, p1, p2, p3⟩ := FX.cp G9
  cases ho : outB (routesOf dv) p.d
  · go_wp2_with fail
    go_meet
    exact ⟨by simp [ho], rfl, rfl, G9, rfl⟩
  · go_wp2_with fail
    refine (FX.lets G9).mono ?_
    rintro e w10 ⟨rfl, hb10⟩
    dsimp only
    have G10 := FX.keep G9 hb10
    clear p0 p1 p2 p3 d5 hb10
    go_wp2_with fail
    go_meet
    exact ⟨by simp [ho], rfl, rfl, G10, rfl⟩
end Go.Proofs.YtgmjlkllghlmmaaGreat

namespace Go.Proofs.YtgmjlkllghlmmaaGreat
open Go.RowKit Go.Maps

set_option maxHeartbeats 8000000 in
set_option maxRecDepth 1000000 in
theorem sw_k3 {w w8 : World} {g b o : Nat} {L : Option Addr} {c d : Nat} {F : Option Addr} {cF : Nat} {ds : List Dv} {ls : List Lk} {FL : List Ft} {j : Nat} {q : Int} {p : Pk} {ch : Int} {dv : Dv} {Ab Ar At : Option Addr} {nb cb nr cr nt ct : Nat} {D Q : Nat} {G : Pk → World → Prop} {r : MR} (HR : Hid (mSend dv FL (j : Int) q p ch = r)) (HKK : Hid (dv.kind = 3)) (hq4 : 0 ≤ q) (hq5 : q < 2) (FX : HFacts w g (some ⟨b, o, none⟩) L c d F cF ds ls FL (j : Int) q p ch dv 3 (.slice Ab nb cb) (.slice Ar nr cr) (.slice At nt ct) D Q G) (G8 : G p w8) (R : Ending → World → Prop) (hret : Hid (Rets w g (some ⟨b, o, none⟩) L c d F ds ls FL r (QZ R))) (c1 c2 c3 c4 c15 c16 c17 c18 c19 c20 c21 c22 c23 c24 c25 c26 c27 c28 c29 c30 c31 c32 c33 c34 c35 c36 c37 c38 c39 c40 c41 c42 c43 c44 c45 c46 c47 c48 c49 c50 c51 c52 c53 c54 c55 c56 c57 c58 c59 c60 c61 c62 c63 c64 c65 c66 c67 c68 c69 c70 c72 c73 c74 c75 c76 c77 c78 c79 c80 c81 c82 c83 c84 c85 c86 c87 c88 c89 c90 c91 c92 c93 c94 c95 c96 c97 c98 c99 c100 c101 c102 c103 c104 c105 c106 c107 c108 c109 c110 c111 c112 c113 c114 c115 c116 c117 c118 c119 c120 c121 c122 c123 c124 c125 c126 c127 c128 c129 c130 c131 c132 c133 c134 c135 c136 c137 c138 c139 c140 c141 c142 c143 c144 c145 c146 c147 c148 c149 c150 c151 c152 c153 c154 c155 c156 c157 c158 c159 c160 c161 c162 c163 c164 c165 c166 c167 c168 c169 c170 c171 c172 c173 c174 c175 c176 c177 c178 c179 c180 c181 c182 c183 c184 c185 c186 c187 c188 c189 c190 c191 c192 c193 c194 c195 c196 c197 c198 c199 c200 c201 c202 c203 c204 c205 c206 c207 c208 c209 c210 c211 c212 c213 c214 c215 c216 c217 c218 c219 c220 c221 c222 c223 c224 c225 c226 c227 c228 c229 c230 c231 c232 c233 c234 c235 c236 c237 c238 c239 c240 c241 c242 c243 c244 c245 c246 c247 c248 c249 c250 c251 c252 c253 c254 c255 c256 c257 c258 c259 c260 c261 c262 c263 c264 c265 c266 c267 c268 c269 c270 c271 c272 c273 c274 c275 c276 c277 c278 c279 c280 c281 c282 c283 c284 c285 c286 c287 c288 c289 c290 c291 c292 c293 c294 c295 c296 c297 c298 : Value) (J K' : Act → World → Prop) (h1 : ∀ a' w', SwR w g D Q 3 c1 c2 c3 c4 c21 c22 c23 c24 c25 c26 c27 c28 c29 c30 c31 c32 c33 c34 c35 c36 c37 c38 c39 c40 c41 c42 c43 c44 c45 c46 c47 c48 c49 c50 c51 c52 c53 c54 c55 c56 c57 c58 c59 c60 c61 c62 c63 c64 c65 c66 c67 c68 c69 c70 c252 c253 c254 c255 c256 c257 c258 c259 c260 c261 c262 c263 c264 c265 c266 c267 c268 c269 c270 c271 c272 c273 c274 c275 c276 c277 c278 c279 c280 c281 c282 c283 c284 c285 c286 c287 c288 c289 c290 c291 c292 c293 c294 c295 c296 c297 c298 (fun v11 v12 v14 wx => v11 = .bool r.out ∧ v12 = .int .i64 r.port ∧ KN r.k v14 wx ∧ G r.p wx ∧ r.err = 0) a' w' → J a' w') (h2 : ∀ a' w', Met J a' w' → K' a' w') : swCode.wp Tryz.prog (Exit.then K' (QZ R)) ⟨#[.pointer (some ⟨g, 0, none⟩), c1, c2, c3, c4, .pointer (some ⟨w.heap.size, 0, none⟩), .pointer (some ⟨w.heap.size + 1, 0, none⟩), .pointer (some ⟨w.heap.size + 1 + 1, 0, none⟩), .pointer (some ⟨w.heap.size + 1 + 1 + 1, 0, none⟩), .int .i64 0, .pointer (some ⟨D, 0, none⟩), .bool false, .int .i64 (1 - q), .pointer (some ⟨Q, 0, none⟩), .pointer none, c15, c16, c17, c18, c19, c20, c21, c22, c23, c24, c25, c26, c27, c28, c29, c30, c31, c32, c33, c34, c35, c36, c37, c38, c39, c40, c41, c42, c43, c44, c45, c46, c47, c48, c49, c50, c51, c52, c53, c54, c55, c56, c57, c58, c59, c60, c61, c62, c63, c64, c65, c66, c67, c68, c69, c70, .int .i64 3, c72, c73, c74, c75, c76, c77, c78, c79, c80, c81, c82, c83, c84, c85, c86, c87, c88, c89, c90, c91, c92, c93, c94, c95, c96, c97, c98, c99, c100, c101, c102, c103, c104, c105, c106, c107, c108, c109, c110, c111, c112, c113, c114, c115, c116, c117, c118, c119, c120, c121, c122, c123, c124, c125, c126, c127, c128, c129, c130, c131, c132, c133, c134, c135, c136, c137, c138, c139, c140, c141, c142, c143, c144, c145, c146, c147, c148, c149, c150, c151, c152, c153, c154, c155, c156, c157, c158, c159, c160, c161, c162, c163, c164, c165, c166, c167, c168, c169, c170, c171, c172, c173, c174, c175, c176, c177, c178, c179, c180, c181, c182, c183, c184, c185, c186, c187, c188, c189, c190, c191, c192, c193, c194, c195, c196, c197, c198, c199, c200, c201, c202, c203, c204, c205, c206, c207, c208, c209, c210, c211, c212, c213, c214, c215, c216, c217, c218, c219, c220, c221, c222, c223, c224, c225, c226, c227, c228, c229, c230, c231, c232, c233, c234, c235, c236, c237, c238, c239, c240, c241, c242, c243, c244, c245, c246, c247, c248, c249, c250, c251, c252, c253, c254, c255, c256, c257, c258, c259, c260, c261, c262, c263, c264, c265, c266, c267, c268, c269, c270, c271, c272, c273, c274, c275, c276, c277, c278, c279, c280, c281, c282, c283, c284, c285, c286, c287, c288, c289, c290, c291, c292, c293, c294, c295, c296, c297, c298], []⟩ w8 := by
  unfold SwR at h1
  conv => arg 2; whnf
  have d1 := (FX.cd G8).1
  have n2 : ¬ dv.kind = 2 := by rw [HKK.out]; decide
  by_cases hq0 : q = 0
  · subst hq0
    have hv : r = ⟨0, letsB (rulesOf dv) p.s p.d p.sp p.dp, 1, p, some ⟨(j : Int), p, 0⟩⟩ := by
      rw [← HR.out]
      unfold mSend
      rw [if_neg n2, if_pos HKK.out, if_pos rfl]
    subst hv
    clear HR n2 hret
    obtain ⟨a0, a1⟩ := FX.ca G8
    have d5 := (FX.cd G8).2.2.2.2.1
    obtain ⟨p0, p1, p2, p3⟩ := FX.cp G8
    go_wp2_with fail
    refine (FX.lets G8).mono ?_
    rintro e w9 ⟨rfl, hb9⟩
    dsimp only
    have G9 := FX.keep G8 hb9
    have GA := FX.keep G9 ((Below.refl w9.heap.size w9).alloc (Nat.le_refl _) (.cells #[.int .i64 (j : Int), .int .i64 p.s, .int .i64 p.d, .int .i64 p.sp, .int .i64 p.dp, .int .i64 0] 101))
    clear p0 p1 p2 p3 d1 d5 hb9 a0 a1
    obtain ⟨a0, a1⟩ := FX.ca G9
    obtain ⟨p0, p1, p2, p3⟩ := FX.cp G9
    go_upto_region 16 with fail
    go_step
    go_step
    go_step
    go_step
    go_step
    go_step
    go_step
    go_step
    go_step
    go_step
    go_step
    refine wp_build3 101 _ _ _ 0 1 2 (by rfl) _ _ _ _ (fact_build0 (j : Int) p _) (by rfl) (by rfl) (by rfl) ?_
    go_wp2_with fail
    go_meet
    exact ⟨rfl, by simp, ⟨_, rfl, bk_new w9 _ _⟩, GA, rfl⟩
  · obtain rfl : q = 1 := by omega
    have hv : r = ⟨0, FL.any (ofFlow (j : Int) (flipP p)), 0, p, none⟩ := by
      rw [← HR.out]
      unfold mSend
      rw [if_neg n2, if_pos HKK.out, if_neg hq0]
    subst hv
    clear HR n2 hq0 hret
    obtain ⟨a0, a1⟩ := FX.ca G8
    go_wp2_with fail
    refine (FX.f1 G8).mono ?_
    rintro e w9 ⟨x, rfl, hx, hb9⟩
    dsimp only
    have G9 := FX.keep G8 hb9
    clear d1 a0 a1 hb9
    go_wp2_with fail
    go_meet
    refine ⟨?_, by simp, rfl, G9, rfl⟩
    rw [← idx_any hx.out]
end Go.Proofs.YtgmjlkllghlmmaaGreat

namespace Go.Proofs.YtgmjlkllghlmmaaGreat
open Go.RowKit Go.Maps

set_option maxHeartbeats 8000000 in
set_option maxRecDepth 1000000 in
theorem sw_kx {w w8 : World} {g b o : Nat} {L : Option Addr} {c d : Nat} {F : Option Addr} {cF : Nat} {ds : List Dv} {ls : List Lk} {FL : List Ft} {j : Nat} {q : Int} {p : Pk} {ch : Int} {dv : Dv} {Ab Ar At : Option Addr} {nb cb nr cr nt ct : Nat} {D Q : Nat} {G : Pk → World → Prop} {r : MR} {kd : Int} (HR : Hid (mSend dv FL (j : Int) q p ch = r)) (HKK : Hid (dv.kind = kd)) (h2' : ¬ kd = 2) (h3 : ¬ kd = 3) (h4 : ¬ kd = 4) (h5 : ¬ kd = 5) (FX : HFacts w g (some ⟨b, o, none⟩) L c d F cF ds ls FL (j : Int) q p ch dv kd (.slice Ab nb cb) (.slice Ar nr cr) (.slice At nt ct) D Q G) (G8 : G p w8) (R : Ending → World → Prop) (hret : Hid (Rets w g (some ⟨b, o, none⟩) L c d F ds ls FL r (QZ R))) (c1 c2 c3 c4 c15 c16 c17 c18 c19 c20 c21 c22 c23 c24 c25 c26 c27 c28 c29 c30 c31 c32 c33 c34 c35 c36 c37 c38 c39 c40 c41 c42 c43 c44 c45 c46 c47 c48 c49 c50 c51 c52 c53 c54 c55 c56 c57 c58 c59 c60 c61 c62 c63 c64 c65 c66 c67 c68 c69 c70 c72 c73 c74 c75 c76 c77 c78 c79 c80 c81 c82 c83 c84 c85 c86 c87 c88 c89 c90 c91 c92 c93 c94 c95 c96 c97 c98 c99 c100 c101 c102 c103 c104 c105 c106 c107 c108 c109 c110 c111 c112 c113 c114 c115 c116 c117 c118 c119 c120 c121 c122 c123 c124 c125 c126 c127 c128 c129 c130 c131 c132 c133 c134 c135 c136 c137 c138 c139 c140 c141 c142 c143 c144 c145 c146 c147 c148 c149 c150 c151 c152 c153 c154 c155 c156 c157 c158 c159 c160 c161 c162 c163 c164 c165 c166 c167 c168 c169 c170 c171 c172 c173 c174 c175 c176 c177 c178 c179 c180 c181 c182 c183 c184 c185 c186 c187 c188 c189 c190 c191 c192 c193 c194 c195 c196 c197 c198 c199 c200 c201 c202 c203 c204 c205 c206 c207 c208 c209 c210 c211 c212 c213 c214 c215 c216 c217 c218 c219 c220 c221 c222 c223 c224 c225 c226 c227 c228 c229 c230 c231 c232 c233 c234 c235 c236 c237 c238 c239 c240 c241 c242 c243 c244 c245 c246 c247 c248 c249 c250 c251 c252 c253 c254 c255 c256 c257 c258 c259 c260 c261 c262 c263 c264 c265 c266 c267 c268 c269 c270 c271 c272 c273 c274 c275 c276 c277 c278 c279 c280 c281 c282 c283 c284 c285 c286 c287 c288 c289 c290 c291 c292 c293 c294 c295 c296 c297 c298 : Value) (J K' : Act → World → Prop) (h1 : ∀ a' w', SwR w g D Q kd c1 c2 c3 c4 c21 c22 c23 c24 c25 c26 c27 c28 c29 c30 c31 c32 c33 c34 c35 c36 c37 c38 c39 c40 c41 c42 c43 c44 c45 c46 c47 c48 c49 c50 c51 c52 c53 c54 c55 c56 c57 c58 c59 c60 c61 c62 c63 c64 c65 c66 c67 c68 c69 c70 c252 c253 c254 c255 c256 c257 c258 c259 c260 c261 c262 c263 c264 c265 c266 c267 c268 c269 c270 c271 c272 c273 c274 c275 c276 c277 c278 c279 c280 c281 c282 c283 c284 c285 c286 c287 c288 c289 c290 c291 c292 c293 c294 c295 c296 c297 c298 (fun v11 v12 v14 wx => v11 = .bool r.out ∧ v12 = .int .i64 r.port ∧ KN r.k v14 wx ∧ G r.p wx ∧ r.err = 0) a' w' → J a' w') (h2 : ∀ a' w', Met J a' w' → K' a' w') : swCode.wp Tryz.prog (Exit.then K' (QZ R)) ⟨#[.pointer (some ⟨g, 0, none⟩), c1, c2, c3, c4, .pointer (some ⟨w.heap.size, 0, none⟩), .pointer (some ⟨w.heap.size + 1, 0, none⟩), .pointer (some ⟨w.heap.size + 1 + 1, 0, none⟩), .pointer (some ⟨w.heap.size + 1 + 1 + 1, 0, none⟩), .int .i64 0, .pointer (some ⟨D, 0, none⟩), .bool false, .int .i64 (1 - q), .pointer (some ⟨Q, 0, none⟩), .pointer none, c15, c16, c17, c18, c19, c20, c21, c22, c23, c24, c25, c26, c27, c28, c29, c30, c31, c32, c33, c34, c35, c36, c37, c38, c39, c40, c41, c42, c43, c44, c45, c46, c47, c48, c49, c50, c51, c52, c53, c54, c55, c56, c57, c58, c59, c60, c61, c62, c63, c64, c65, c66, c67, c68, c69, c70, .int .i64 kd, c72, c73, c74, c75, c76, c77, c78, c79, c80, c81, c82, c83, c84, c85, c86, c87, c88, c89, c90, c91, c92, c93, c94, c95, c96, c97, c98, c99, c100, c101, c102, c103, c104, c105, c106, c107, c108, c109, c110, c111, c112, c113, c114, c115, c116, c117, c118, c119, c120, c121, c122, c123, c124, c125, c126, c127, c128, c129, c130, c131, c132, c133, c134, c135, c136, c137, c138, c139, c140, c141, c142, c143, c144, c145, c146, c147, c148, c149, c150, c151, c152, c153, c154, c155, c156, c157, c158, c159, c160, c161, c162, c163, c164, c165, c166, c167, c168, c169, c170, c171, c172, c173, c174, c175, c176, c177, c178, c179, c180, c181, c182, c183, c184, c185, c186, c187, c188, c189, c190, c191, c192, c193, c194, c195, c196, c197, c198, c199, c200, c201, c202, c203, c204, c205, c206, c207, c208, c209, c210, c211, c212, c213, c214, c215, c216, c217, c218, c219, c220, c221, c222, c223, c224, c225, c226, c227, c228, c229, c230, c231, c232, c233, c234, c235, c236, c237, c238, c239, c240, c241, c242, c243, c244, c245, c246, c247, c248, c249, c250, c251, c252, c253, c254, c255, c256, c257, c258, c259, c260, c261, c262, c263, c264, c265, c266, c267, c268, c269, c270, c271, c272, c273, c274, c275, c276, c277, c278, c279, c280, c281, c282, c283, c284, c285, c286, c287, c288, c289, c290, c291, c292, c293, c294, c295, c296, c297, c298], []⟩ w8 := by
  unfold SwR at h1
  conv => arg 2; whnf
  have d1 := (FX.cd G8).1
  have hv : r = ⟨0, false, 1 - q, p, none⟩ := by
    rw [← HR.out]
    unfold mSend
    rw [if_neg (by rw [HKK.out]; exact h2'), if_neg (by rw [HKK.out]; exact h3), if_neg (by rw [HKK.out]; exact h4), if_neg (by rw [HKK.out]; exact h5)]
  subst hv
  have e2 : (kd == 2) = false := by simpa using h2'
  have e3 : (kd == 3) = false := by simpa using h3
  have e4 : (kd == 4) = false := by simpa using h4
  have e5 : (kd == 5) = false := by simpa using h5
  clear HR hret
  go_wp2_with fail
  all_goals first | exact absurd (by assumption) h2' | exact absurd (by assumption) h3 | exact absurd (by assumption) h4 | exact absurd (by assumption) h5 | skip
  go_meet
  exact ⟨rfl, rfl, rfl, G8, rfl⟩
end Go.Proofs.YtgmjlkllghlmmaaGreat

namespace Go.Proofs.YtgmjlkllghlmmaaGreat
open Go.RowKit Go.Maps

set_option maxHeartbeats 8000000 in
set_option maxRecDepth 1000000 in
theorem sw_k4a {w w8 : World} {g b o : Nat} {L : Option Addr} {c d : Nat} {F : Option Addr} {cF : Nat} {ds : List Dv} {ls : List Lk} {FL : List Ft} {j : Nat} {q : Int} {p : Pk} {ch : Int} {dv : Dv} {Ab Ar At : Option Addr} {nb cb nr cr nt ct : Nat} {D Q : Nat} {G : Pk → World → Prop} {r : MR} (HR : Hid (mSend dv FL (j : Int) q p ch = r)) (HKK : Hid (dv.kind = 4)) (hq4 : 0 ≤ q) (hq5 : q < 2) (hq0 : ¬ q = 0) (FX : HFacts w g (some ⟨b, o, none⟩) L c d F cF ds ls FL (j : Int) q p ch dv 4 (.slice Ab nb cb) (.slice Ar nr cr) (.slice At nt ct) D Q G) (G8 : G p w8) (R : Ending → World → Prop) (hret : Hid (Rets w g (some ⟨b, o, none⟩) L c d F ds ls FL r (QZ R))) (c1 c2 c3 c4 c15 c16 c17 c18 c19 c20 c21 c22 c23 c24 c25 c26 c27 c28 c29 c30 c31 c32 c33 c34 c35 c36 c37 c38 c39 c40 c41 c42 c43 c44 c45 c46 c47 c48 c49 c50 c51 c52 c53 c54 c55 c56 c57 c58 c59 c60 c61 c62 c63 c64 c65 c66 c67 c68 c69 c70 c72 c73 c74 c75 c76 c77 c78 c79 c80 c81 c82 c83 c84 c85 c86 c87 c88 c89 c90 c91 c92 c93 c94 c95 c96 c97 c98 c99 c100 c101 c102 c103 c104 c105 c106 c107 c108 c109 c110 c111 c112 c113 c114 c115 c116 c117 c118 c119 c120 c121 c122 c123 c124 c125 c126 c127 c128 c129 c130 c131 c132 c133 c134 c135 c136 c137 c138 c139 c140 c141 c142 c143 c144 c145 c146 c147 c148 c149 c150 c151 c152 c153 c154 c155 c156 c157 c158 c159 c160 c161 c162 c163 c164 c165 c166 c167 c168 c169 c170 c171 c172 c173 c174 c175 c176 c177 c178 c179 c180 c181 c182 c183 c184 c185 c186 c187 c188 c189 c190 c191 c192 c193 c194 c195 c196 c197 c198 c199 c200 c201 c202 c203 c204 c205 c206 c207 c208 c209 c210 c211 c212 c213 c214 c215 c216 c217 c218 c219 c220 c221 c222 c223 c224 c225 c226 c227 c228 c229 c230 c231 c232 c233 c234 c235 c236 c237 c238 c239 c240 c241 c242 c243 c244 c245 c246 c247 c248 c249 c250 c251 c252 c253 c254 c255 c256 c257 c258 c259 c260 c261 c262 c263 c264 c265 c266 c267 c268 c269 c270 c271 c272 c273 c274 c275 c276 c277 c278 c279 c280 c281 c282 c283 c284 c285 c286 c287 c288 c289 c290 c291 c292 c293 c294 c295 c296 c297 c298 : Value) (J K' : Act → World → Prop) (h1 : ∀ a' w', SwR w g D Q 4 c1 c2 c3 c4 c21 c22 c23 c24 c25 c26 c27 c28 c29 c30 c31 c32 c33 c34 c35 c36 c37 c38 c39 c40 c41 c42 c43 c44 c45 c46 c47 c48 c49 c50 c51 c52 c53 c54 c55 c56 c57 c58 c59 c60 c61 c62 c63 c64 c65 c66 c67 c68 c69 c70 c252 c253 c254 c255 c256 c257 c258 c259 c260 c261 c262 c263 c264 c265 c266 c267 c268 c269 c270 c271 c272 c273 c274 c275 c276 c277 c278 c279 c280 c281 c282 c283 c284 c285 c286 c287 c288 c289 c290 c291 c292 c293 c294 c295 c296 c297 c298 (fun v11 v12 v14 wx => v11 = .bool r.out ∧ v12 = .int .i64 r.port ∧ KN r.k v14 wx ∧ G r.p wx ∧ r.err = 0) a' w' → J a' w') (h2 : ∀ a' w', Met J a' w' → K' a' w') : swCode.wp Tryz.prog (Exit.then K' (QZ R)) ⟨#[.pointer (some ⟨g, 0, none⟩), c1, c2, c3, c4, .pointer (some ⟨w.heap.size, 0, none⟩), .pointer (some ⟨w.heap.size + 1, 0, none⟩), .pointer (some ⟨w.heap.size + 1 + 1, 0, none⟩), .pointer (some ⟨w.heap.size + 1 + 1 + 1, 0, none⟩), .int .i64 0, .pointer (some ⟨D, 0, none⟩), .bool false, .int .i64 (1 - q), .pointer (some ⟨Q, 0, none⟩), .pointer none, c15, c16, c17, c18, c19, c20, c21, c22, c23, c24, c25, c26, c27, c28, c29, c30, c31, c32, c33, c34, c35, c36, c37, c38, c39, c40, c41, c42, c43, c44, c45, c46, c47, c48, c49, c50, c51, c52, c53, c54, c55, c56, c57, c58, c59, c60, c61, c62, c63, c64, c65, c66, c67, c68, c69, c70, .int .i64 4, c72, c73, c74, c75, c76, c77, c78, c79, c80, c81, c82, c83, c84, c85, c86, c87, c88, c89, c90, c91, c92, c93, c94, c95, c96, c97, c98, c99, c100, c101, c102, c103, c104, c105, c106, c107, c108, c109, c110, c111, c112, c113, c114, c115, c116, c117, c118, c119, c120, c121, c122, c123, c124, c125, c126, c127, c128, c129, c130, c131, c132, c133, c134, c135, c136, c137, c138, c139, c140, c141, c142, c143, c144, c145, c146, c147, c148, c149, c150, c151, c152, c153, c154, c155, c156, c157, c158, c159, c160, c161, c162, c163, c164, c165, c166, c167, c168, c169, c170, c171, c172, c173, c174, c175, c176, c177, c178, c179, c180, c181, c182, c183, c184, c185, c186, c187, c188, c189, c190, c191, c192, c193, c194, c195, c196, c197, c198, c199, c200, c201, c202, c203, c204, c205, c206, c207, c208, c209, c210, c211, c212, c213, c214, c215, c216, c217, c218, c219, c220, c221, c222, c223, c224, c225, c226, c227, c228, c229, c230, c231, c232, c233, c234, c235, c236, c237, c238, c239, c240, c241, c242, c243, c244, c245, c246, c247, c248, c249, c250, c251, c252, c253, c254, c255, c256, c257, c258, c259, c260, c261, c262, c263, c264, c265, c266, c267, c268, c269, c270, c271, c272, c273, c274, c275, c276, c277, c278, c279, c280, c281, c282, c283, c284, c285, c286, c287, c288, c289, c290, c291, c292, c293, c294, c295, c296, c297, c298], []⟩ w8 := by
  unfold SwR at h1
  conv => arg 2; whnf
  have d1 := (FX.cd G8).1
  have n2 : ¬ dv.kind = 2 := by rw [HKK.out]; decide
  have n3 : ¬ dv.kind = 3 := by rw [HKK.out]; decide
  obtain rfl : q = 1 := by omega
  obtain ⟨a0, a1⟩ := FX.ca G8
  repeat (first | go_guarded | go_step)
  refine (FX.f2 G8).mono ?_
  rintro e w9 ⟨x, rfl, hx, hb9⟩
  dsimp only
  have G9 := FX.keep G8 hb9
  clear d1 a0 a1 hb9
  have d2 := (FX.cd G9).2.1
  have p1 := (FX.cp G9).2.1
  rcases hx.out with ⟨rfl, hno⟩ | ⟨k, f, rfl, hk, hfd, jk⟩
  · have hv : r = ⟨0, false, 0, p, none⟩ := by
      rw [← HR.out]
      unfold mSend
      rw [if_neg n2, if_neg n3, if_pos HKK.out, if_neg hq0, hno]
    subst hv
    clear HR n2 n3 hq0 hx hno hret
    cases hpa : (p.d == dv.addr)
    · as_aux_lemma =>
        repeat (first | go_guarded | go_step)
        go_meet
        exact ⟨rfl, by simp, rfl, G9, rfl⟩
    · as_aux_lemma =>
        repeat (first | go_guarded | go_step)
        go_meet
        exact ⟨rfl, by simp, rfl, G9, rfl⟩
  clear jk
  cases hpa : (p.d == dv.addr)
  · have hv : r = ⟨0, false, 0, p, none⟩ := by
      rw [← HR.out]
      unfold mSend
      rw [if_neg n2, if_neg n3, if_pos HKK.out, if_neg hq0, hfd]
      show (if (p.d == dv.addr) = true then _ else _) = _
      rw [hpa, if_neg Bool.false_ne_true]
    subst hv
    clear HR n2 n3 hq0 hx hk hfd hret
    as_aux_lemma =>
      repeat (first | go_guarded | go_step)
      go_meet
      exact ⟨rfl, by simp, rfl, G9, rfl⟩
  · have hv : r = ⟨0, true, 0, ⟨p.s, f.p.s, p.sp, f.p.sp⟩, none⟩ := by
      rw [← HR.out]
      unfold mSend
      rw [if_neg n2, if_neg n3, if_pos HKK.out, if_neg hq0, hfd]
      show (if (p.d == dv.addr) = true then _ else _) = _
      rw [hpa, if_pos rfl]
    subst hv
    obtain ⟨fb, fo, hF, y1, y3, y5, uu1, uu2⟩ := FX.fact G9 hk
    have g2 := (FX.cg G9).2.2
    obtain ⟨q0, q1, q2, q3, z0, z1, z2, z3⟩ := FX.cq G9
    have GC := FX.s3 (FX.s1 G9 f.p.s) f.p.sp
    rw [hF] at g2
    clear HR n2 n3 hq0 hx hk hfd hF y5 hret
    as_aux_lemma =>
      repeat (first | go_guarded | go_step)
      go_region
      all_goals
        repeat (first | go_guarded | go_step)
        go_meet
        exact ⟨rfl, by simp, rfl, FX.keep GC (Below.refl _ _).drew, rfl⟩
end Go.Proofs.YtgmjlkllghlmmaaGreat

namespace Go.Proofs.YtgmjlkllghlmmaaGreat
open Go.RowKit Go.Maps

set_option maxHeartbeats 8000000 in
set_option maxRecDepth 1000000 in
theorem sw_k5a {w w8 : World} {g b o : Nat} {L : Option Addr} {c d : Nat} {F : Option Addr} {cF : Nat} {ds : List Dv} {ls : List Lk} {FL : List Ft} {j : Nat} {q : Int} {p : Pk} {ch : Int} {dv : Dv} {Ab Ar At : Option Addr} {nb cb nr cr nt ct : Nat} {D Q : Nat} {G : Pk → World → Prop} {r : MR} (HR : Hid (mSend dv FL (j : Int) q p ch = r)) (HKK : Hid (dv.kind = 5)) (hq4 : 0 ≤ q) (hq5 : q < 2) (hq0 : ¬ q = 0) (FX : HFacts w g (some ⟨b, o, none⟩) L c d F cF ds ls FL (j : Int) q p ch dv 5 (.slice Ab nb cb) (.slice Ar nr cr) (.slice At nt ct) D Q G) (G8 : G p w8) (R : Ending → World → Prop) (c1 c2 c3 c4 c15 c16 c17 c18 c19 c20 c21 c22 c23 c24 c25 c26 c27 c28 c29 c30 c31 c32 c33 c34 c35 c36 c37 c38 c39 c40 c41 c42 c43 c44 c45 c46 c47 c48 c49 c50 c51 c52 c53 c54 c55 c56 c57 c58 c59 c60 c61 c62 c63 c64 c65 c66 c67 c68 c69 c70 c72 c73 c74 c75 c76 c77 c78 c79 c80 c81 c82 c83 c84 c85 c86 c87 c88 c89 c90 c91 c92 c93 c94 c95 c96 c97 c98 c99 c100 c101 c102 c103 c104 c105 c106 c107 c108 c109 c110 c111 c112 c113 c114 c115 c116 c117 c118 c119 c120 c121 c122 c123 c124 c125 c126 c127 c128 c129 c130 c131 c132 c133 c134 c135 c136 c137 c138 c139 c140 c141 c142 c143 c144 c145 c146 c147 c148 c149 c150 c151 c152 c153 c154 c155 c156 c157 c158 c159 c160 c161 c162 c163 c164 c165 c166 c167 c168 c169 c170 c171 c172 c173 c174 c175 c176 c177 c178 c179 c180 c181 c182 c183 c184 c185 c186 c187 c188 c189 c190 c191 c192 c193 c194 c195 c196 c197 c198 c199 c200 c201 c202 c203 c204 c205 c206 c207 c208 c209 c210 c211 c212 c213 c214 c215 c216 c217 c218 c219 c220 c221 c222 c223 c224 c225 c226 c227 c228 c229 c230 c231 c232 c233 c234 c235 c236 c237 c238 c239 c240 c241 c242 c243 c244 c245 c246 c247 c248 c249 c250 c251 c252 c253 c254 c255 c256 c257 c258 c259 c260 c261 c262 c263 c264 c265 c266 c267 c268 c269 c270 c271 c272 c273 c274 c275 c276 c277 c278 c279 c280 c281 c282 c283 c284 c285 c286 c287 c288 c289 c290 c291 c292 c293 c294 c295 c296 c297 c298 : Value) (J K' : Act → World → Prop) (h1 : ∀ a' w', SwR w g D Q 5 c1 c2 c3 c4 c21 c22 c23 c24 c25 c26 c27 c28 c29 c30 c31 c32 c33 c34 c35 c36 c37 c38 c39 c40 c41 c42 c43 c44 c45 c46 c47 c48 c49 c50 c51 c52 c53 c54 c55 c56 c57 c58 c59 c60 c61 c62 c63 c64 c65 c66 c67 c68 c69 c70 c252 c253 c254 c255 c256 c257 c258 c259 c260 c261 c262 c263 c264 c265 c266 c267 c268 c269 c270 c271 c272 c273 c274 c275 c276 c277 c278 c279 c280 c281 c282 c283 c284 c285 c286 c287 c288 c289 c290 c291 c292 c293 c294 c295 c296 c297 c298 (fun v11 v12 v14 wx => v11 = .bool r.out ∧ v12 = .int .i64 r.port ∧ KN r.k v14 wx ∧ G r.p wx ∧ r.err = 0) a' w' → J a' w') (h2 : ∀ a' w', Met J a' w' → K' a' w') : swCode.wp Tryz.prog (Exit.then K' (QZ R)) ⟨#[.pointer (some ⟨g, 0, none⟩), c1, c2, c3, c4, .pointer (some ⟨w.heap.size, 0, none⟩), .pointer (some ⟨w.heap.size + 1, 0, none⟩), .pointer (some ⟨w.heap.size + 1 + 1, 0, none⟩), .pointer (some ⟨w.heap.size + 1 + 1 + 1, 0, none⟩), .int .i64 0, .pointer (some ⟨D, 0, none⟩), .bool false, .int .i64 (1 - q), .pointer (some ⟨Q, 0, none⟩), .pointer none, c15, c16, c17, c18, c19, c20, c21, c22, c23, c24, c25, c26, c27, c28, c29, c30, c31, c32, c33, c34, c35, c36, c37, c38, c39, c40, c41, c42, c43, c44, c45, c46, c47, c48, c49, c50, c51, c52, c53, c54, c55, c56, c57, c58, c59, c60, c61, c62, c63, c64, c65, c66, c67, c68, c69, c70, .int .i64 5, c72, c73, c74, c75, c76, c77, c78, c79, c80, c81, c82, c83, c84, c85, c86, c87, c88, c89, c90, c91, c92, c93, c94, c95, c96, c97, c98, c99, c100, c101, c102, c103, c104, c105, c106, c107, c108, c109, c110, c111, c112, c113, c114, c115, c116, c117, c118, c119, c120, c121, c122, c123, c124, c125, c126, c127, c128, c129, c130, c131, c132, c133, c134, c135, c136, c137, c138, c139, c140, c141, c142, c143, c144, c145, c146, c147, c148, c149, c150, c151, c152, c153, c154, c155, c156, c157, c158, c159, c160, c161, c162, c163, c164, c165, c166, c167, c168, c169, c170, c171, c172, c173, c174, c175, c176, c177, c178, c179, c180, c181, c182, c183, c184, c185, c186, c187, c188, c189, c190, c191, c192, c193, c194, c195, c196, c197, c198, c199, c200, c201, c202, c203, c204, c205, c206, c207, c208, c209, c210, c211, c212, c213, c214, c215, c216, c217, c218, c219, c220, c221, c222, c223, c224, c225, c226, c227, c228, c229, c230, c231, c232, c233, c234, c235, c236, c237, c238, c239, c240, c241, c242, c243, c244, c245, c246, c247, c248, c249, c250, c251, c252, c253, c254, c255, c256, c257, c258, c259, c260, c261, c262, c263, c264, c265, c266, c267, c268, c269, c270, c271, c272, c273, c274, c275, c276, c277, c278, c279, c280, c281, c282, c283, c284, c285, c286, c287, c288, c289, c290, c291, c292, c293, c294, c295, c296, c297, c298], []⟩ w8 := by
  unfold SwR at h1
  conv => arg 2; whnf
  have d1 := (FX.cd G8).1
  have n2 : ¬ dv.kind = 2 := by rw [HKK.out]; decide
  have n3 : ¬ dv.kind = 3 := by rw [HKK.out]; decide
  have n4 : ¬ dv.kind = 4 := by rw [HKK.out]; decide
  obtain rfl : q = 1 := by omega
  obtain ⟨a0, a1⟩ := FX.ca G8
  obtain ⟨p0, p1, p2, p3⟩ := FX.cp G8
  have d2 := (FX.cd G8).2.1
  have GO := FX.keep G8 ((Below.refl w8.heap.size w8).alloc (Nat.le_refl _) (.cells #[.int .i64 p.d, .int .i64 dv.addr, .int .i64 p.dp, .int .i64 p.sp] 39))
  have BO := bk_new w8 #[.int .i64 p.d, .int .i64 dv.addr, .int .i64 p.dp, .int .i64 p.sp] 39
  go_upto_region 38 with fail
  go_step
  go_step
  go_step
  go_step
  go_step
  go_step
  go_step
  go_step
  go_step
  go_step
  go_step
  go_step
  go_step
  go_step
  go_step
  go_step
  go_step
  go_step
  go_step
  go_step
  go_step
  go_step
  go_step
  go_step
  go_step
  go_step
  refine wp_build4 39 _ _ _ _ 0 2 1 3 (by rfl) _ _ _ _ _ (pk_build4 p.d dv.addr p.dp p.sp _) (by rfl) (by rfl) (by rfl) (by rfl) ?_
  repeat (first | go_guarded | go_step)
  refine (FX.f5 GO w8.heap.size ⟨p.d, dv.addr, p.dp, p.sp⟩ BO).mono ?_
  rintro e w9 ⟨x, rfl, hx, hb9⟩
  dsimp only
  have G9 := FX.keep GO hb9
  have d2 := (FX.cd G9).2.1
  obtain ⟨q0, q1, q2, q3, z0, z1, z2, z3⟩ := FX.cq G9
  have hxa := idx_any hx.out
  clear d1 a0 a1 p0 p1 p2 p3 GO BO hb9 G8 hx
  cases hal : FL.any (fun f => ftB f ⟨(j : Int), ⟨p.d, dv.addr, p.dp, p.sp⟩, p.s⟩)
  · rw [hal] at hxa
    as_aux_lemma =>
      have hv : r = ⟨0, true, 0, p, none⟩ := by
        rw [← HR.out]
        unfold mSend
        rw [if_neg n2, if_neg n3, if_neg n4, if_pos HKK.out, if_neg hq0, if_neg (by rw [hal]; exact Bool.false_ne_true)]
      subst hv
      clear HR n2 n3 n4 hq0
      repeat (first | go_guarded | go_step)
      go_meet
      exact ⟨rfl, by simp, rfl, G9, rfl⟩
  rw [hal] at hxa
  as_aux_lemma =>
    have hv : r = ⟨0, true, 0, ⟨dv.addr, p.d, p.sp, p.dp⟩, none⟩ := by
      rw [← HR.out]
      unfold mSend
      rw [if_neg n2, if_neg n3, if_neg n4, if_pos HKK.out, if_neg hq0, if_pos hal]
    subst hv
    have GC := FX.s0 G9 dv.addr
    clear HR n2 n3 n4 hq0 q1 q2 q3 z1 z2 z3
    repeat (first | go_guarded | go_step)
    go_meet
    exact ⟨rfl, by simp, rfl, GC, rfl⟩
end Go.Proofs.YtgmjlkllghlmmaaGreat

namespace Go.Proofs.YtgmjlkllghlmmaaGreat
open Go.RowKit Go.Maps

set_option maxHeartbeats 8000000 in
set_option maxRecDepth 1000000 in
theorem sw_k5b {w w8 : World} {g b o : Nat} {L : Option Addr} {c d : Nat} {F : Option Addr} {cF : Nat} {ds : List Dv} {ls : List Lk} {FL : List Ft} {j : Nat} {q : Int} {p : Pk} {ch : Int} {dv : Dv} {Ab Ar At : Option Addr} {nb cb nr cr nt ct : Nat} {D Q : Nat} {G : Pk → World → Prop} {r : MR} (HR : Hid (mSend dv FL (j : Int) q p ch = r)) (HKK : Hid (dv.kind = 5)) (hq0 : q = 0) (hnb : nb ≤ maxLen) (FX : HFacts w g (some ⟨b, o, none⟩) L c d F cF ds ls FL (j : Int) q p ch dv 5 (.slice Ab nb cb) (.slice Ar nr cr) (.slice At nt ct) D Q G) (G8 : G p w8) (R : Ending → World → Prop) (hret : Hid (Rets w g (some ⟨b, o, none⟩) L c d F ds ls FL r (QZ R))) (c1 c2 c3 c4 c15 c16 c17 c18 c19 c20 c21 c22 c23 c24 c25 c26 c27 c28 c29 c30 c31 c32 c33 c34 c35 c36 c37 c38 c39 c40 c41 c42 c43 c44 c45 c46 c47 c48 c49 c50 c51 c52 c53 c54 c55 c56 c57 c58 c59 c60 c61 c62 c63 c64 c65 c66 c67 c68 c69 c70 c72 c73 c74 c75 c76 c77 c78 c79 c80 c81 c82 c83 c84 c85 c86 c87 c88 c89 c90 c91 c92 c93 c94 c95 c96 c97 c98 c99 c100 c101 c102 c103 c104 c105 c106 c107 c108 c109 c110 c111 c112 c113 c114 c115 c116 c117 c118 c119 c120 c121 c122 c123 c124 c125 c126 c127 c128 c129 c130 c131 c132 c133 c134 c135 c136 c137 c138 c139 c140 c141 c142 c143 c144 c145 c146 c147 c148 c149 c150 c151 c152 c153 c154 c155 c156 c157 c158 c159 c160 c161 c162 c163 c164 c165 c166 c167 c168 c169 c170 c171 c172 c173 c174 c175 c176 c177 c178 c179 c180 c181 c182 c183 c184 c185 c186 c187 c188 c189 c190 c191 c192 c193 c194 c195 c196 c197 c198 c199 c200 c201 c202 c203 c204 c205 c206 c207 c208 c209 c210 c211 c212 c213 c214 c215 c216 c217 c218 c219 c220 c221 c222 c223 c224 c225 c226 c227 c228 c229 c230 c231 c232 c233 c234 c235 c236 c237 c238 c239 c240 c241 c242 c243 c244 c245 c246 c247 c248 c249 c250 c251 c252 c253 c254 c255 c256 c257 c258 c259 c260 c261 c262 c263 c264 c265 c266 c267 c268 c269 c270 c271 c272 c273 c274 c275 c276 c277 c278 c279 c280 c281 c282 c283 c284 c285 c286 c287 c288 c289 c290 c291 c292 c293 c294 c295 c296 c297 c298 : Value) (J K' : Act → World → Prop) (h1 : ∀ a' w', SwR w g D Q 5 c1 c2 c3 c4 c21 c22 c23 c24 c25 c26 c27 c28 c29 c30 c31 c32 c33 c34 c35 c36 c37 c38 c39 c40 c41 c42 c43 c44 c45 c46 c47 c48 c49 c50 c51 c52 c53 c54 c55 c56 c57 c58 c59 c60 c61 c62 c63 c64 c65 c66 c67 c68 c69 c70 c252 c253 c254 c255 c256 c257 c258 c259 c260 c261 c262 c263 c264 c265 c266 c267 c268 c269 c270 c271 c272 c273 c274 c275 c276 c277 c278 c279 c280 c281 c282 c283 c284 c285 c286 c287 c288 c289 c290 c291 c292 c293 c294 c295 c296 c297 c298 (fun v11 v12 v14 wx => v11 = .bool r.out ∧ v12 = .int .i64 r.port ∧ KN r.k v14 wx ∧ G r.p wx ∧ r.err = 0) a' w' → J a' w') (h2 : ∀ a' w', Met J a' w' → K' a' w') : swCode.wp Tryz.prog (Exit.then K' (QZ R)) ⟨#[.pointer (some ⟨g, 0, none⟩), c1, c2, c3, c4, .pointer (some ⟨w.heap.size, 0, none⟩), .pointer (some ⟨w.heap.size + 1, 0, none⟩), .pointer (some ⟨w.heap.size + 1 + 1, 0, none⟩), .pointer (some ⟨w.heap.size + 1 + 1 + 1, 0, none⟩), .int .i64 0, .pointer (some ⟨D, 0, none⟩), .bool false, .int .i64 (1 - q), .pointer (some ⟨Q, 0, none⟩), .pointer none, c15, c16, c17, c18, c19, c20, c21, c22, c23, c24, c25, c26, c27, c28, c29, c30, c31, c32, c33, c34, c35, c36, c37, c38, c39, c40, c41, c42, c43, c44, c45, c46, c47, c48, c49, c50, c51, c52, c53, c54, c55, c56, c57, c58, c59, c60, c61, c62, c63, c64, c65, c66, c67, c68, c69, c70, .int .i64 5, c72, c73, c74, c75, c76, c77, c78, c79, c80, c81, c82, c83, c84, c85, c86, c87, c88, c89, c90, c91, c92, c93, c94, c95, c96, c97, c98, c99, c100, c101, c102, c103, c104, c105, c106, c107, c108, c109, c110, c111, c112, c113, c114, c115, c116, c117, c118, c119, c120, c121, c122, c123, c124, c125, c126, c127, c128, c129, c130, c131, c132, c133, c134, c135, c136, c137, c138, c139, c140, c141, c142, c143, c144, c145, c146, c147, c148, c149, c150, c151, c152, c153, c154, c155, c156, c157, c158, c159, c160, c161, c162, c163, c164, c165, c166, c167, c168, c169, c170, c171, c172, c173, c174, c175, c176, c177, c178, c179, c180, c181, c182, c183, c184, c185, c186, c187, c188, c189, c190, c191, c192, c193, c194, c195, c196, c197, c198, c199, c200, c201, c202, c203, c204, c205, c206, c207, c208, c209, c210, c211, c212, c213, c214, c215, c216, c217, c218, c219, c220, c221, c222, c223, c224, c225, c226, c227, c228, c229, c230, c231, c232, c233, c234, c235, c236, c237, c238, c239, c240, c241, c242, c243, c244, c245, c246, c247, c248, c249, c250, c251, c252, c253, c254, c255, c256, c257, c258, c259, c260, c261, c262, c263, c264, c265, c266, c267, c268, c269, c270, c271, c272, c273, c274, c275, c276, c277, c278, c279, c280, c281, c282, c283, c284, c285, c286, c287, c288, c289, c290, c291, c292, c293, c294, c295, c296, c297, c298], []⟩ w8 := by
  unfold SwR at h1
  conv => arg 2; whnf
  have d1 := (FX.cd G8).1
  have n2 : ¬ dv.kind = 2 := by rw [HKK.out]; decide
  have n3 : ¬ dv.kind = 3 := by rw [HKK.out]; decide
  have n4 : ¬ dv.kind = 4 := by rw [HKK.out]; decide
  subst hq0
  obtain ⟨a0, a1⟩ := FX.ca G8
  obtain ⟨p0, p1, p2, p3⟩ := FX.cp G8
  have d2 := (FX.cd G8).2.1
  cases hpa : (p.d == dv.addr)
  · have hpn : ¬ p.d = dv.addr := by simpa using hpa
    have hpb : (p.d != dv.addr) = true := by simpa using hpn
    as_aux_lemma =>
      have hv : r = ⟨0, true, 1, p, none⟩ := by
        rw [← HR.out]
        unfold mSend
        rw [if_neg n2, if_neg n3, if_neg n4, if_pos HKK.out, if_pos rfl, if_neg (by rw [hpa]; exact Bool.false_ne_true)]
      subst hv
      clear HR n2 n3 n4 hret hpn p0 p2 p3
      repeat (first | go_guarded | go_step)
      go_meet
      exact ⟨rfl, by simp, rfl, G8, rfl⟩
  have hpb : (p.d != dv.addr) = false := by simpa using hpa
  clear p0 p2 p3
  repeat (first | go_guarded | go_step)
  refine (FX.f6 G8).mono ?_
  rintro e w9 ⟨x, rfl, hx, hb9⟩
  dsimp only
  have G9 := FX.keep G8 hb9
  clear d1 d2 a0 a1 p1 hb9 G8
  rcases hx.out with ⟨rfl, hno⟩ | ⟨k, f, rfl, hk, hfd, jk⟩
  rotate_left
  · clear jk
    as_aux_lemma =>
      have hv : r = ⟨0, true, 1, ⟨p.s, f.n, p.sp, p.dp⟩, some ⟨(j : Int), p, f.n⟩⟩ := by
        rw [← HR.out]
        unfold mSend
        rw [if_neg n2, if_neg n3, if_neg n4, if_pos HKK.out, if_pos rfl, if_pos hpa, hfd]
      subst hv
      obtain ⟨fb, fo, hF, y1, y3, y5, uu1, uu2⟩ := FX.fact G9 hk
      have g2 := (FX.cg G9).2.2
      rw [hF] at g2
      clear HR n2 n3 n4 hx hk hfd hF y1 y3 hret hpa hpb
      have GC := FX.s1 G9 f.n
      have GA := FX.keep GC ((Below.refl (w9.setCell ⟨Q, 1, none⟩ (.int .i64 f.n)).heap.size (w9.setCell ⟨Q, 1, none⟩ (.int .i64 f.n))).alloc (Nat.le_refl _) (.cells #[.int .i64 (j : Int), .int .i64 p.s, .int .i64 p.d, .int .i64 p.sp, .int .i64 p.dp, .int .i64 f.n] 101))
      have KB := bk_new' (w9.setCell ⟨Q, 1, none⟩ (.int .i64 f.n)) #[.int .i64 (j : Int), .int .i64 p.s, .int .i64 p.d, .int .i64 p.sp, .int .i64 p.dp, .int .i64 f.n] 101 w9.heap.size (by simp [World.setCell])
      obtain ⟨q0, q1, q2, q3, z0, z1, z2, z3⟩ := FX.cq G9
      obtain ⟨aa0, aa1⟩ := FX.ca GC
      obtain ⟨pp0, pp1, pp2, pp3⟩ := FX.cp GC
      have qq1 := (FX.cq GC).2.1
      clear q0 q2 q3 z0 z2 z3 aa1
      go_upto_region 48 with fail
      go_step
      go_step
      go_step
      go_step
      go_step
      go_step
      go_step
      go_step
      go_step
      go_step
      go_step
      go_step
      go_step
      go_step
      go_step
      go_step
      go_step
      refine wp_build3 101 _ _ _ 0 1 2 (by rfl) _ _ _ _ (fact_build (j : Int) f.n p _) (by rfl) (by rfl) (by rfl) ?_
      repeat (first | go_guarded | go_step)
      go_meet
      exact ⟨rfl, by simp, ⟨_, rfl, KB⟩, GA, rfl⟩
  have hwb : IntKind.i64.wrap ((nb : Int) - 1) = (nb : Int) - 1 := IntWalk.i64_in _ (by unfold maxLen at hnb; omega)
  have d4 := (FX.cd G9).2.2.2.1
  have c0 := FX.cc G9
  obtain ⟨Ab', cb', hsl, hbk⟩ := FX.back G9
  obtain ⟨rfl, rfl, rfl⟩ := Value.slice.inj hsl
  clear hsl hx
  cases hin : (decide (0 ≤ ch) && decide (ch < (dv.backs.length : Int)))
  · as_aux_lemma =>
      have hv : r = ⟨1, false, 0, p, none⟩ := by
        rw [← HR.out]
        unfold mSend
        rw [if_neg n2, if_neg n3, if_neg n4, if_pos HKK.out, if_pos rfl, if_pos hpa, hno]
        show (if (decide (0 ≤ ch) && decide (ch < (dv.backs.length : Int))) = true then _ else _) = _
        rw [hin, if_neg Bool.false_ne_true]
      subst hv
      have IC : Hid (∀ W, Calls Tryz.prog 23 #[.int .i64 ch, .int .i64 0, .int .i64 ((dv.backs.length : Int) - 1)] W fun e w' => e = .returned (.bool false) ∧ w' = W) := fun W => by
        have := finR ch 0 ((dv.backs.length : Int) - 1) W
        rw [show (decide (0 ≤ ch) && decide (ch ≤ (dv.backs.length : Int) - 1)) = false by rw [← hin]; congr 1; exact decide_eq_decide.2 (by omega)] at this
        exact this
      clear HR n2 n3 n4 hpa hpb hno hin
      repeat (first | go_guarded | go_step)
      refine (IC.out _).mono ?_
      rintro e w' ⟨rfl, hx⟩
      obtain rfl := hx.symm
      dsimp only
      clear IC hwb
      have R9 := FX.cr G9
      obtain ⟨⟨l0, l1, l2, l3, l4, l5⟩, ⟨f0, f1, f2, f3, f4, f5⟩⟩ := R9.six
      have hf : Hid (MOut w g (some ⟨b, o, none⟩) L c d F ds ls FL w9) := MOut.same (FX.mn G9) (FX.bl G9)
      have RQ : Hid (Bk _ _ _ _) := R9
      have hGG := FX.hb
      clear R9
      repeat (first | go_guarded | go_step)
      exact hret.out _ _ rfl rfl rfl (show (1 : Int) ≠ 0 by decide) (Bk.zero6 RQ.out) (MOut.set6 hf.out RQ.out hGG (by omega) (by decide))
  as_aux_lemma =>
    have hc12 := hin
    simp only [Bool.and_eq_true, decide_eq_true_eq] at hc12
    obtain ⟨hc1, hc2⟩ := hc12
    obtain ⟨n9, hn9⟩ : ∃ n9, dv.backs[ch.toNat]? = some n9 := ⟨_, List.getElem?_eq_getElem (by omega)⟩
    have hg9 : dv.backs.getD ch.toNat 0 = n9 := by rw [List.getD_eq_getElem?_getD, hn9]; rfl
    have hv : r = ⟨0, true, 1, ⟨p.s, n9, p.sp, p.dp⟩, some ⟨(j : Int), p, n9⟩⟩ := by
      rw [← HR.out]
      unfold mSend
      rw [if_neg n2, if_neg n3, if_neg n4, if_pos HKK.out, if_pos rfl, if_pos hpa, hno]
      show (if (decide (0 ≤ ch) && decide (ch < (dv.backs.length : Int))) = true then _ else _) = _
      rw [hin, if_pos rfl, hg9]
    subst hv
    have IC : Hid (∀ W, Calls Tryz.prog 23 #[.int .i64 ch, .int .i64 0, .int .i64 ((dv.backs.length : Int) - 1)] W fun e w' => e = .returned (.bool true) ∧ w' = W) := fun W => by
      have := finR ch 0 ((dv.backs.length : Int) - 1) W
      rw [show (decide (0 ≤ ch) && decide (ch ≤ (dv.backs.length : Int) - 1)) = true by rw [← hin]; congr 1; exact decide_eq_decide.2 (by omega)] at this
      exact this
    obtain ⟨bb, bo, rfl, hcell⟩ := hbk hn9
    obtain ⟨k, rfl⟩ : ∃ k : Nat, ch = (k : Int) := ⟨ch.toNat, by omega⟩
    rw [Int.toNat_natCast] at hcell
    clear HR n2 n3 n4 hpa hpb hno hn9 hbk hret hg9 hin
    repeat (first | go_guarded | go_step)
    refine (IC.out _).mono ?_
    rintro e w' ⟨rfl, hx⟩
    obtain rfl := hx.symm
    dsimp only
    clear IC hwb
    have GC := FX.s1 G9 n9
    have GA := FX.keep GC ((Below.refl (w9.setCell ⟨Q, 1, none⟩ (.int .i64 n9)).heap.size (w9.setCell ⟨Q, 1, none⟩ (.int .i64 n9))).alloc (Nat.le_refl _) (.cells #[.int .i64 (j : Int), .int .i64 p.s, .int .i64 p.d, .int .i64 p.sp, .int .i64 p.dp, .int .i64 n9] 101))
    have KB := bk_new' (w9.setCell ⟨Q, 1, none⟩ (.int .i64 n9)) #[.int .i64 (j : Int), .int .i64 p.s, .int .i64 p.d, .int .i64 p.sp, .int .i64 p.dp, .int .i64 n9] 101 w9.heap.size (by simp [World.setCell])
    obtain ⟨q0, q1, q2, q3, z0, z1, z2, z3⟩ := FX.cq G9
    obtain ⟨aa0, aa1⟩ := FX.ca GC
    obtain ⟨pp0, pp1, pp2, pp3⟩ := FX.cp GC
    have qq1 := (FX.cq GC).2.1
    clear q0 q2 q3 z0 z2 z3 aa1
    go_upto_region 48 with fail
    go_step
    go_step
    go_step
    go_step
    go_step
    go_step
    go_step
    go_step
    go_step
    go_step
    go_step
    go_step
    go_step
    go_step
    go_step
    go_step
    go_step
    refine wp_build3 101 _ _ _ 0 1 2 (by rfl) _ _ _ _ (fact_build (j : Int) n9 p _) (by rfl) (by rfl) (by rfl) ?_
    repeat (first | go_guarded | go_step)
    go_meet
    exact ⟨rfl, by simp, ⟨_, rfl, KB⟩, GA, rfl⟩
end Go.Proofs.YtgmjlkllghlmmaaGreat
