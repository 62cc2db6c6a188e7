/-
  StepPlays: the switch, whole, and what follows it.
-/
import Derived.Test.YthioedgnambomaaGreatXAL
import Derived.Test.YthioedgnambomaaGreatXAM
import Derived.Deep.CutBlock
import Derived.Deep.DeepCutAuto
import Derived.Test.YthioedgnambomaaGreatXAJ
import Derived.Test.YthioedgnambomaaGreatXAI
import Derived.Deep.RegionLaw
namespace Go.Proofs.YthioedgnambomaaGreat
open Go.RowKit Go.Maps

set_option maxHeartbeats 8000000 in
set_option maxRecDepth 1000000 in
theorem sw_all {w w8 : World} {g b o : Nat} {L : Option Addr} {c d : Nat} {F : Option Addr} {cF : Nat} {ds : List Dv} {ls : List Lk} {FL : List Ft} {j : Nat} {q : Int} {p : Pk} {ch : Int} {dv : Dv} {Ab Ar At : Option Addr} {nb cb nr cr nt ct : Nat} {D Q : Nat} {G : Pk → World → Prop} {r : MR} {kd : Int} {C : Code} (hC : C = swCode) (HR : Hid (mSend dv FL (j : Int) q p ch = r)) (HKK : Hid (dv.kind = kd)) (hq4 : 0 ≤ q) (hq5 : kd ≠ 2 → q < 2) (FX : HFacts w g (some ⟨b, o, none⟩) L c d F cF ds ls FL (j : Int) q p ch dv kd (.slice Ab nb cb) (.slice Ar nr cr) (.slice At nt ct) D Q G) (G8 : G p w8) (hnb : nb ≤ maxLen) (R : Ending → World → Prop) (hret : Hid (Rets w g (some ⟨b, o, none⟩) L c d F ds ls FL r (QZ R))) (c1 c2 c3 c4 c15 c16 c17 c18 c19 c20 c21 c22 c23 c24 c25 c26 c27 c28 c29 c30 c31 c32 c33 c34 c35 c36 c37 c38 c39 c40 c41 c42 c43 c44 c45 c46 c47 c48 c49 c50 c51 c52 c53 c54 c55 c56 c57 c58 c59 c60 c61 c62 c63 c64 c65 c66 c67 c68 c69 c70 c72 c73 c74 c75 c76 c77 c78 c79 c80 c81 c82 c83 c84 c85 c86 c87 c88 c89 c90 c91 c92 c93 c94 c95 c96 c97 c98 c99 c100 c101 c102 c103 c104 c105 c106 c107 c108 c109 c110 c111 c112 c113 c114 c115 c116 c117 c118 c119 c120 c121 c122 c123 c124 c125 c126 c127 c128 c129 c130 c131 c132 c133 c134 c135 c136 c137 c138 c139 c140 c141 c142 c143 c144 c145 c146 c147 c148 c149 c150 c151 c152 c153 c154 c155 c156 c157 c158 c159 c160 c161 c162 c163 c164 c165 c166 c167 c168 c169 c170 c171 c172 c173 c174 c175 c176 c177 c178 c179 c180 c181 c182 c183 c184 c185 c186 c187 c188 c189 c190 c191 c192 c193 c194 c195 c196 c197 c198 c199 c200 c201 c202 c203 c204 c205 c206 c207 c208 c209 c210 c211 c212 c213 c214 c215 c216 c217 c218 c219 c220 c221 c222 c223 c224 c225 c226 c227 c228 c229 c230 c231 c232 c233 c234 c235 c236 c237 c238 c239 c240 c241 c242 c243 c244 c245 c246 c247 c248 c249 c250 c251 c252 c253 c254 c255 c256 c257 c258 c259 c260 c261 c262 c263 c264 c265 c266 c267 c268 c269 c270 c271 c272 c273 c274 c275 c276 c277 c278 c279 c280 c281 c282 c283 c284 c285 c286 c287 c288 c289 c290 c291 c292 c293 c294 c295 c296 c297 c298 : Value) (K' : Act → World → Prop) (hrest : ∀ a' w', SwR w g D Q kd c1 c2 c3 c4 c21 c22 c23 c24 c25 c26 c27 c28 c29 c30 c31 c32 c33 c34 c35 c36 c37 c38 c39 c40 c41 c42 c43 c44 c45 c46 c47 c48 c49 c50 c51 c52 c53 c54 c55 c56 c57 c58 c59 c60 c61 c62 c63 c64 c65 c66 c67 c68 c69 c70 c252 c253 c254 c255 c256 c257 c258 c259 c260 c261 c262 c263 c264 c265 c266 c267 c268 c269 c270 c271 c272 c273 c274 c275 c276 c277 c278 c279 c280 c281 c282 c283 c284 c285 c286 c287 c288 c289 c290 c291 c292 c293 c294 c295 c296 c297 c298 (fun v11 v12 v14 wx => v11 = .bool r.out ∧ v12 = .int .i64 r.port ∧ KN r.k v14 wx ∧ G r.p wx ∧ r.err = 0) a' w' → K' a' w') : C.wp Tryz.prog (Exit.then K' (QZ R)) ⟨#[.pointer (some ⟨g, 0, none⟩), c1, c2, c3, c4, .pointer (some ⟨w.heap.size, 0, none⟩), .pointer (some ⟨w.heap.size + 1, 0, none⟩), .pointer (some ⟨w.heap.size + 1 + 1, 0, none⟩), .pointer (some ⟨w.heap.size + 1 + 1 + 1, 0, none⟩), .int .i64 0, .pointer (some ⟨D, 0, none⟩), .bool false, .int .i64 (1 - q), .pointer (some ⟨Q, 0, none⟩), .pointer none, c15, c16, c17, c18, c19, c20, c21, c22, c23, c24, c25, c26, c27, c28, c29, c30, c31, c32, c33, c34, c35, c36, c37, c38, c39, c40, c41, c42, c43, c44, c45, c46, c47, c48, c49, c50, c51, c52, c53, c54, c55, c56, c57, c58, c59, c60, c61, c62, c63, c64, c65, c66, c67, c68, c69, c70, .int .i64 kd, c72, c73, c74, c75, c76, c77, c78, c79, c80, c81, c82, c83, c84, c85, c86, c87, c88, c89, c90, c91, c92, c93, c94, c95, c96, c97, c98, c99, c100, c101, c102, c103, c104, c105, c106, c107, c108, c109, c110, c111, c112, c113, c114, c115, c116, c117, c118, c119, c120, c121, c122, c123, c124, c125, c126, c127, c128, c129, c130, c131, c132, c133, c134, c135, c136, c137, c138, c139, c140, c141, c142, c143, c144, c145, c146, c147, c148, c149, c150, c151, c152, c153, c154, c155, c156, c157, c158, c159, c160, c161, c162, c163, c164, c165, c166, c167, c168, c169, c170, c171, c172, c173, c174, c175, c176, c177, c178, c179, c180, c181, c182, c183, c184, c185, c186, c187, c188, c189, c190, c191, c192, c193, c194, c195, c196, c197, c198, c199, c200, c201, c202, c203, c204, c205, c206, c207, c208, c209, c210, c211, c212, c213, c214, c215, c216, c217, c218, c219, c220, c221, c222, c223, c224, c225, c226, c227, c228, c229, c230, c231, c232, c233, c234, c235, c236, c237, c238, c239, c240, c241, c242, c243, c244, c245, c246, c247, c248, c249, c250, c251, c252, c253, c254, c255, c256, c257, c258, c259, c260, c261, c262, c263, c264, c265, c266, c267, c268, c269, c270, c271, c272, c273, c274, c275, c276, c277, c278, c279, c280, c281, c282, c283, c284, c285, c286, c287, c288, c289, c290, c291, c292, c293, c294, c295, c296, c297, c298], []⟩ w8 := by
  subst hC
  refine wp_cut (SwR w g D Q kd c1 c2 c3 c4 c21 c22 c23 c24 c25 c26 c27 c28 c29 c30 c31 c32 c33 c34 c35 c36 c37 c38 c39 c40 c41 c42 c43 c44 c45 c46 c47 c48 c49 c50 c51 c52 c53 c54 c55 c56 c57 c58 c59 c60 c61 c62 c63 c64 c65 c66 c67 c68 c69 c70 c252 c253 c254 c255 c256 c257 c258 c259 c260 c261 c262 c263 c264 c265 c266 c267 c268 c269 c270 c271 c272 c273 c274 c275 c276 c277 c278 c279 c280 c281 c282 c283 c284 c285 c286 c287 c288 c289 c290 c291 c292 c293 c294 c295 c296 c297 c298 (fun v11 v12 v14 wx => v11 = .bool r.out ∧ v12 = .int .i64 r.port ∧ KN r.k v14 wx ∧ G r.p wx ∧ r.err = 0)) hrest (fun J K' h1 h2 => ?_)
  by_cases k2 : kd = 2
  · subst k2
    exact sw_k2 HR HKK FX G8 R hret c1 c2 c3 c4 c15 c16 c17 c18 c19 c20 c21 c22 c23 c24 c25 c26 c27 c28 c29 c30 c31 c32 c33 c34 c35 c36 c37 c38 c39 c40 c41 c42 c43 c44 c45 c46 c47 c48 c49 c50 c51 c52 c53 c54 c55 c56 c57 c58 c59 c60 c61 c62 c63 c64 c65 c66 c67 c68 c69 c70 c72 c73 c74 c75 c76 c77 c78 c79 c80 c81 c82 c83 c84 c85 c86 c87 c88 c89 c90 c91 c92 c93 c94 c95 c96 c97 c98 c99 c100 c101 c102 c103 c104 c105 c106 c107 c108 c109 c110 c111 c112 c113 c114 c115 c116 c117 c118 c119 c120 c121 c122 c123 c124 c125 c126 c127 c128 c129 c130 c131 c132 c133 c134 c135 c136 c137 c138 c139 c140 c141 c142 c143 c144 c145 c146 c147 c148 c149 c150 c151 c152 c153 c154 c155 c156 c157 c158 c159 c160 c161 c162 c163 c164 c165 c166 c167 c168 c169 c170 c171 c172 c173 c174 c175 c176 c177 c178 c179 c180 c181 c182 c183 c184 c185 c186 c187 c188 c189 c190 c191 c192 c193 c194 c195 c196 c197 c198 c199 c200 c201 c202 c203 c204 c205 c206 c207 c208 c209 c210 c211 c212 c213 c214 c215 c216 c217 c218 c219 c220 c221 c222 c223 c224 c225 c226 c227 c228 c229 c230 c231 c232 c233 c234 c235 c236 c237 c238 c239 c240 c241 c242 c243 c244 c245 c246 c247 c248 c249 c250 c251 c252 c253 c254 c255 c256 c257 c258 c259 c260 c261 c262 c263 c264 c265 c266 c267 c268 c269 c270 c271 c272 c273 c274 c275 c276 c277 c278 c279 c280 c281 c282 c283 c284 c285 c286 c287 c288 c289 c290 c291 c292 c293 c294 c295 c296 c297 c298 J K' h1 h2
  have hq := hq5 k2
  by_cases k3 : kd = 3
  · subst k3
    exact sw_k3 HR HKK hq4 hq FX G8 R hret c1 c2 c3 c4 c15 c16 c17 c18 c19 c20 c21 c22 c23 c24 c25 c26 c27 c28 c29 c30 c31 c32 c33 c34 c35 c36 c37 c38 c39 c40 c41 c42 c43 c44 c45 c46 c47 c48 c49 c50 c51 c52 c53 c54 c55 c56 c57 c58 c59 c60 c61 c62 c63 c64 c65 c66 c67 c68 c69 c70 c72 c73 c74 c75 c76 c77 c78 c79 c80 c81 c82 c83 c84 c85 c86 c87 c88 c89 c90 c91 c92 c93 c94 c95 c96 c97 c98 c99 c100 c101 c102 c103 c104 c105 c106 c107 c108 c109 c110 c111 c112 c113 c114 c115 c116 c117 c118 c119 c120 c121 c122 c123 c124 c125 c126 c127 c128 c129 c130 c131 c132 c133 c134 c135 c136 c137 c138 c139 c140 c141 c142 c143 c144 c145 c146 c147 c148 c149 c150 c151 c152 c153 c154 c155 c156 c157 c158 c159 c160 c161 c162 c163 c164 c165 c166 c167 c168 c169 c170 c171 c172 c173 c174 c175 c176 c177 c178 c179 c180 c181 c182 c183 c184 c185 c186 c187 c188 c189 c190 c191 c192 c193 c194 c195 c196 c197 c198 c199 c200 c201 c202 c203 c204 c205 c206 c207 c208 c209 c210 c211 c212 c213 c214 c215 c216 c217 c218 c219 c220 c221 c222 c223 c224 c225 c226 c227 c228 c229 c230 c231 c232 c233 c234 c235 c236 c237 c238 c239 c240 c241 c242 c243 c244 c245 c246 c247 c248 c249 c250 c251 c252 c253 c254 c255 c256 c257 c258 c259 c260 c261 c262 c263 c264 c265 c266 c267 c268 c269 c270 c271 c272 c273 c274 c275 c276 c277 c278 c279 c280 c281 c282 c283 c284 c285 c286 c287 c288 c289 c290 c291 c292 c293 c294 c295 c296 c297 c298 J K' h1 h2
  by_cases k4 : kd = 4
  · subst k4
    by_cases hq0 : q = 0
    · exact sw_k4b HR HKK hq0 FX G8 R hret c1 c2 c3 c4 c15 c16 c17 c18 c19 c20 c21 c22 c23 c24 c25 c26 c27 c28 c29 c30 c31 c32 c33 c34 c35 c36 c37 c38 c39 c40 c41 c42 c43 c44 c45 c46 c47 c48 c49 c50 c51 c52 c53 c54 c55 c56 c57 c58 c59 c60 c61 c62 c63 c64 c65 c66 c67 c68 c69 c70 c72 c73 c74 c75 c76 c77 c78 c79 c80 c81 c82 c83 c84 c85 c86 c87 c88 c89 c90 c91 c92 c93 c94 c95 c96 c97 c98 c99 c100 c101 c102 c103 c104 c105 c106 c107 c108 c109 c110 c111 c112 c113 c114 c115 c116 c117 c118 c119 c120 c121 c122 c123 c124 c125 c126 c127 c128 c129 c130 c131 c132 c133 c134 c135 c136 c137 c138 c139 c140 c141 c142 c143 c144 c145 c146 c147 c148 c149 c150 c151 c152 c153 c154 c155 c156 c157 c158 c159 c160 c161 c162 c163 c164 c165 c166 c167 c168 c169 c170 c171 c172 c173 c174 c175 c176 c177 c178 c179 c180 c181 c182 c183 c184 c185 c186 c187 c188 c189 c190 c191 c192 c193 c194 c195 c196 c197 c198 c199 c200 c201 c202 c203 c204 c205 c206 c207 c208 c209 c210 c211 c212 c213 c214 c215 c216 c217 c218 c219 c220 c221 c222 c223 c224 c225 c226 c227 c228 c229 c230 c231 c232 c233 c234 c235 c236 c237 c238 c239 c240 c241 c242 c243 c244 c245 c246 c247 c248 c249 c250 c251 c252 c253 c254 c255 c256 c257 c258 c259 c260 c261 c262 c263 c264 c265 c266 c267 c268 c269 c270 c271 c272 c273 c274 c275 c276 c277 c278 c279 c280 c281 c282 c283 c284 c285 c286 c287 c288 c289 c290 c291 c292 c293 c294 c295 c296 c297 c298 J K' h1 h2
    · exact sw_k4a HR HKK hq4 hq hq0 FX G8 R hret c1 c2 c3 c4 c15 c16 c17 c18 c19 c20 c21 c22 c23 c24 c25 c26 c27 c28 c29 c30 c31 c32 c33 c34 c35 c36 c37 c38 c39 c40 c41 c42 c43 c44 c45 c46 c47 c48 c49 c50 c51 c52 c53 c54 c55 c56 c57 c58 c59 c60 c61 c62 c63 c64 c65 c66 c67 c68 c69 c70 c72 c73 c74 c75 c76 c77 c78 c79 c80 c81 c82 c83 c84 c85 c86 c87 c88 c89 c90 c91 c92 c93 c94 c95 c96 c97 c98 c99 c100 c101 c102 c103 c104 c105 c106 c107 c108 c109 c110 c111 c112 c113 c114 c115 c116 c117 c118 c119 c120 c121 c122 c123 c124 c125 c126 c127 c128 c129 c130 c131 c132 c133 c134 c135 c136 c137 c138 c139 c140 c141 c142 c143 c144 c145 c146 c147 c148 c149 c150 c151 c152 c153 c154 c155 c156 c157 c158 c159 c160 c161 c162 c163 c164 c165 c166 c167 c168 c169 c170 c171 c172 c173 c174 c175 c176 c177 c178 c179 c180 c181 c182 c183 c184 c185 c186 c187 c188 c189 c190 c191 c192 c193 c194 c195 c196 c197 c198 c199 c200 c201 c202 c203 c204 c205 c206 c207 c208 c209 c210 c211 c212 c213 c214 c215 c216 c217 c218 c219 c220 c221 c222 c223 c224 c225 c226 c227 c228 c229 c230 c231 c232 c233 c234 c235 c236 c237 c238 c239 c240 c241 c242 c243 c244 c245 c246 c247 c248 c249 c250 c251 c252 c253 c254 c255 c256 c257 c258 c259 c260 c261 c262 c263 c264 c265 c266 c267 c268 c269 c270 c271 c272 c273 c274 c275 c276 c277 c278 c279 c280 c281 c282 c283 c284 c285 c286 c287 c288 c289 c290 c291 c292 c293 c294 c295 c296 c297 c298 J K' h1 h2
  by_cases k5 : kd = 5
  · subst k5
    by_cases hq0 : q = 0
    · exact sw_k5b HR HKK hq0 hnb FX G8 R hret c1 c2 c3 c4 c15 c16 c17 c18 c19 c20 c21 c22 c23 c24 c25 c26 c27 c28 c29 c30 c31 c32 c33 c34 c35 c36 c37 c38 c39 c40 c41 c42 c43 c44 c45 c46 c47 c48 c49 c50 c51 c52 c53 c54 c55 c56 c57 c58 c59 c60 c61 c62 c63 c64 c65 c66 c67 c68 c69 c70 c72 c73 c74 c75 c76 c77 c78 c79 c80 c81 c82 c83 c84 c85 c86 c87 c88 c89 c90 c91 c92 c93 c94 c95 c96 c97 c98 c99 c100 c101 c102 c103 c104 c105 c106 c107 c108 c109 c110 c111 c112 c113 c114 c115 c116 c117 c118 c119 c120 c121 c122 c123 c124 c125 c126 c127 c128 c129 c130 c131 c132 c133 c134 c135 c136 c137 c138 c139 c140 c141 c142 c143 c144 c145 c146 c147 c148 c149 c150 c151 c152 c153 c154 c155 c156 c157 c158 c159 c160 c161 c162 c163 c164 c165 c166 c167 c168 c169 c170 c171 c172 c173 c174 c175 c176 c177 c178 c179 c180 c181 c182 c183 c184 c185 c186 c187 c188 c189 c190 c191 c192 c193 c194 c195 c196 c197 c198 c199 c200 c201 c202 c203 c204 c205 c206 c207 c208 c209 c210 c211 c212 c213 c214 c215 c216 c217 c218 c219 c220 c221 c222 c223 c224 c225 c226 c227 c228 c229 c230 c231 c232 c233 c234 c235 c236 c237 c238 c239 c240 c241 c242 c243 c244 c245 c246 c247 c248 c249 c250 c251 c252 c253 c254 c255 c256 c257 c258 c259 c260 c261 c262 c263 c264 c265 c266 c267 c268 c269 c270 c271 c272 c273 c274 c275 c276 c277 c278 c279 c280 c281 c282 c283 c284 c285 c286 c287 c288 c289 c290 c291 c292 c293 c294 c295 c296 c297 c298 J K' h1 h2
    · exact sw_k5a HR HKK hq4 hq hq0 FX G8 R c1 c2 c3 c4 c15 c16 c17 c18 c19 c20 c21 c22 c23 c24 c25 c26 c27 c28 c29 c30 c31 c32 c33 c34 c35 c36 c37 c38 c39 c40 c41 c42 c43 c44 c45 c46 c47 c48 c49 c50 c51 c52 c53 c54 c55 c56 c57 c58 c59 c60 c61 c62 c63 c64 c65 c66 c67 c68 c69 c70 c72 c73 c74 c75 c76 c77 c78 c79 c80 c81 c82 c83 c84 c85 c86 c87 c88 c89 c90 c91 c92 c93 c94 c95 c96 c97 c98 c99 c100 c101 c102 c103 c104 c105 c106 c107 c108 c109 c110 c111 c112 c113 c114 c115 c116 c117 c118 c119 c120 c121 c122 c123 c124 c125 c126 c127 c128 c129 c130 c131 c132 c133 c134 c135 c136 c137 c138 c139 c140 c141 c142 c143 c144 c145 c146 c147 c148 c149 c150 c151 c152 c153 c154 c155 c156 c157 c158 c159 c160 c161 c162 c163 c164 c165 c166 c167 c168 c169 c170 c171 c172 c173 c174 c175 c176 c177 c178 c179 c180 c181 c182 c183 c184 c185 c186 c187 c188 c189 c190 c191 c192 c193 c194 c195 c196 c197 c198 c199 c200 c201 c202 c203 c204 c205 c206 c207 c208 c209 c210 c211 c212 c213 c214 c215 c216 c217 c218 c219 c220 c221 c222 c223 c224 c225 c226 c227 c228 c229 c230 c231 c232 c233 c234 c235 c236 c237 c238 c239 c240 c241 c242 c243 c244 c245 c246 c247 c248 c249 c250 c251 c252 c253 c254 c255 c256 c257 c258 c259 c260 c261 c262 c263 c264 c265 c266 c267 c268 c269 c270 c271 c272 c273 c274 c275 c276 c277 c278 c279 c280 c281 c282 c283 c284 c285 c286 c287 c288 c289 c290 c291 c292 c293 c294 c295 c296 c297 c298 J K' h1 h2
  exact sw_kx HR HKK k2 k3 k4 k5 FX G8 R hret c1 c2 c3 c4 c15 c16 c17 c18 c19 c20 c21 c22 c23 c24 c25 c26 c27 c28 c29 c30 c31 c32 c33 c34 c35 c36 c37 c38 c39 c40 c41 c42 c43 c44 c45 c46 c47 c48 c49 c50 c51 c52 c53 c54 c55 c56 c57 c58 c59 c60 c61 c62 c63 c64 c65 c66 c67 c68 c69 c70 c72 c73 c74 c75 c76 c77 c78 c79 c80 c81 c82 c83 c84 c85 c86 c87 c88 c89 c90 c91 c92 c93 c94 c95 c96 c97 c98 c99 c100 c101 c102 c103 c104 c105 c106 c107 c108 c109 c110 c111 c112 c113 c114 c115 c116 c117 c118 c119 c120 c121 c122 c123 c124 c125 c126 c127 c128 c129 c130 c131 c132 c133 c134 c135 c136 c137 c138 c139 c140 c141 c142 c143 c144 c145 c146 c147 c148 c149 c150 c151 c152 c153 c154 c155 c156 c157 c158 c159 c160 c161 c162 c163 c164 c165 c166 c167 c168 c169 c170 c171 c172 c173 c174 c175 c176 c177 c178 c179 c180 c181 c182 c183 c184 c185 c186 c187 c188 c189 c190 c191 c192 c193 c194 c195 c196 c197 c198 c199 c200 c201 c202 c203 c204 c205 c206 c207 c208 c209 c210 c211 c212 c213 c214 c215 c216 c217 c218 c219 c220 c221 c222 c223 c224 c225 c226 c227 c228 c229 c230 c231 c232 c233 c234 c235 c236 c237 c238 c239 c240 c241 c242 c243 c244 c245 c246 c247 c248 c249 c250 c251 c252 c253 c254 c255 c256 c257 c258 c259 c260 c261 c262 c263 c264 c265 c266 c267 c268 c269 c270 c271 c272 c273 c274 c275 c276 c277 c278 c279 c280 c281 c282 c283 c284 c285 c286 c287 c288 c289 c290 c291 c292 c293 c294 c295 c296 c297 c298 J K' h1 h2
set_option maxHeartbeats 8000000 in
set_option maxRecDepth 1000000 in
theorem sw_re {w : World} {g b o : Nat} {L : Option Addr} {c d : Nat} {F : Option Addr} {cF : Nat} {ds : List Dv} {ls : List Lk} {FL : List Ft} {j : Nat} {q : Int} {p : Pk} {ch : Int} {dv : Dv} {Ab Ar At : Option Addr} {nb cb nr cr nt ct : Nat} {D Q : Nat} {G : Pk → World → Prop} {r : MR} {kd : Int} {C : Code} (hC : C = reCode) {a' : Act} {w' : World} (FX : HFacts w g (some ⟨b, o, none⟩) L c d F cF ds ls FL (j : Int) q p ch dv kd (.slice Ab nb cb) (.slice Ar nr cr) (.slice At nt ct) D Q G) (hfl : FL.length ≤ 5000) (R : Ending → World → Prop) (hbad : r.err = 0 → Hid (∀ (a : Act) (W : World), a.defers = [] → a.eval (.tmp 8) = .pointer (some ⟨w.heap.size + 1 + 1 + 1, 0, none⟩) → a.eval (.tmp 9) = .int .i64 7 → (r.out = false ∨ peerF ls (j : Int) r.port = none) → Bk W (w.heap.size + 1 + 1 + 1) #[.int .i64 0, .int .i64 0, .int .i64 0, .int .i64 0, .int .i64 0, .int .i64 0] 60 → MOut w g (some ⟨b, o, none⟩) L c d F ds ls FL W → QZ R .ret a W)) (hok : r.err = 0 → Hid (∀ (a : Act) (W : World) (t : Int × Int), r.out = true → peerF ls (j : Int) r.port = some t → a.defers = [] → a.eval (.tmp 8) = .pointer (some ⟨w.heap.size + 1 + 1 + 1, 0, none⟩) → a.eval (.tmp 9) = .int .i64 0 → Bk W (w.heap.size + 1 + 1 + 1) #[.int .i64 t.1, .int .i64 t.2, .int .i64 r.p.s, .int .i64 r.p.d, .int .i64 r.p.sp, .int .i64 r.p.dp] 60 → MOut w g (some ⟨b, o, none⟩) L c d F ds ls (addF FL r.k) W → QZ R .ret a W)) (c1 c2 c3 c4 c21 c22 c23 c24 c25 c26 c27 c28 c29 c30 c31 c32 c33 c34 c35 c36 c37 c38 c39 c40 c41 c42 c43 c44 c45 c46 c47 c48 c49 c50 c51 c52 c53 c54 c55 c56 c57 c58 c59 c60 c61 c62 c63 c64 c65 c66 c67 c68 c69 c70 c252 c253 c254 c255 c256 c257 c258 c259 c260 c261 c262 c263 c264 c265 c266 c267 c268 c269 c270 c271 c272 c273 c274 c275 c276 c277 c278 c279 c280 c281 c282 c283 c284 c285 c286 c287 c288 c289 c290 c291 c292 c293 c294 c295 c296 c297 c298 : Value) (h : SwR w g D Q kd c1 c2 c3 c4 c21 c22 c23 c24 c25 c26 c27 c28 c29 c30 c31 c32 c33 c34 c35 c36 c37 c38 c39 c40 c41 c42 c43 c44 c45 c46 c47 c48 c49 c50 c51 c52 c53 c54 c55 c56 c57 c58 c59 c60 c61 c62 c63 c64 c65 c66 c67 c68 c69 c70 c252 c253 c254 c255 c256 c257 c258 c259 c260 c261 c262 c263 c264 c265 c266 c267 c268 c269 c270 c271 c272 c273 c274 c275 c276 c277 c278 c279 c280 c281 c282 c283 c284 c285 c286 c287 c288 c289 c290 c291 c292 c293 c294 c295 c296 c297 c298 (fun v11 v12 v14 wx => v11 = .bool r.out ∧ v12 = .int .i64 r.port ∧ KN r.k v14 wx ∧ G r.p wx ∧ r.err = 0) a' w') : C.wp Tryz.prog (QZ R) a' w' := by
  subst hC
  unfold SwR at h
  obtain ⟨u11, h⟩ := h
  obtain ⟨u12, h⟩ := h
  obtain ⟨u14, h⟩ := h
  obtain ⟨u15, h⟩ := h
  obtain ⟨u16, h⟩ := h
  obtain ⟨u17, h⟩ := h
  obtain ⟨u18, h⟩ := h
  obtain ⟨u19, h⟩ := h
  obtain ⟨u20, h⟩ := h
  obtain ⟨u72, h⟩ := h
  obtain ⟨u73, h⟩ := h
  obtain ⟨u74, h⟩ := h
  obtain ⟨u75, h⟩ := h
  obtain ⟨u76, h⟩ := h
  obtain ⟨u77, h⟩ := h
  obtain ⟨u78, h⟩ := h
  obtain ⟨u79, h⟩ := h
  obtain ⟨u80, h⟩ := h
  obtain ⟨u81, h⟩ := h
  obtain ⟨u82, h⟩ := h
  obtain ⟨u83, h⟩ := h
  obtain ⟨u84, h⟩ := h
  obtain ⟨u85, h⟩ := h
  obtain ⟨u86, h⟩ := h
  obtain ⟨u87, h⟩ := h
  obtain ⟨u88, h⟩ := h
  obtain ⟨u89, h⟩ := h
  obtain ⟨u90, h⟩ := h
  obtain ⟨u91, h⟩ := h
  obtain ⟨u92, h⟩ := h
  obtain ⟨u93, h⟩ := h
  obtain ⟨u94, h⟩ := h
  obtain ⟨u95, h⟩ := h
  obtain ⟨u96, h⟩ := h
  obtain ⟨u97, h⟩ := h
  obtain ⟨u98, h⟩ := h
  obtain ⟨u99, h⟩ := h
  obtain ⟨u100, h⟩ := h
  obtain ⟨u101, h⟩ := h
  obtain ⟨u102, h⟩ := h
  obtain ⟨u103, h⟩ := h
  obtain ⟨u104, h⟩ := h
  obtain ⟨u105, h⟩ := h
  obtain ⟨u106, h⟩ := h
  obtain ⟨u107, h⟩ := h
  obtain ⟨u108, h⟩ := h
  obtain ⟨u109, h⟩ := h
  obtain ⟨u110, h⟩ := h
  obtain ⟨u111, h⟩ := h
  obtain ⟨u112, h⟩ := h
  obtain ⟨u113, h⟩ := h
  obtain ⟨u114, h⟩ := h
  obtain ⟨u115, h⟩ := h
  obtain ⟨u116, h⟩ := h
  obtain ⟨u117, h⟩ := h
  obtain ⟨u118, h⟩ := h
  obtain ⟨u119, h⟩ := h
  obtain ⟨u120, h⟩ := h
  obtain ⟨u121, h⟩ := h
  obtain ⟨u122, h⟩ := h
  obtain ⟨u123, h⟩ := h
  obtain ⟨u124, h⟩ := h
  obtain ⟨u125, h⟩ := h
  obtain ⟨u126, h⟩ := h
  obtain ⟨u127, h⟩ := h
  obtain ⟨u128, h⟩ := h
  obtain ⟨u129, h⟩ := h
  obtain ⟨u130, h⟩ := h
  obtain ⟨u131, h⟩ := h
  obtain ⟨u132, h⟩ := h
  obtain ⟨u133, h⟩ := h
  obtain ⟨u134, h⟩ := h
  obtain ⟨u135, h⟩ := h
  obtain ⟨u136, h⟩ := h
  obtain ⟨u137, h⟩ := h
  obtain ⟨u138, h⟩ := h
  obtain ⟨u139, h⟩ := h
  obtain ⟨u140, h⟩ := h
  obtain ⟨u141, h⟩ := h
  obtain ⟨u142, h⟩ := h
  obtain ⟨u143, h⟩ := h
  obtain ⟨u144, h⟩ := h
  obtain ⟨u145, h⟩ := h
  obtain ⟨u146, h⟩ := h
  obtain ⟨u147, h⟩ := h
  obtain ⟨u148, h⟩ := h
  obtain ⟨u149, h⟩ := h
  obtain ⟨u150, h⟩ := h
  obtain ⟨u151, h⟩ := h
  obtain ⟨u152, h⟩ := h
  obtain ⟨u153, h⟩ := h
  obtain ⟨u154, h⟩ := h
  obtain ⟨u155, h⟩ := h
  obtain ⟨u156, h⟩ := h
  obtain ⟨u157, h⟩ := h
  obtain ⟨u158, h⟩ := h
  obtain ⟨u159, h⟩ := h
  obtain ⟨u160, h⟩ := h
  obtain ⟨u161, h⟩ := h
  obtain ⟨u162, h⟩ := h
  obtain ⟨u163, h⟩ := h
  obtain ⟨u164, h⟩ := h
  obtain ⟨u165, h⟩ := h
  obtain ⟨u166, h⟩ := h
  obtain ⟨u167, h⟩ := h
  obtain ⟨u168, h⟩ := h
  obtain ⟨u169, h⟩ := h
  obtain ⟨u170, h⟩ := h
  obtain ⟨u171, h⟩ := h
  obtain ⟨u172, h⟩ := h
  obtain ⟨u173, h⟩ := h
  obtain ⟨u174, h⟩ := h
  obtain ⟨u175, h⟩ := h
  obtain ⟨u176, h⟩ := h
  obtain ⟨u177, h⟩ := h
  obtain ⟨u178, h⟩ := h
  obtain ⟨u179, h⟩ := h
  obtain ⟨u180, h⟩ := h
  obtain ⟨u181, h⟩ := h
  obtain ⟨u182, h⟩ := h
  obtain ⟨u183, h⟩ := h
  obtain ⟨u184, h⟩ := h
  obtain ⟨u185, h⟩ := h
  obtain ⟨u186, h⟩ := h
  obtain ⟨u187, h⟩ := h
  obtain ⟨u188, h⟩ := h
  obtain ⟨u189, h⟩ := h
  obtain ⟨u190, h⟩ := h
  obtain ⟨u191, h⟩ := h
  obtain ⟨u192, h⟩ := h
  obtain ⟨u193, h⟩ := h
  obtain ⟨u194, h⟩ := h
  obtain ⟨u195, h⟩ := h
  obtain ⟨u196, h⟩ := h
  obtain ⟨u197, h⟩ := h
  obtain ⟨u198, h⟩ := h
  obtain ⟨u199, h⟩ := h
  obtain ⟨u200, h⟩ := h
  obtain ⟨u201, h⟩ := h
  obtain ⟨u202, h⟩ := h
  obtain ⟨u203, h⟩ := h
  obtain ⟨u204, h⟩ := h
  obtain ⟨u205, h⟩ := h
  obtain ⟨u206, h⟩ := h
  obtain ⟨u207, h⟩ := h
  obtain ⟨u208, h⟩ := h
  obtain ⟨u209, h⟩ := h
  obtain ⟨u210, h⟩ := h
  obtain ⟨u211, h⟩ := h
  obtain ⟨u212, h⟩ := h
  obtain ⟨u213, h⟩ := h
  obtain ⟨u214, h⟩ := h
  obtain ⟨u215, h⟩ := h
  obtain ⟨u216, h⟩ := h
  obtain ⟨u217, h⟩ := h
  obtain ⟨u218, h⟩ := h
  obtain ⟨u219, h⟩ := h
  obtain ⟨u220, h⟩ := h
  obtain ⟨u221, h⟩ := h
  obtain ⟨u222, h⟩ := h
  obtain ⟨u223, h⟩ := h
  obtain ⟨u224, h⟩ := h
  obtain ⟨u225, h⟩ := h
  obtain ⟨u226, h⟩ := h
  obtain ⟨u227, h⟩ := h
  obtain ⟨u228, h⟩ := h
  obtain ⟨u229, h⟩ := h
  obtain ⟨u230, h⟩ := h
  obtain ⟨u231, h⟩ := h
  obtain ⟨u232, h⟩ := h
  obtain ⟨u233, h⟩ := h
  obtain ⟨u234, h⟩ := h
  obtain ⟨u235, h⟩ := h
  obtain ⟨u236, h⟩ := h
  obtain ⟨u237, h⟩ := h
  obtain ⟨u238, h⟩ := h
  obtain ⟨u239, h⟩ := h
  obtain ⟨u240, h⟩ := h
  obtain ⟨u241, h⟩ := h
  obtain ⟨u242, h⟩ := h
  obtain ⟨u243, h⟩ := h
  obtain ⟨u244, h⟩ := h
  obtain ⟨u245, h⟩ := h
  obtain ⟨u246, h⟩ := h
  obtain ⟨u247, h⟩ := h
  obtain ⟨u248, h⟩ := h
  obtain ⟨u249, h⟩ := h
  obtain ⟨u250, h⟩ := h
  obtain ⟨u251, h⟩ := h
  obtain ⟨⟨rfl, rfl, hk, hg, he⟩, rfl⟩ := h
  exact re_any FX hg hk hfl R (hbad he) (hok he) c1 c2 c3 c4 u15 u16 u17 u18 u19 u20 c21 c22 c23 c24 c25 c26 c27 c28 c29 c30 c31 c32 c33 c34 c35 c36 c37 c38 c39 c40 c41 c42 c43 c44 c45 c46 c47 c48 c49 c50 c51 c52 c53 c54 c55 c56 c57 c58 c59 c60 c61 c62 c63 c64 c65 c66 c67 c68 c69 c70 (.int .i64 kd) u72 u73 u74 u75 u76 u77 u78 u79 u80 u81 u82 u83 u84 u85 u86 u87 u88 u89 u90 u91 u92 u93 u94 u95 u96 u97 u98 u99 u100 u101 u102 u103 u104 u105 u106 u107 u108 u109 u110 u111 u112 u113 u114 u115 u116 u117 u118 u119 u120 u121 u122 u123 u124 u125 u126 u127 u128 u129 u130 u131 u132 u133 u134 u135 u136 u137 u138 u139 u140 u141 u142 u143 u144 u145 u146 u147 u148 u149 u150 u151 u152 u153 u154 u155 u156 u157 u158 u159 u160 u161 u162 u163 u164 u165 u166 u167 u168 u169 u170 u171 u172 u173 u174 u175 u176 u177 u178 u179 u180 u181 u182 u183 u184 u185 u186 u187 u188 u189 u190 u191 u192 u193 u194 u195 u196 u197 u198 u199 u200 u201 u202 u203 u204 u205 u206 u207 u208 u209 u210 u211 u212 u213 u214 u215 u216 u217 u218 u219 u220 u221 u222 u223 u224 u225 u226 u227 u228 u229 u230 u231 u232 u233 u234 u235 u236 u237 u238 u239 u240 u241 u242 u243 u244 u245 u246 u247 u248 u249 u250 u251 c252 c253 c254 c255 c256 c257 c258 c259 c260 c261 c262 c263 c264 c265 c266 c267 c268 c269 c270 c271 c272 c273 c274 c275 c276 c277 c278 c279 c280 c281 c282 c283 c284 c285 c286 c287 c288 c289 c290 c291 c292 c293 c294 c295 c296 c297 c298
end Go.Proofs.YthioedgnambomaaGreat



namespace Go.Proofs.YthioedgnambomaaGreat
open Go.RowKit Go.Maps

theorem mind_ok {ds : List Dv} {ls : List Lk} {FL : List Ft} {i q : Int} {p : Pk} {ch : Int} {dv : Dv} (hpl : isPl ds i q = true) (hpk : pkOk p = true) (hg : ds.getD i.toNat default = dv) {r : MR} (hr : mSend dv FL i q p ch = r) {m9 : MH} (hm : mindP ds ls FL i q p ch = m9) :
    (r.err ≠ 0 → m9 = badM r.err FL) ∧ (r.err = 0 → r.out = false → m9 = badM 7 FL) ∧ (r.err = 0 → r.out = true → peerF ls i r.port = none → m9 = badM 7 FL) ∧ (∀ t, r.err = 0 → r.out = true → peerF ls i r.port = some t → m9 = ⟨0, t, r.p, addF FL r.k⟩) := by
  unfold mindP at hm
  rw [if_pos hpl, if_pos hpk, hg, hr] at hm
  refine ⟨fun h => ?_, fun h h2 => ?_, fun h h2 h3 => ?_, fun t h h2 h3 => ?_⟩
  · rw [if_neg h] at hm
    exact hm.symm
  · rw [if_pos h, h2, if_neg Bool.false_ne_true] at hm
    exact hm.symm
  · rw [if_pos h, h2, if_pos rfl, h3] at hm
    exact hm.symm
  · rw [if_pos h, h2, if_pos rfl, h3] at hm
    exact hm.symm
set_option maxHeartbeats 8000000 in
set_option maxRecDepth 100000 in
theorem mhandle_ok {g : Nat} {A L : Option Addr} {c d : Nat} {F : Option Addr} {cF : Nat} {ds : List Dv} {ls : List Lk} {FL : List Ft} (i q : Int) (p : Pk) (ch : Int) (w : World) (h : Hid (MnAt w g A L c d F cF ds ls FL)) (hpl : isPl ds i q = true) (hpk : pkOk p = true) (hn : FL.length ≤ 5000) {m9 : MH} (hm9 : mindP ds ls FL i q p ch = m9) :
    Calls Tryz.prog 20 #[.pointer (some ⟨g, 0, none⟩), plA i q, pkV p, .int .i64 ch] w fun e w' => e = .returned (.tuple #[arV m9.tp m9.p, .int .i64 m9.err]) ∧ MOut w g A L c d F ds ls m9.FL w' := by
  have hln := h.out.devs.len
  have hm : ds.length ≤ maxLen := Nat.le_trans hln.2.1 hln.2.2
  unfold maxLen at hm
  have hG := h.out.blk.lt
  have M4 := (((h.out.alloc (.cells #[.int .i64 i, .int .i64 q] 27)).alloc (pkC p)).alloc (.cells #[.int .i64 ch] 3)).alloc (.cells #[.int .i64 0, .int .i64 0, .int .i64 0, .int .i64 0, .int .i64 0, .int .i64 0] 60)
  have D4 := Below.alN (Below.alN (Below.alN (Below.alN (Below.refl w.heap.size w) (.cells #[.int .i64 i, .int .i64 q] 27)) (pkC p)) (.cells #[.int .i64 ch] 3)) (.cells #[.int .i64 0, .int .i64 0, .int .i64 0, .int .i64 0, .int .i64 0, .int .i64 0] 60)
  have A4 := (((bk_new w #[.int .i64 i, .int .i64 q] 27).alloc (pkC p)).alloc (.cells #[.int .i64 ch] 3)).alloc (.cells #[.int .i64 0, .int .i64 0, .int .i64 0, .int .i64 0, .int .i64 0, .int .i64 0] 60)
  have P4 := ((bk_new' (w.alloc (.cells #[.int .i64 i, .int .i64 q] 27)) #[.int .i64 p.s, .int .i64 p.d, .int .i64 p.sp, .int .i64 p.dp] 29 (w.heap.size + 1) (by simp)).alloc (.cells #[.int .i64 ch] 3)).alloc (.cells #[.int .i64 0, .int .i64 0, .int .i64 0, .int .i64 0, .int .i64 0, .int .i64 0] 60)
  have C4 := (bk_new' ((w.alloc (.cells #[.int .i64 i, .int .i64 q] 27)).alloc (pkC p)) #[.int .i64 ch] 3 (w.heap.size + 1 + 1) (by simp)).alloc (.cells #[.int .i64 0, .int .i64 0, .int .i64 0, .int .i64 0, .int .i64 0, .int .i64 0] 60)
  have R4 := bk_new' (((w.alloc (.cells #[.int .i64 i, .int .i64 q] 27)).alloc (pkC p)).alloc (.cells #[.int .i64 ch] 3)) #[.int .i64 0, .int .i64 0, .int .i64 0, .int .i64 0, .int .i64 0, .int .i64 0] 60 (w.heap.size + 1 + 1 + 1) (by simp)
  have hi : 0 ≤ i ∧ i < (ds.length : Int) := by
    unfold isPl at hpl
    simp only [Bool.and_eq_true, decide_eq_true_eq] at hpl
    omega
  obtain ⟨j, rfl⟩ : ∃ j : Nat, i = (j : Int) := ⟨i.toNat, by omega⟩
  have hj : j < ds.length := by omega
  obtain ⟨dv, hd⟩ : ∃ dv, ds[j]? = some dv := ⟨_, List.getElem?_eq_getElem hj⟩
  have hkd : kindAt ds (j : Int) = dv.kind := by
    unfold kindAt
    rw [Int.toNat_natCast, hd]
    rfl
  obtain ⟨b, o, vb, vr, vt, hA, hbl, s1, s2, s3, e0, e1, e2, e3, e4, e5, e6⟩ := M4.devs.at hd
  have k1 : (0 : Int) ≤ (j : Int) := by omega
  have k2 : (j : Int) < (ds.length : Int) := by omega
  have hw : IntKind.i64.wrap ((ds.length : Int) - 1) = (ds.length : Int) - 1 := IntWalk.i64_in _ (by omega)
  have hpo : 0 ≤ portsV dv.kind ∧ portsV dv.kind ≤ 4 := by unfold portsV; split <;> (try split) <;> (try split) <;> omega
  have hw2 : IntKind.i64.wrap (portsV dv.kind - 1) = portsV dv.kind - 1 := IntWalk.i64_in _ (by omega)
  have I1 : Hid (∀ W, Calls Tryz.prog 7 #[.int .i64 (j : Int), .int .i64 0, .int .i64 ((ds.length : Int) - 1)] W fun e w' => e = .returned (.bool true) ∧ w' = W) := fun W => by
    have := finR (j : Int) 0 ((ds.length : Int) - 1) W
    rw [show (decide (0 ≤ (j : Int)) && decide ((j : Int) ≤ (ds.length : Int) - 1)) = true by rw [Bool.and_eq_true]; simp only [decide_eq_true_eq]; omega] at this
    exact this
  have PO : Hid (∀ W, Calls Tryz.prog 8 #[.int .i64 dv.kind] W fun e w' => e = .returned (.int .i64 (portsV dv.kind)) ∧ Below W.heap.size W w') := fun W => rports_any dv.kind W
  subst hA
  have hq2 : (decide (0 ≤ q) && decide (q ≤ portsV dv.kind - 1)) = true := by
    unfold isPl at hpl
    rw [hkd] at hpl
    simp only [Bool.and_eq_true, decide_eq_true_eq] at hpl ⊢
    omega
  have hbw : b < ((((w.alloc (.cells #[.int .i64 (j : Int), .int .i64 q] 27)).alloc (pkC p)).alloc (.cells #[.int .i64 ch] 3)).alloc (.cells #[.int .i64 0, .int .i64 0, .int .i64 0, .int .i64 0, .int .i64 0, .int .i64 0] 60)).drew.heap.size := Nat.lt_trans hbl M4.blk.lt
  have RG : Hid (∀ W, Calls Tryz.prog 9 #[.agg #[.int .i64 p.s, .int .i64 p.d, .int .i64 p.sp, .int .i64 p.dp]] W fun e w' => e = .returned (.bool true) ∧ Below W.heap.size W w') := fun W => by
    have := right_M p W
    rw [hpk] at this
    exact this
  have hgd : ds.getD (j : Int).toNat default = dv := by rw [Int.toNat_natCast, List.getD_eq_getElem?_getD, hd]; rfl
  obtain ⟨r, hr⟩ : ∃ r, mSend dv FL (j : Int) q p ch = r := ⟨_, rfl⟩
  have HR : Hid (mSend dv FL (j : Int) q p ch = r) := hr
  obtain ⟨x1, x2, x3, x4⟩ := mind_ok hpl hpk hgd hr hm9
  have M1 : Hid (r.err ≠ 0 → m9 = badM r.err FL) := x1
  have M2 : Hid (r.err = 0 → r.out = false → m9 = badM 7 FL) := x2
  have M3 : Hid (r.err = 0 → r.out = true → peerF ls (j : Int) r.port = none → m9 = badM 7 FL) := x3
  have M9 : Hid (∀ t, r.err = 0 → r.out = true → peerF ls (j : Int) r.port = some t → m9 = ⟨0, t, r.p, addF FL r.k⟩) := x4
  have HK : Hid (kindAt ds (j : Int) = dv.kind) := hkd
  have hq4 : 0 ≤ q ∧ q < 4 := by
    simp only [Bool.and_eq_true, decide_eq_true_eq] at hq2
    omega
  have hq5 : dv.kind ≠ 2 → q < 2 := by
    simp only [Bool.and_eq_true, decide_eq_true_eq] at hq2
    unfold portsV at hq2
    intro h
    rw [if_neg h] at hq2
    split at hq2 <;> (try split at hq2) <;> omega
  have S1 : Hid (SlAt g _ 1 IsI vb dv.backs) := s1
  have S2 : Hid (SlAt g _ 5 IsRule vr dv.rules) := s2
  have S3 : Hid (SlAt g _ 3 IsRoute vt dv.routes) := s3
  obtain ⟨Ab, cb, rfl, jk1⟩ := s1
  obtain ⟨Ar, cr, rfl, jk2⟩ := s2
  obtain ⟨At, ct, rfl, jk3⟩ := s3
  have HNB9 : Hid (dv.backs.length ≤ maxLen) := Nat.le_trans jk1.2.1 jk1.2.2.1
  clear jk1 jk2 jk3
  generalize hnb : dv.backs.length = nb at *
  have HNB : Hid (dv.backs.length = nb) := hnb
  clear hnb
  generalize dv.rules.length = nr at *
  generalize dv.routes.length = nt at *
  clear x1 x2 x3 x4 hr hm9 hgd
  generalize hkk : dv.kind = kd at *
  have HKK : Hid (dv.kind = kd) := hkk
  have I2 : Hid (∀ W, Calls Tryz.prog 7 #[.int .i64 q, .int .i64 0, .int .i64 (portsV kd - 1)] W fun e w' => e = .returned (.bool true) ∧ w' = W) := fun W => by
    have := finR q 0 (portsV kd - 1) W
    rw [hq2] at this
    exact this
  generalize portsV kd = po at *
  clear hkk hpl hkd hd hi hln h hpk hq2 hpo
  have g0 := M4.blk.at 0
  have Q0 : ((((w.alloc (.cells #[.int .i64 (j : Int), .int .i64 q] 27)).alloc (pkC p)).alloc (.cells #[.int .i64 ch] 3)).alloc (.cells #[.int .i64 0, .int .i64 0, .int .i64 0, .int .i64 0, .int .i64 0, .int .i64 0] 60)).drew.cell? ⟨g, 0, none⟩ = some (.slice (some ⟨b, o, none⟩) ds.length c) := g0
  obtain ⟨a0, a1⟩ := A4.two
  have Q1 : ((((w.alloc (.cells #[.int .i64 (j : Int), .int .i64 q] 27)).alloc (pkC p)).alloc (.cells #[.int .i64 ch] 3)).alloc (.cells #[.int .i64 0, .int .i64 0, .int .i64 0, .int .i64 0, .int .i64 0, .int .i64 0] 60)).drew.cell? ⟨w.heap.size, 0, none⟩ = some (.int .i64 (j : Int)) := a0
  have Q2 : ((((w.alloc (.cells #[.int .i64 (j : Int), .int .i64 q] 27)).alloc (pkC p)).alloc (.cells #[.int .i64 ch] 3)).alloc (.cells #[.int .i64 0, .int .i64 0, .int .i64 0, .int .i64 0, .int .i64 0, .int .i64 0] 60)).drew.cell? ⟨w.heap.size, 1, none⟩ = some (.int .i64 q) := a1
  have Q3 : ((((w.alloc (.cells #[.int .i64 (j : Int), .int .i64 q] 27)).alloc (pkC p)).alloc (.cells #[.int .i64 ch] 3)).alloc (.cells #[.int .i64 0, .int .i64 0, .int .i64 0, .int .i64 0, .int .i64 0, .int .i64 0] 60)).drew.cell? ⟨b, o + j * 7 + 1, none⟩ = some (.int .i64 kd) := e1
  go_enter Tryz.func20, Tryz.ntmps20
  go_wp2_with fail
  go_region_held3 (fun w' => w'.cell? ⟨g, 0, none⟩ = some (.slice (some ⟨b, o, none⟩) ds.length c) ∧ w'.cell? ⟨w.heap.size, 0, none⟩ = some (.int .i64 (j : Int)) ∧ w'.cell? ⟨w.heap.size, 1, none⟩ = some (.int .i64 q) ∧ w'.cell? ⟨b, o + j * 7 + 1, none⟩ = some (.int .i64 kd)) (go_keep) (first | (go_at_call_of 7 (Value.int .i64 (j : Int)); refine (I1.out _).mono ?_; rintro e w' ⟨rfl, rfl⟩) | (go_at_call 8; refine (PO.out _).mono ?_; rintro e w5 ⟨rfl, hb5⟩; have D5 := chnN hb5 D4.drew; have M5 := M4.drew.below hb5; have A5 := A4.drew.keep hb5; have P5 := P4.drew.keep hb5; have C5 := C4.drew.keep hb5; have R5 := R4.drew.keep hb5; have gq0 := M5.blk.at 0; obtain ⟨aq0, aq1⟩ := A5.two; have eq1 := (hb5.cell (p := ⟨b, o + j * 7 + 1, none⟩) hbw).trans Q3) | (go_at_call_of 7 (Value.int .i64 q); refine (I2.out _).mono ?_; rintro e w' ⟨rfl, hx⟩; obtain rfl := hx.symm))
  obtain ⟨p0, p1, p2, p3, jk⟩ := P5.four
  clear jk
  have hg5 : Below g ((((w.alloc (.cells #[.int .i64 (j : Int), .int .i64 q] 27)).alloc (pkC p)).alloc (.cells #[.int .i64 ch] 3)).alloc (.cells #[.int .i64 0, .int .i64 0, .int .i64 0, .int .i64 0, .int .i64 0, .int .i64 0] 60)) w5 := ((Below.refl g _).drew).trans (hb5.mono (Nat.le_of_lt M4.blk.lt))
  have T1 : Hid (SlAt g w5 1 IsI (.slice Ab nb cb) dv.backs) := SlAt.below S1.out hg5 (fun _ _ _ h => h)
  have T2 : Hid (SlAt g w5 5 IsRule (.slice Ar nr cr) dv.rules) := SlAt.below S2.out hg5 (fun _ _ _ h => h)
  have T3 : Hid (SlAt g w5 3 IsRoute (.slice At nt ct) dv.routes) := SlAt.below S3.out hg5 (fun _ _ _ h => h)
  have E0 := (hb5.cell (p := ⟨b, o + j * 7, none⟩) hbw).trans (show ((((w.alloc (.cells #[.int .i64 (j : Int), .int .i64 q] 27)).alloc (pkC p)).alloc (.cells #[.int .i64 ch] 3)).alloc (.cells #[.int .i64 0, .int .i64 0, .int .i64 0, .int .i64 0, .int .i64 0, .int .i64 0] 60)).drew.cell? _ = _ from e0)
  have E1 := (hb5.cell (p := ⟨b, o + j * 7 + 1, none⟩) hbw).trans (show ((((w.alloc (.cells #[.int .i64 (j : Int), .int .i64 q] 27)).alloc (pkC p)).alloc (.cells #[.int .i64 ch] 3)).alloc (.cells #[.int .i64 0, .int .i64 0, .int .i64 0, .int .i64 0, .int .i64 0, .int .i64 0] 60)).drew.cell? _ = _ from Q3)
  have E2 := (hb5.cell (p := ⟨b, o + j * 7 + 2, none⟩) hbw).trans (show ((((w.alloc (.cells #[.int .i64 (j : Int), .int .i64 q] 27)).alloc (pkC p)).alloc (.cells #[.int .i64 ch] 3)).alloc (.cells #[.int .i64 0, .int .i64 0, .int .i64 0, .int .i64 0, .int .i64 0, .int .i64 0] 60)).drew.cell? _ = _ from e2)
  have E3 := (hb5.cell (p := ⟨b, o + j * 7 + 3, none⟩) hbw).trans (show ((((w.alloc (.cells #[.int .i64 (j : Int), .int .i64 q] 27)).alloc (pkC p)).alloc (.cells #[.int .i64 ch] 3)).alloc (.cells #[.int .i64 0, .int .i64 0, .int .i64 0, .int .i64 0, .int .i64 0, .int .i64 0] 60)).drew.cell? _ = _ from e3)
  have E4 := (hb5.cell (p := ⟨b, o + j * 7 + 4, none⟩) hbw).trans (show ((((w.alloc (.cells #[.int .i64 (j : Int), .int .i64 q] 27)).alloc (pkC p)).alloc (.cells #[.int .i64 ch] 3)).alloc (.cells #[.int .i64 0, .int .i64 0, .int .i64 0, .int .i64 0, .int .i64 0, .int .i64 0] 60)).drew.cell? _ = _ from e4)
  have E5 := (hb5.cell (p := ⟨b, o + j * 7 + 5, none⟩) hbw).trans (show ((((w.alloc (.cells #[.int .i64 (j : Int), .int .i64 q] 27)).alloc (pkC p)).alloc (.cells #[.int .i64 ch] 3)).alloc (.cells #[.int .i64 0, .int .i64 0, .int .i64 0, .int .i64 0, .int .i64 0, .int .i64 0] 60)).drew.cell? _ = _ from e5)
  have E6 := (hb5.cell (p := ⟨b, o + j * 7 + 6, none⟩) hbw).trans (show ((((w.alloc (.cells #[.int .i64 (j : Int), .int .i64 q] 27)).alloc (pkC p)).alloc (.cells #[.int .i64 ch] 3)).alloc (.cells #[.int .i64 0, .int .i64 0, .int .i64 0, .int .i64 0, .int .i64 0, .int .i64 0] 60)).drew.cell? _ = _ from e6)
  have hb5z : b < w5.heap.size := Nat.lt_of_lt_of_le hbw hb5.size
  clear hb5 M4 A4 P4 C4 R4 D4 g0 a0 a1 gq0 aq0 aq1 eq1 e0 e1 e2 e3 e4 e5 e6 Q0 Q1 Q2 Q3 hg5 S1 S2 S3 PO I1 I2 hw hw2 hbw
  go_wp2_with fail
  refine (RG.out _).mono ?_
  rintro e w6 ⟨rfl, hb6⟩
  have M6 := M5.below hb6
  have B6 : Hid (HB w g (some ⟨b, o, none⟩) L c d F cF ds ls FL (j : Int) q p ch dv kd (.slice Ab nb cb) (.slice Ar nr cr) (.slice At nt ct) w6.heap.size (w6.alloc (.cells #[.string dv.name, .int .i64 kd, .int .i64 dv.addr, .int .u8 (dv.pool : Int), .slice Ab nb cb, .slice Ar nr cr, .slice At nt ct] 41))) := by
    have hg6 : Below g w5 w6 := hb6.mono (Nat.le_of_lt M5.blk.lt)
    have ba : Below g w6 (w6.alloc (.cells #[.string dv.name, .int .i64 kd, .int .i64 dv.addr, .int .u8 (dv.pool : Int), .slice Ab nb cb, .slice Ar nr cr, .slice At nt ct] 41)) := (Below.refl _ _).alloc (Nat.le_of_lt M6.blk.lt) _
    refine ⟨M6.alloc _, (A5.keep hb6).alloc _, (P5.keep hb6).alloc _, (C5.keep hb6).alloc _, (R5.keep hb6).alloc _, bk_new w6 _ _, SlAt.below (SlAt.below T1.out hg6 (fun _ _ _ h => h)) ba (fun _ _ _ h => h), SlAt.below (SlAt.below T2.out hg6 (fun _ _ _ h => h)) ba (fun _ _ _ h => h), SlAt.below (SlAt.below T3.out hg6 (fun _ _ _ h => h)) ba (fun _ _ _ h => h), Below.alN (chnN hb6 D5) _, hG, ?_⟩
    have z5 := R5.lt
    have := hb6.size
    omega
  have F0 := (hb6.cell (p := ⟨b, o + j * 7, none⟩) hb5z).trans E0
  have F1 := (hb6.cell (p := ⟨b, o + j * 7 + 1, none⟩) hb5z).trans E1
  have F2 := (hb6.cell (p := ⟨b, o + j * 7 + 2, none⟩) hb5z).trans E2
  have F3 := (hb6.cell (p := ⟨b, o + j * 7 + 3, none⟩) hb5z).trans E3
  have F4 := (hb6.cell (p := ⟨b, o + j * 7 + 4, none⟩) hb5z).trans E4
  have F5 := (hb6.cell (p := ⟨b, o + j * 7 + 5, none⟩) hb5z).trans E5
  have F6 := (hb6.cell (p := ⟨b, o + j * 7 + 6, none⟩) hb5z).trans E6
  have g0 := M6.blk.at 0
  obtain ⟨a0, a1⟩ := (A5.keep hb6).two
  have hb6z : b < w6.heap.size := Nat.lt_of_lt_of_le hb5z hb6.size
  have BZ : Below w6.heap.size w6 (w6.alloc (.cells #[.string ⟨#[]⟩, .int .i64 0, .int .i64 0, .int .u8 0, .slice none 0 0, .slice none 0 0, .slice none 0 0] 41)) := (Below.refl _ _).alloc (Nat.le_refl _) _
  have X0 : (w6.alloc (.cells #[.string ⟨#[]⟩, .int .i64 0, .int .i64 0, .int .u8 0, .slice none 0 0, .slice none 0 0, .slice none 0 0] 41)).drew.cell? ⟨b, o + j * 7, none⟩ = _ := (BZ.cell (p := ⟨b, o + j * 7, none⟩) hb6z).trans F0
  have X1 : (w6.alloc (.cells #[.string ⟨#[]⟩, .int .i64 0, .int .i64 0, .int .u8 0, .slice none 0 0, .slice none 0 0, .slice none 0 0] 41)).drew.cell? ⟨b, o + j * 7 + 1, none⟩ = _ := (BZ.cell (p := ⟨b, o + j * 7 + 1, none⟩) hb6z).trans F1
  have X2 : (w6.alloc (.cells #[.string ⟨#[]⟩, .int .i64 0, .int .i64 0, .int .u8 0, .slice none 0 0, .slice none 0 0, .slice none 0 0] 41)).drew.cell? ⟨b, o + j * 7 + 2, none⟩ = _ := (BZ.cell (p := ⟨b, o + j * 7 + 2, none⟩) hb6z).trans F2
  have X3 : (w6.alloc (.cells #[.string ⟨#[]⟩, .int .i64 0, .int .i64 0, .int .u8 0, .slice none 0 0, .slice none 0 0, .slice none 0 0] 41)).drew.cell? ⟨b, o + j * 7 + 3, none⟩ = _ := (BZ.cell (p := ⟨b, o + j * 7 + 3, none⟩) hb6z).trans F3
  have X4 : (w6.alloc (.cells #[.string ⟨#[]⟩, .int .i64 0, .int .i64 0, .int .u8 0, .slice none 0 0, .slice none 0 0, .slice none 0 0] 41)).drew.cell? ⟨b, o + j * 7 + 4, none⟩ = _ := (BZ.cell (p := ⟨b, o + j * 7 + 4, none⟩) hb6z).trans F4
  have X5 : (w6.alloc (.cells #[.string ⟨#[]⟩, .int .i64 0, .int .i64 0, .int .u8 0, .slice none 0 0, .slice none 0 0, .slice none 0 0] 41)).drew.cell? ⟨b, o + j * 7 + 5, none⟩ = _ := (BZ.cell (p := ⟨b, o + j * 7 + 5, none⟩) hb6z).trans F5
  have X6 : (w6.alloc (.cells #[.string ⟨#[]⟩, .int .i64 0, .int .i64 0, .int .u8 0, .slice none 0 0, .slice none 0 0, .slice none 0 0] 41)).drew.cell? ⟨b, o + j * 7 + 6, none⟩ = _ := (BZ.cell (p := ⟨b, o + j * 7 + 6, none⟩) hb6z).trans F6
  have X7 : (w6.alloc (.cells #[.string ⟨#[]⟩, .int .i64 0, .int .i64 0, .int .u8 0, .slice none 0 0, .slice none 0 0, .slice none 0 0] 41)).drew.cell? ⟨g, 0, none⟩ = _ := (BZ.cell (p := ⟨g, 0, none⟩) M6.blk.lt).trans g0
  have X8 : (w6.alloc (.cells #[.string ⟨#[]⟩, .int .i64 0, .int .i64 0, .int .u8 0, .slice none 0 0, .slice none 0 0, .slice none 0 0] 41)).drew.cell? ⟨w.heap.size, 0, none⟩ = _ := (BZ.cell (p := ⟨w.heap.size, 0, none⟩) (A5.keep hb6).lt).trans a0
  clear hb6 M5 A5 P5 C5 R5 D5 E0 E1 E2 E3 E4 E5 E6 p0 p1 p2 p3 RG T1 T2 T3 M6 hb5z BZ hb6z
  go_wp2_with fail
  go_cut [10] (fun v10 wx => ∃ D, v10 = .pointer (some ⟨D, 0, none⟩) ∧ HB w g (some ⟨b, o, none⟩) L c d F cF ds ls FL (j : Int) q p ch dv kd (.slice Ab nb cb) (.slice Ar nr cr) (.slice At nt ct) D wx)
  case first =>
    go_region
    all_goals
      go_wp2_with fail
      go_meet
      exact ⟨_, rfl, B6.out.drewN _⟩
  case rest =>
    obtain ⟨D, rfl, B7⟩ := hcut
    obtain ⟨a0, a1⟩ := B7.ba.two
    have hw3 : IntKind.i64.wrap (1 - q) = 1 - q := IntWalk.i64_in _ (by omega)
    clear B6 F0 F1 F2 F3 F4 F5 F6 g0 X0 X1 X2 X3 X4 X5 X6 X7 X8
    go_wp2_with fail
    go_cut [11, 12] (fun v11 v12 wx => v11 = .bool false ∧ v12 = .int .i64 (1 - q) ∧ HB w g (some ⟨b, o, none⟩) L c d F cF ds ls FL (j : Int) q p ch dv kd (.slice Ab nb cb) (.slice Ar nr cr) (.slice At nt ct) D wx)
    case first =>
      go_quiet (fail)
      go_wp2_with fail
      go_meet
      exact ⟨rfl, rfl, B7.drewN _⟩
    case rest =>
      obtain ⟨rfl, rfl, B8⟩ := hcut
      obtain ⟨p0, p1, p2, p3, jk⟩ := B8.bp.four
      clear jk
      have FX := hg_facts w g (some ⟨b, o, none⟩) L c d F cF ds ls FL (j : Int) q p ch dv kd (.slice Ab nb cb) (.slice Ar nr cr) (.slice At nt ct) D wc.heap.size hG
      have G8 := B8.toG
      have hN8 : w.heap.size + 1 + 1 + 1 < wc.heap.size := Nat.lt_trans B8.dl B8.bd.lt
      generalize HG w g (some ⟨b, o, none⟩) L c d F cF ds ls FL (j : Int) q p ch dv kd (.slice Ab nb cb) (.slice Ar nr cr) (.slice At nt ct) D wc.heap.size = G at G8 FX
      clear B7 B8 a0 a1 hw3
      have d1 := (FX.cd G8).1
      generalize hQ : wc.heap.size = Q at *
      go_upto_block 0 with fail
      have G8' : G p (wc.alloc (pkC p)) := G8
      have hNB : nb ≤ maxLen := HNB9.out
      refine sw_all (by kernel_rfl) HR HKK hq4.1 hq5 FX G8' hNB _ ?hr _ _ _ _ _ _ _ _ _ _ _ _ _ _ _ _ _ _ _ _ _ _ _ _ _ _ _ _ _ _ _ _ _ _ _ _ _ _ _ _ _ _ _ _ _ _ _ _ _ _ _ _ _ _ _ _ _ _ _ _ _ _ _ _ _ _ _ _ _ _ _ _ _ _ _ _ _ _ _ _ _ _ _ _ _ _ _ _ _ _ _ _ _ _ _ _ _ _ _ _ _ _ _ _ _ _ _ _ _ _ _ _ _ _ _ _ _ _ _ _ _ _ _ _ _ _ _ _ _ _ _ _ _ _ _ _ _ _ _ _ _ _ _ _ _ _ _ _ _ _ _ _ _ _ _ _ _ _ _ _ _ _ _ _ _ _ _ _ _ _ _ _ _ _ _ _ _ _ _ _ _ _ _ _ _ _ _ _ _ _ _ _ _ _ _ _ _ _ _ _ _ _ _ _ _ _ _ _ _ _ _ _ _ _ _ _ _ _ _ _ _ _ _ _ _ _ _ _ _ _ _ _ _ _ _ _ _ _ _ _ _ _ _ _ _ _ _ _ _ _ _ _ _ _ _ _ _ _ _ _ _ _ _ _ _ _ _ _ _ _ _ _ _ _ _ _ _ _ _ _ _ _ _ _ _ _ _ _ ?hs
      case hr =>
        intro a9 W9 hd9 e8 e9 hne hB9 hMo
        refine ⟨hd9, _, res8 e8 e9 hB9, ?_⟩
        rw [M1.out hne]
        exact ⟨rfl, hMo⟩
      case hs =>
        intro a9 W9 h9
        go_step
        refine sw_re (by kernel_rfl) FX hn _ ?hbad ?hok _ _ _ _ _ _ _ _ _ _ _ _ _ _ _ _ _ _ _ _ _ _ _ _ _ _ _ _ _ _ _ _ _ _ _ _ _ _ _ _ _ _ _ _ _ _ _ _ _ _ _ _ _ _ _ _ _ _ _ _ _ _ _ _ _ _ _ _ _ _ _ _ _ _ _ _ _ _ _ _ _ _ _ _ _ _ _ _ _ _ _ _ _ _ _ _ _ _ _ _ _ h9
        case hbad =>
          intro he0 a9 W9 hd9 e8 e9 hno hB9 hMo
          refine ⟨hd9, _, res8 e8 e9 hB9, ?_⟩
          have : m9 = badM 7 FL := by
            cases ho : r.out
            · exact M2.out he0 ho
            · exact M3.out he0 ho (hno.resolve_left (by rw [ho]; exact Bool.noConfusion))
          rw [this]
          exact ⟨rfl, hMo⟩
        case hok =>
          intro he0 a9 W9 t9 ho9 hp9 hd9 e8 e9 hB9 hMo
          refine ⟨hd9, _, res8 e8 e9 hB9, ?_⟩
          rw [M9.out t9 he0 ho9 hp9]
          exact ⟨rfl, hMo⟩
end Go.Proofs.YthioedgnambomaaGreat



namespace Go.Proofs.YthioedgnambomaaGreat
open Go.RowKit Go.Maps

abbrev Plc := Int × Int
abbrev plC (x : Plc) : List Value := [.int .i64 x.1, .int .i64 x.2]
def IsPlc (cs : List Value) (x : Plc) : Prop := cs = plC x
theorem plC_one (x : Plc) : ∀ u ∈ plC x, u.oneCell' = true := by
  intro u hu
  simp only [plC, List.mem_cons, List.not_mem_nil, or_false] at hu
  rcases hu with rfl | rfl <;> rfl
theorem flatP_at : ∀ (ar : List Plc) (k : Nat) (x : Plc), ar[k]? = some x → (((ar.flatMap plC).drop (k * 2)).take 2) = plC x
  | [], k, x, h => by simp at h
  | y :: ys, 0, x, h => by
    obtain rfl := Option.some.inj h
    rfl
  | y :: ys, k + 1, x, h => by
    have e : ((y :: ys).flatMap plC).drop ((k + 1) * 2) = (ys.flatMap plC).drop (k * 2) := by
      rw [List.flatMap_cons, show (k + 1) * 2 = (plC y).length + k * 2 by show (k + 1) * 2 = 2 + k * 2; omega, List.drop_append]
      simp
    rw [e]
    exact flatP_at ys k x (by simpa using h)
theorem uPls : Tryz.prog.underlying 32 = some (.slice 27) := by kernel_rfl
theorem infoPl : (Tryz.prog.info? 27).map (fun i => (i.zero, i.size, i.bytes)) = some (some (.agg #[.int .i64 0, .int .i64 0]), 2, 16) := by kernel_rfl
theorem SlAt.plc {base : Nat} {w : World} {A : Option Addr} {c : Nat} {xs : List Plc} (h : SlAt base w 2 IsPlc (.slice A xs.length c) xs) {k : Nat} {x : Plc} (hx : xs[k]? = some x) : ∃ b o, A = some ⟨b, o, none⟩ ∧ w.cell? ⟨b, o + k * 2, none⟩ = some (.int .i64 x.1) ∧ w.cell? ⟨b, o + k * 2 + 1, none⟩ = some (.int .i64 x.2) := by
  obtain ⟨A', c', e, h0, h1, h2, h3⟩ := h
  cases e
  obtain ⟨b, o, ea, hl, hr⟩ := h3 (fun e => by rw [e] at hx; cases hx)
  obtain ⟨cs, _, hc, c3⟩ := hr k x hx
  unfold IsPlc at hc
  subst hc
  exact ⟨b, o, ea, c3 0 _ rfl, c3 1 _ rfl⟩
def plB (a b : Plc) : Bool := (a.1 == b.1) && (a.2 == b.2)
theorem plB_iff {a b : Plc} : plB a b = true ↔ a = b := by
  obtain ⟨i, q⟩ := a
  obtain ⟨i', q'⟩ := b
  unfold plB
  simp
theorem plB_comm (a b : Plc) : plB a b = plB b a := by
  rw [Bool.eq_iff_iff, plB_iff, plB_iff]
  exact eq_comm
theorem any_plB (ar : List Plc) (f : Plc) : ar.any (fun x => plB x f) = decide (f ∈ ar) := by
  rw [Bool.eq_iff_iff, List.any_eq_true, decide_eq_true_iff]
  constructor
  · rintro ⟨x, hx, h⟩
    rw [← plB_iff.1 h]
    exact hx
  · intro h
    exact ⟨f, h, plB_iff.2 rfl⟩
theorem any_takePl {ar : List Plc} {k : Nat} {x : Plc} {p : Plc → Bool} (h : ar[k]? = some x) : (ar.take (k + 1)).any p = ((ar.take k).any p || p x) := by
  rw [List.take_add_one, h]
  simp
theorem pl_eq (a b : Plc) (w : World) : (binOp .eql 27 (.agg #[.int .i64 a.1, .int .i64 a.2]) (.agg #[.int .i64 b.1, .int .i64 b.2])).run Tryz.prog w = .ok (.bool (plB a b)) w := by
  obtain ⟨i, s⟩ := a
  obtain ⟨i', s'⟩ := b
  unfold plB
  cases h0 : (i == i') <;> cases h1 : (s == s')
  all_goals simp [go_sem, Tryz.underlying27, Tryz.underlying3, h0, h1]
theorem pl_ne_same (x y : Int) (w : World) : (binOp .neq 27 (.agg #[.int .i64 x, .int .i64 y]) (.agg #[.int .i64 x, .int .i64 y])).run Tryz.prog w = .ok (.bool false) w := by
  simp [go_sem, Tryz.underlying27, Tryz.underlying3]
set_option maxHeartbeats 4000000 in
set_option maxRecDepth 100000 in
theorem index_pl (A : Option Addr) (cap : Nat) (FL : List Plc) (f : Plc) (base : Nat) (w : World) (hb0 : base ≤ w.heap.size) (hL : Hid (SlAt base w 2 IsPlc (.slice A FL.length cap) FL)) :
    Calls Tryz.prog 45 #[.slice A FL.length cap, .agg #[.int .i64 f.1, .int .i64 f.2]] w fun e w' => ∃ j : Int, e = .returned (.int .i64 j) ∧ Hid (decide (0 ≤ j) = FL.any (fun x => plB f x)) ∧ Below w.heap.size w w' := by
  have hm : FL.length ≤ maxLen := by obtain ⟨_, _, e, _, a, b, _⟩ := hL.out; cases e; omega
  unfold maxLen at hm
  have X1 := bk_new w #[.int .i64 f.1, .int .i64 f.2] 27
  have D0 := Below.alN (Below.refl w.heap.size w) (.cells #[.int .i64 f.1, .int .i64 f.2] 27)
  go_enter Tryz.func45, Tryz.ntmps45
  go_wp2_with fail
  have X1' : Hid (Bk (w.alloc (.cells #[.int .i64 f.1, .int .i64 f.2] 27)) w.heap.size #[.int .i64 f.1, .int .i64 f.2] 27) := X1
  clear X1
  go_loopw [8] (fun i wr => ∃ k : Nat, i = .int .i64 (k : Int) ∧ k ≤ FL.length ∧ Below w.heap.size w wr ∧ Bk wr w.heap.size #[.int .i64 f.1, .int .i64 f.2] 27 ∧ Hid ((FL.take k).any (fun x => plB f x) = false)) (fun i _ => FL.length - (intOf i).toNat)
  case atStart => exact ⟨0, rfl, by omega, D0, X1'.out, rfl⟩
  case round =>
    clear D0 X1'
    obtain ⟨k, rfl, hk, D1, Y1, hno⟩ := hrel
    by_cases hlt : k < FL.length
    · obtain ⟨x, hxk⟩ : ∃ x, FL[k]? = some x := ⟨_, List.getElem?_eq_getElem hlt⟩
      obtain ⟨b, o, rfl, c0, d1⟩ := (SlAt.below hL.out (D1.mono hb0) (fun _ _ _ h => h)).plc hxk
      obtain ⟨y0, y1⟩ := Y1.two
      have FE := fun w => pl_eq f x w
      have HX : Hid (FL[k]? = some x) := hxk
      have k1 : (0 : Int) ≤ (k : Int) := by omega
      have k2 : (k : Int) < (FL.length : Int) := by omega
      have D2 := D1.drew
      have Y2 := Y1.drew
      clear hL hxk
      cases hv : plB f x
      · rw [hv] at FE
        have HV : Hid ((FL.take (k + 1)).any (fun x => plB f x) = false) := by show _ = _; rw [any_takePl HX.out, hno.out, hv]; rfl
        clear hv hno HX
        obtain ⟨fi, fs⟩ := f
        obtain ⟨xi, xs⟩ := x
        dsimp only at *
        go_wp2_with fail
        go_region
        all_goals
          go_wp2_with fail
          go_roundw
          case rel => exact ⟨k + 1, by go_num, by omega, by first | exact D2 | exact D1, by first | exact Y2 | exact Y1, HV⟩
          case measure => simp [intOf]; omega
      · rw [hv] at FE
        have fin : Hid (FL.any (fun x => plB f x) = true) := List.any_eq_true.2 ⟨x, List.mem_of_getElem? HX.out, hv⟩
        clear hv hno HX
        obtain ⟨fi, fs⟩ := f
        obtain ⟨xi, xs⟩ := x
        dsimp only at *
        go_wp2_with fail
        go_region
        all_goals
          go_wp2_with fail
          go_ret
          exact ⟨_, rfl, (by show _ = _; rw [fin.out]; simp), by first | exact D2 | exact D1⟩
    · have fin : Hid (FL.any (fun x => plB f x) = false) := by
        have := hno.out
        rw [show k = FL.length by omega, List.take_length] at this
        exact this
      go_wp2_with fail
      go_ret
      exact ⟨_, rfl, (by show _ = _; rw [fin.out]; simp), D1⟩
set_option maxHeartbeats 2000000 in
set_option maxRecDepth 100000 in
theorem contains_pl (A : Option Addr) (cap : Nat) (FL : List Plc) (f : Plc) (base : Nat) (w : World) (hb0 : base ≤ w.heap.size) (hL : Hid (SlAt base w 2 IsPlc (.slice A FL.length cap) FL)) :
    Calls Tryz.prog 21 #[.slice A FL.length cap, .agg #[.int .i64 f.1, .int .i64 f.2]] w fun e w' => e = .returned (.bool (decide (f ∈ FL))) ∧ Below w.heap.size w w' := by
  have X1 := bk_new w #[.int .i64 f.1, .int .i64 f.2] 27
  have D1 := Below.alN (Below.refl w.heap.size w) (.cells #[.int .i64 f.1, .int .i64 f.2] 27)
  have IX : Hid (∀ W, Below w.heap.size w W → Calls Tryz.prog 45 #[.slice A FL.length cap, .agg #[.int .i64 f.1, .int .i64 f.2]] W fun e w' => ∃ j : Int, e = .returned (.int .i64 j) ∧ Hid (decide (0 ≤ j) = decide (f ∈ FL)) ∧ Below W.heap.size W w') := fun W h => (index_pl A cap FL f base W (Nat.le_trans hb0 h.size) (SlAt.below hL.out (h.mono hb0) (fun _ _ _ h => h))).mono fun e w' ⟨j, h1, h2, h3⟩ => ⟨j, h1, by
    show _ = _
    rw [h2.out, ← any_plB]
    congr 1
    funext x
    exact plB_comm f x, h3⟩
  obtain ⟨x0, x1⟩ := X1.two
  obtain ⟨fi, fs⟩ := f
  generalize decide ((fi, fs) ∈ FL) = r at *
  dsimp only at *
  clear hL X1
  go_enter Tryz.func21, Tryz.ntmps21
  go_wp2_with fail
  with_reducible refine (IX.out _ D1).mono ?_
  rintro e w2 ⟨j, rfl, hj, hb2⟩
  have D2 := chnN hb2 D1
  go_wp2_with fail
  go_ret
  exact ⟨by rw [← hj.out]; first | rfl | simp, D2⟩
set_option maxHeartbeats 4000000 in
set_option maxRecDepth 100000 in
theorem equal_pls (A1 A2 : Option Addr) (c1 c2 : Nat) (xs : List Plc) (base : Nat) (w : World) (h1 : Hid (SlAt base w 2 IsPlc (.slice A1 xs.length c1) xs)) (h2 : Hid (SlAt base w 2 IsPlc (.slice A2 xs.length c2) xs)) :
    Calls Tryz.prog 11 #[.slice A1 xs.length c1, .slice A2 xs.length c2] w fun e w' => e = .returned (.bool true) ∧ Below w.heap.size w w' := by
  have l1 : xs.length ≤ maxLen := by obtain ⟨_, _, e, _, a, b, _⟩ := h1.out; cases e; omega
  unfold maxLen at l1
  have D0 := Below.refl w.heap.size w
  go_enter Tryz.func11, Tryz.ntmps11
  go_wp2_with fail
  go_loopw [13] (fun i wr => ∃ k : Nat, i = .int .i64 (k : Int) ∧ k ≤ xs.length ∧ wr.heap = w.heap ∧ Below w.heap.size w wr) (fun i _ => xs.length - (intOf i).toNat)
  case atStart => exact ⟨0, rfl, by omega, rfl, D0⟩
  case round =>
    obtain ⟨k, rfl, hk, hw, D1⟩ := hrel
    by_cases hlt : k < xs.length
    · obtain ⟨x, hx⟩ : ∃ x, xs[k]? = some x := ⟨_, List.getElem?_eq_getElem hlt⟩
      have hc : ∀ a, wr.cell? a = w.cell? a := fun a => by unfold World.cell?; rw [hw]
      obtain ⟨b, o, rfl, a0, a1⟩ := h1.out.plc hx
      obtain ⟨b', o', rfl, e0, e1⟩ := h2.out.plc hx
      rw [← hc] at a0 a1 e0 e1
      have ANE := fun w => pl_ne_same x.1 x.2 w
      have k1 : (0 : Int) ≤ (k : Int) := by omega
      have k2 : (k : Int) < (xs.length : Int) := by omega
      obtain ⟨i, q⟩ := x
      dsimp only at *
      clear hc hx
      have D2 := D1.drew
      have hw2 : wr.drew.heap = w.heap := hw
      go_wp2_with fail
      go_region
      all_goals
        go_wp2_with fail
        go_roundw
        case rel => exact ⟨k + 1, by go_num, by omega, by first | exact hw2 | exact hw, by first | exact D2 | exact D1⟩
        case measure => simp [intOf]; omega
    · go_wp2_with fail
      go_ret
      exact ⟨rfl, D1⟩
end Go.Proofs.YthioedgnambomaaGreat

namespace Go.Proofs.YthioedgnambomaaGreat
open Go.RowKit Go.Maps

/-- Where a packet that comes in at a place goes, where nothing is known. -/
noncomputable def nxF (ds : List Dv) (ls : List Lk) (p : Pk) (t : Plc) : Option Plc := if (handleP ds ls noM t.1 t.2 p 0).err = 0 then some (handleP ds ls noM t.1 t.2 p 0).tp else none
def PlainD (ds : List Dv) : Prop := ∀ d ∈ ds, d.kind = 1 ∨ d.kind = 2
theorem send_no {d : Dv} (hd : d.kind = 1 ∨ d.kind = 2) (M : Mnd) (i q : Int) (p : Pk) (c : Int) : learnP M (sendP d M i q p c).l = M := by
  unfold sendP
  rcases hd with h | h
  · rw [if_neg (by omega), if_neg (by omega), if_neg (by omega), if_neg (by omega)]
    rfl
  · rw [if_pos h]
    unfold routeP
    split <;> rfl
theorem handle_keeps {ds : List Dv} (hp : PlainD ds) (ls : List Lk) (M : Mnd) (i q : Int) (p : Pk) (c : Int) : (handleP ds ls M i q p c).M = M := by
  unfold handleP
  cases hpl : isPl ds i q
  · rfl
  rw [if_pos rfl]
  cases hpk : pkOk p
  · rfl
  rw [if_pos rfl]
  have hi : i.toNat < ds.length := by
    unfold isPl at hpl
    simp only [Bool.and_eq_true, decide_eq_true_eq] at hpl
    omega
  have hd : (ds.getD i.toNat default).kind = 1 ∨ (ds.getD i.toNat default).kind = 2 := by
    rw [List.getD_eq_getElem?_getD, List.getElem?_eq_getElem hi]
    exact hp _ (List.getElem_mem hi)
  split
  · cases peerF ls i (sendP (ds.getD i.toNat default) M i q p c).port with
    | some t => exact send_no hd M i q p c
    | none => rfl
  · rfl
theorem nx_place {ds : List Dv} {ls : List Lk} (hz : netV ds ls = 0) {p : Pk} {t t' : Plc} (h : nxF ds ls p t = some t') : isPl ds t'.1 t'.2 = true := by
  unfold nxF at h
  split at h
  · rename_i he
    cases h
    unfold handleP at he ⊢
    cases hpl : isPl ds t.1 t.2
    · rw [hpl] at he
      exact absurd (show (4 : Int) = 0 from he) (by decide)
    rw [hpl, if_pos rfl] at he
    rw [if_pos rfl]
    cases hpk : pkOk p
    · rw [hpk] at he
      exact absurd (show (1 : Int) = 0 from he) (by decide)
    rw [hpk, if_pos rfl] at he
    rw [if_pos rfl]
    split at he
    · rename_i h0
      rw [if_pos h0]
      cases hpe : peerF ls t.1 (sendP (ds.getD t.1.toNat default) noM t.1 t.2 p 0).port with
      | some u => exact peerF_place ls _ _ u (netV_links hz).2.2.2 hpe
      | none =>
        rw [hpe] at he
        exact absurd (show (7 : Int) = 0 from he) (by decide)
    · rename_i h0
      exact absurd he h0
  · cases h

/-! ### how many places there are -/
theorem nodup_lt : ∀ (n : Nat) (l : List Nat), l.Nodup → (∀ x ∈ l, x < n) → l.length ≤ n
  | 0, l, _, h => by
    cases l with
    | nil => simp
    | cons a l => exact absurd (h a (by simp)) (by omega)
  | n + 1, l, hn, h => by
    have h1 := nodup_lt n (l.erase n) (hn.erase n) (fun x hx => by
      have := (List.Nodup.mem_erase_iff hn).1 hx
      have := h x this.2
      omega)
    by_cases hm : n ∈ l
    · rw [List.length_erase_of_mem hm] at h1
      omega
    · rw [List.erase_of_not_mem hm] at h1
      omega
def plN (x : Plc) : Nat := 4 * x.1.toNat + x.2.toNat
theorem portsV_le (k : Int) : portsV k ≤ 4 := by
  unfold portsV
  split
  · omega
  split
  · omega
  split <;> omega
theorem isPl_b {ds : List Dv} {x y : Int} (h : isPl ds x y = true) : 0 ≤ x ∧ x < (ds.length : Int) ∧ 0 ≤ y ∧ y < 4 := by
  unfold isPl at h
  simp only [Bool.and_eq_true, decide_eq_true_eq] at h
  have := portsV_le (kindAt ds x)
  omega
theorem places_len {ds : List Dv} (hd : ds.length ≤ 10) {acc : List Plc} (hn : acc.Nodup) (hp : ∀ x ∈ acc, isPl ds x.1 x.2 = true) : acc.length ≤ 40 := by
  have h := nodup_lt 40 (acc.map plN) (by
    refine List.pairwise_map.2 (List.Pairwise.imp_of_mem ?_ hn)
    intro a b ha hb hab e
    have h1 := isPl_b (hp a ha)
    have h2 := isPl_b (hp b hb)
    unfold plN at e
    refine hab (Prod.ext ?_ ?_)
    · omega
    · omega) (fun x hx => by
    obtain ⟨y, hy, rfl⟩ := List.mem_map.1 hx
    have := isPl_b (hp y hy)
    unfold plN
    omega)
  simpa using h

/-! ### the way -/
def goW (nx : Plc → Option Plc) : Nat → List Plc → Plc → List Plc × Bool
  | 0, acc, _ => (acc, false)
  | F + 1, acc, t => if t ∈ acc then (acc, true) else (nx t).elim (acc ++ [t], false) (goW nx F (acc ++ [t]))
theorem goW_in {nx : Plc → Option Plc} {F : Nat} {acc : List Plc} {t : Plc} (h : t ∈ acc) : goW nx (F + 1) acc t = (acc, true) := by rw [goW, if_pos h]
theorem goW_no {nx : Plc → Option Plc} {F : Nat} {acc : List Plc} {t : Plc} (h : t ∉ acc) (hx : nx t = none) : goW nx (F + 1) acc t = (acc ++ [t], false) := by
  rw [goW, if_neg h, hx]
  rfl
theorem goW_on {nx : Plc → Option Plc} {F : Nat} {acc : List Plc} {t t' : Plc} (h : t ∉ acc) (hx : nx t = some t') : goW nx (F + 1) acc t = goW nx F (acc ++ [t]) t' := by
  rw [goW, if_neg h, hx]
  rfl
/-- On the way: what was, where it is. -/
structure WInv (ds : List Dv) (nx : Plc → Option Plc) (res : List Plc × Bool) (acc : List Plc) (t : Plc) : Prop where
  eq : goW nx (41 - acc.length) acc t = res
  nd : acc.Nodup
  pl : ∀ x ∈ acc, isPl ds x.1 x.2 = true
  tp : isPl ds t.1 t.2 = true
  d10 : ds.length ≤ 10
section
variable {ds : List Dv} {nx : Plc → Option Plc} {res : List Plc × Bool} {acc : List Plc} {t t' : Plc}
theorem WInv.len (h : WInv ds nx res acc t) : acc.length ≤ 40 := places_len h.d10 h.nd h.pl
theorem winv_start (hd : ds.length ≤ 10) (ht : isPl ds t.1 t.2 = true) : WInv ds nx (goW nx 41 [] t) [] t := ⟨rfl, List.nodup_nil, (fun x hx => by cases hx), ht, hd⟩
theorem WInv.fuel (h : WInv ds nx res acc t) : 41 - acc.length = (40 - acc.length) + 1 := by
  have := h.len
  omega
theorem WInv.round (h : WInv ds nx res acc t) (hm : t ∈ acc) : res = (acc, true) := by
  rw [← h.eq, h.fuel, goW_in hm]
theorem WInv.stop (h : WInv ds nx res acc t) (hm : t ∉ acc) (hx : nx t = none) : res = (acc ++ [t], false) := by
  rw [← h.eq, h.fuel, goW_no hm hx]
theorem WInv.next (h : WInv ds nx res acc t) (hm : t ∉ acc) (hx : nx t = some t') (hp : isPl ds t'.1 t'.2 = true) : WInv ds nx res (acc ++ [t]) t' := by
  refine ⟨?_, ?_, ?_, hp, h.d10⟩
  · rw [← h.eq, h.fuel, goW_on hm hx]
    congr 1
    simp <;> omega
  · rw [List.nodup_append]
    refine ⟨h.nd, by simp, ?_⟩
    intro a ha b hb e
    rw [List.mem_singleton.1 hb] at e
    exact hm (e ▸ ha)
  · intro x hx
    rcases List.mem_append.1 hx with hx | hx
    · exact h.pl x hx
    · rw [List.mem_singleton.1 hx]
      exact h.tp
end
/-- How a way ends. -/
structure Ended (ds : List Dv) (nx : Plc → Option Plc) (t0 : Plc) (l : List Plc) (r : Bool) : Prop where
  head : l[0]? = some t0
  nd : l.Nodup
  on : ∀ k x, l[k]? = some x → k + 1 < l.length → ∃ y, l[k + 1]? = some y ∧ nx x = some y
  rnd : r = true → ∀ x, l[l.length - 1]? = some x → ∃ y, nx x = some y ∧ y ∈ l
  rest : r = false → ∀ x, l[l.length - 1]? = some x → nx x = none
  pl : ∀ x ∈ l, isPl ds x.1 x.2 = true
theorem goW_ended {ds : List Dv} {nx : Plc → Option Plc} {t0 : Plc} (hpl : ∀ x y, nx x = some y → isPl ds y.1 y.2 = true) : ∀ (F : Nat) (acc : List Plc) (t : Plc) (res : List Plc × Bool), F = 41 - acc.length → WInv ds nx res acc t → (acc ++ [t])[0]? = some t0 → (∀ k x, acc[k]? = some x → ∃ y, (acc ++ [t])[k + 1]? = some y ∧ nx x = some y) → Ended ds nx t0 res.1 res.2
  | 0, acc, t, res, hF, h, _, _ => by
    have := h.len
    omega
  | F + 1, acc, t, res, hF, h, h0, hc => by
    by_cases hm : t ∈ acc
    · obtain rfl := h.round hm
      have hne : 0 < acc.length := List.length_pos_of_mem hm
      refine ⟨?_, h.nd, ?_, ?_, (fun e => by cases e), h.pl⟩
      · rw [List.getElem?_append_left hne] at h0
        exact h0
      · intro k x hk hl
        obtain ⟨y, h1, h2⟩ := hc k x hk
        have hl' : k + 1 < acc.length := hl
        rw [List.getElem?_append_left hl'] at h1
        exact ⟨y, h1, h2⟩
      · intro _ x hx
        obtain ⟨y, h1, h2⟩ := hc _ x hx
        have hl : acc.length - 1 + 1 = acc.length := by omega
        rw [hl, List.getElem?_append_right (Nat.le_refl _)] at h1
        simp at h1
        exact ⟨y, h2, h1 ▸ hm⟩
    · have hon : ∀ (k : Nat) (x : Plc), (acc ++ [t])[k]? = some x → k + 1 < (acc ++ [t]).length → ∃ y, (acc ++ [t])[k + 1]? = some y ∧ nx x = some y := by
        intro k x hk hl
        have hl' : k < acc.length := by simpa using hl
        rw [List.getElem?_append_left hl'] at hk
        exact hc k x hk
      have hnd : (acc ++ [t]).Nodup := by
        rw [List.nodup_append]
        refine ⟨h.nd, by simp, ?_⟩
        intro a ha b hb e
        rw [List.mem_singleton.1 hb] at e
        exact hm (e ▸ ha)
      cases hx : nx t with
      | none =>
        obtain rfl := h.stop hm hx
        refine ⟨h0, hnd, hon, (fun e => by cases e), ?_, ?_⟩
        rotate_left
        · intro x hx'
          rcases List.mem_append.1 hx' with h' | h'
          · exact h.pl x h'
          · rw [List.mem_singleton.1 h']
            exact h.tp
        intro _ x hk
        have e : (acc ++ [t]).length - 1 = acc.length := by simp
        have hk' : (acc ++ [t])[(acc ++ [t]).length - 1]? = some x := hk
        rw [e, List.getElem?_append_right (Nat.le_refl _)] at hk'
        simp at hk'
        rw [← hk']
        exact hx
      | some t' =>
        refine goW_ended hpl F (acc ++ [t]) t' res (by simp; omega) (h.next hm hx (hpl _ _ hx)) ?_ ?_
        · rw [List.getElem?_append_left (by simp)]
          exact h0
        · intro k x hk
          by_cases hl : k + 1 < (acc ++ [t]).length
          · obtain ⟨y, h1, h2⟩ := hon k x hk hl
            exact ⟨y, by rw [List.getElem?_append_left hl]; exact h1, h2⟩
          · have hk2 := (List.getElem?_eq_some_iff.1 hk).1
            have e : k = acc.length := by simp at hl hk2; omega
            subst e
            rw [List.getElem?_append_right (Nat.le_refl _)] at hk
            simp at hk
            subst hk
            refine ⟨t', ?_, hx⟩
            rw [List.getElem?_append_right (by simp)]
            simp
/-- What ring.walk tells of a place. -/
noncomputable def wayP (ds : List Dv) (ls : List Lk) (p : Pk) (t : Plc) : List Plc × Bool := goW (nxF ds ls p) 41 [] t
theorem way_ended {ds : List Dv} {ls : List Lk} (hz : netV ds ls = 0) {p : Pk} {t : Plc} (ht : isPl ds t.1 t.2 = true) : Ended ds (nxF ds ls p) t (wayP ds ls p t).1 (wayP ds ls p t).2 :=
  goW_ended (ds := ds) (fun _ _ h => nx_place hz h) 41 [] t _ rfl (winv_start (netV_links hz).1 ht) rfl (fun k x h => by simp at h)
end Go.Proofs.YthioedgnambomaaGreat

namespace Go.Proofs.YthioedgnambomaaGreat
open Go.RowKit Go.Maps

/-- A memory that knows nothing, all of it below N. -/
structure RSt (m : Mp) (ds : List Dv) (ls : List Lk) (n N : Nat) (W : World) : Prop where
  mem : MemAt W m ds ls n noM
  dN : Devs N W (.slice m.A ds.length m.cap) ds
  lN : Links N W (.slice m.L ls.length m.cap') ls
  lt : m.B < N ∧ m.f < N ∧ m.o < N ∧ m.k < N
  le : N ≤ W.heap.size
section
variable {W W' : World} {m : Mp} {ds : List Dv} {ls : List Lk} {n n' N : Nat}
theorem rst_of (h : MemAt W m ds ls n noM) : RSt m ds ls n W.heap.size W := ⟨h, h.devs, h.links, ⟨h.lt, h.fl.lt, h.ow.lt, h.bk.lt⟩, Nat.le_refl _⟩
theorem RSt.above (h : RSt m ds ls n N W) (hb : ∀ b, b < N → W'.heap[b]? = W.heap[b]?) (hs : N ≤ W'.heap.size) : RSt m ds ls n N W' := by
  have kt : KT N W W' := fun b hb' _ => hb b hb'
  obtain ⟨l1, l2, l3, l4⟩ := h.lt
  exact ⟨⟨⟨(hb _ l1).trans h.mem.blk.1, h.mem.blk.2⟩, (h.dN.kt kt).mono hs, (h.lN.kt kt).mono hs, h.mem.fl.same (hb _ l2), h.mem.ow.same (hb _ l3), h.mem.bk.same (hb _ l4), h.mem.fo, h.mem.fk, h.mem.ok⟩, h.dN.kt kt, h.lN.kt kt, h.lt, hs⟩
theorem RSt.hk (h : RSt m ds ls n N W) (hM : MemAt W' m ds ls n' noM) (hk : HK m W W') : RSt m ds ls n' N W' := by
  have kt : KT N W W' := fun b hb hn => (h.mem.ck hk).block b hn (Nat.lt_of_lt_of_le hb h.le)
  exact ⟨hM, h.dN.kt kt, h.lN.kt kt, h.lt, Nat.le_trans h.le hk.size⟩
end
/-- On the way, in memory: a row of places of the call's own, the memory, the place, the packet. -/
structure RS (w : World) (m : Mp) (ds : List Dv) (ls : List Lk) (p : Pk) (v : Value) (acc : List Plc) (n : Nat) (t : Plc) (W : World) : Prop where
  row : W.ownsRow (w.heap.size + 1 + 1) 27 2 v acc.length (acc.flatMap plC)
  st : RSt m ds ls n w.heap.size W
  hk : HK m w W
  bt : Bk W w.heap.size #[.int .i64 t.1, .int .i64 t.2] 27
  bp : Bk W (w.heap.size + 1) #[.int .i64 p.s, .int .i64 p.d, .int .i64 p.sp, .int .i64 p.dp] 29
section
variable {w W W' : World} {m : Mp} {ds : List Dv} {ls : List Lk} {p : Pk} {v : Value} {acc : List Plc} {n n' : Nat} {t t' : Plc}
theorem RS.below (hb : Below W.heap.size W W') (h : RS w m ds ls p v acc n t W) : RS w m ds ls p v acc n t W' :=
  ⟨own_below h.row hb, h.st.above (fun b hb' => hb.block b (Nat.lt_of_lt_of_le hb' h.st.le)) (Nat.le_trans h.st.le hb.size), h.hk.trans (HK.of_below hb), h.bt.keep hb, h.bp.keep hb⟩
theorem RS.alloc (h : RS w m ds ls p v acc n t W) (o : Obj) : RS w m ds ls p v acc n t (W.alloc o) := h.below ((Below.refl _ _).alloc (Nat.le_refl _) o)
theorem RS.app (h : RS w m ds ls p v acc n t W) (ha : acc.length ≤ 5000) : ∃ v' w', (Builtin.append_ #[32, 32] 32 #[v, .slice (some ⟨W.heap.size, 0, none⟩) 1 1]).run Tryz.prog (W.alloc (.cells #[.int .i64 t.1, .int .i64 t.2] 27)) = .ok v' w' ∧ RS w m ds ls p v' (acc ++ [t]) n t w' := by
  have zp := h.bp.lt
  obtain ⟨v', w', r, O, D, _⟩ := app_el (w := W) uPls infoPl rfl (by omega) (by omega) 32 h.row (us := plC t) rfl (plC_one _) ha (by omega)
  refine ⟨v', w', r, ?_, ?_, ?_, ?_, ?_⟩
  · rw [List.flatMap_append, List.length_append]
    simpa using O
  · exact h.st.above (fun b hb => D.block b (by omega)) (Nat.le_trans h.st.le D.size)
  · exact ⟨D.os.trans h.hk.os, D.tape.trans h.hk.tape, D.output.trans h.hk.output, Nat.le_trans h.hk.size D.size, fun b hb h1 h2 h3 => (D.block b (by omega)).trans (h.hk.block b hb h1 h2 h3)⟩
  · exact (D.block _ (by omega)).trans h.bt
  · exact (D.block _ (by omega)).trans h.bp
theorem RS.handle (h : RS w m ds ls p v acc n t W) (hM : MemAt W' m ds ls n' noM) (hk : HK m W W') : RS w m ds ls p v acc n' t W' := by
  obtain ⟨l1, l2, l3, l4⟩ := h.st.lt
  have zp := h.bp.lt
  refine ⟨own_keptBut h.row (fun g hg => ?_), h.st.hk hM hk, h.hk.trans hk, ?_, ?_⟩
  · obtain ⟨q1, q2, _⟩ := own_block h.row hg
    exact hk.block g q1 (by omega) (by omega) (by omega)
  · exact (hk.block _ (by omega) (by omega) (by omega) (by omega)).trans h.bt
  · exact (hk.block _ (by omega) (by omega) (by omega) (by omega)).trans h.bp
theorem RS.setT (h : RS w m ds ls p v acc n t W) (t' : Plc) : RS w m ds ls p v acc n t' ((W.setCell ⟨w.heap.size, 0, none⟩ (.int .i64 t'.1)).setCell ⟨w.heap.size, 1, none⟩ (.int .i64 t'.2)) := by
  have hF : ∀ b, b ≠ w.heap.size → ((W.setCell ⟨w.heap.size, 0, none⟩ (.int .i64 t'.1)).setCell ⟨w.heap.size, 1, none⟩ (.int .i64 t'.2)).heap[b]? = W.heap[b]? := fun b hb => (Below.heap_setCell _ ⟨w.heap.size, 1, none⟩ _ b hb).trans (Below.heap_setCell W ⟨w.heap.size, 0, none⟩ _ b hb)
  have hs : ((W.setCell ⟨w.heap.size, 0, none⟩ (.int .i64 t'.1)).setCell ⟨w.heap.size, 1, none⟩ (.int .i64 t'.2)).heap.size = W.heap.size := by simp [World.setCell]
  refine ⟨own_keptBut h.row (fun g hg => hF g ?_), h.st.above (fun b hb => hF b (by omega)) (by rw [hs]; exact h.st.le), ⟨?_, ?_, ?_, by rw [hs]; exact h.hk.size, fun b hb h1 h2 h3 => (hF b (by omega)).trans (h.hk.block b hb h1 h2 h3)⟩, ?_, (hF _ (by omega)).trans h.bp⟩
  · have := (own_block h.row hg).2.1
    omega
  · exact h.hk.os
  · exact h.hk.tape
  · exact h.hk.output
  · have := (h.bt.setS (j := 0) (.int .i64 t'.1)).setS (j := 1) (.int .i64 t'.2)
    simpa using this
theorem RS.sl (h : RS w m ds ls p v acc n t W) : SlAt W.heap.size W 2 IsPlc v acc := SlAt.own h.row (fun k x hx => flatP_at acc k x hx)
end
/-- What ring.walk leaves. -/
def WkOut (w : World) (m : Mp) (ds : List Dv) (ls : List Lk) (n : Nat) (res : List Plc × Bool) (e : Ending) (w' : World) : Prop :=
  ∃ A c, e = .returned (.tuple #[.slice A res.1.length c, .bool res.2]) ∧ SlAt w'.heap.size w' 2 IsPlc (.slice A res.1.length c) res.1 ∧ (∀ a, A = some a → w.heap.size ≤ a.block ∧ a.block < w'.heap.size) ∧ MemAt w' m ds ls (n + 41) noM ∧ HK m w w'
theorem RS.fin {w W : World} {m : Mp} {ds : List Dv} {ls : List Lk} {p : Pk} {A : Option Addr} {c : Nat} {acc : List Plc} {n n0 : Nat} {t : Plc} {r : Bool} (h : RS w m ds ls p (.slice A acc.length c) acc n t W) (hn : n ≤ n0 + 41) : WkOut w m ds ls n0 (acc, r) (.returned (.tuple #[.slice A acc.length c, .bool r])) W := by
  obtain ⟨A', c', e, hA⟩ := own_sl h.row
  cases e
  refine ⟨A, c, rfl, h.sl, fun a ha => ?_, h.st.mem.mono hn, h.hk⟩
  obtain ⟨q1, q2, _⟩ := own_block h.row (hA a ha)
  exact ⟨by omega, q1⟩
def slLen : Value → Nat | .slice _ n _ => n | _ => 0
set_option maxHeartbeats 8000000 in
set_option maxRecDepth 100000 in
theorem rwalk_any (m : Mp) (ds : List Dv) (ls : List Lk) (n0 : Nat) (t0 : Plc) (p : Pk) (w : World) (hM : Hid (MemAt w m ds ls n0 noM)) (hn : n0 ≤ 1000) (hz : Hid (netV ds ls = 0)) (hk : Hid (PlainD ds)) (ht : Hid (isPl ds t0.1 t0.2 = true)) :
    Calls Tryz.prog 19 #[.pointer (some ⟨m.B, m.z, none⟩), plA t0.1 t0.2, pkV p] w (WkOut w m ds ls n0 (wayP ds ls p t0)) := by
  have R0 : RS w m ds ls p (.slice none 0 0) [] n0 t0 ((w.alloc (.cells #[.int .i64 t0.1, .int .i64 t0.2] 27)).alloc (.cells #[.int .i64 p.s, .int .i64 p.d, .int .i64 p.sp, .int .i64 p.dp] 29)) := by
    have D := Below.alN (Below.alN (Below.refl w.heap.size w) (.cells #[.int .i64 t0.1, .int .i64 t0.2] 27)) (.cells #[.int .i64 p.s, .int .i64 p.d, .int .i64 p.sp, .int .i64 p.dp] 29)
    exact ⟨World.ownsRow_nil _ _ _ _, (rst_of hM.out).above (fun b hb => D.block b hb) D.size, HK.of_below D, (bk_new w _ _).alloc _, bk_new' _ _ _ _ (by simp)⟩
  have HC : Hid (∀ {A : Option Addr} {c : Nat} {acc : List Plc} {n : Nat} {t : Plc} {W : World}, RS w m ds ls p (.slice A acc.length c) acc n t W → Calls Tryz.prog 21 #[.slice A acc.length c, .agg #[.int .i64 t.1, .int .i64 t.2]] W fun e w' => e = .returned (.bool (decide (t ∈ acc))) ∧ Below W.heap.size W w') := fun {A c acc n t W} h => contains_pl A c acc t _ W (Nat.le_refl _) h.sl
  have HH : Hid (∀ {v : Value} {acc : List Plc} {n : Nat} {t : Plc} {W : World}, RS w m ds ls p v acc n t W → n ≤ 2000 → Hid (isPl ds t.1 t.2 = true) → Calls Tryz.prog 31 #[.pointer (some ⟨m.B, m.z, none⟩), .agg #[.int .i64 t.1, .int .i64 t.2], .agg #[.int .i64 p.s, .int .i64 p.d, .int .i64 p.sp, .int .i64 p.dp], .int .i64 0] W fun e w' => ∃ (er : Int) (tx : Plc) (px : Pk), e = .returned (.tuple #[.agg #[.int .i64 tx.1, .int .i64 tx.2, .int .i64 px.s, .int .i64 px.d, .int .i64 px.sp, .int .i64 px.dp], .int .i64 er]) ∧ RS w m ds ls p v acc (n + 1) t w' ∧ Hid (nxF ds ls p t = if er = 0 then some tx else none)) := fun {v acc n t W} h hn ht => by
    refine (handle_any m ds ls n noM t.1 t.2 p 0 W h.st.mem (by unfold maxLen; omega) (addrs_of hz.out) (isPl_ok (netV_links hz.out).1 ht.out).1 (i64ok_of (by omega) (by omega))).mono fun e w' ⟨h1, h2, h3⟩ => ?_
    rw [handle_keeps hk.out] at h2
    exact ⟨_, _, _, h1, h.handle h2 h3, rfl⟩
  have HP : Hid (∀ {t t' : Plc}, nxF ds ls p t = some t' → isPl ds t'.1 t'.2 = true) := fun {t t'} h => nx_place hz.out h
  have I0 : Hid (WInv ds (nxF ds ls p) (wayP ds ls p t0) [] t0) := winv_start (netV_links hz.out).1 ht.out
  obtain ⟨res, hres⟩ : ∃ res, res = wayP ds ls p t0 := ⟨_, rfl⟩
  rw [← hres] at I0 ⊢
  obtain ⟨nx, hnx⟩ : ∃ nx, nx = nxF ds ls p := ⟨_, rfl⟩
  rw [← hnx] at I0 HH HP
  have KP : ∀ {v : Value} {acc : List Plc} {n : Nat} {t : Plc} {W W' : World}, Below W.heap.size W W' → RS w m ds ls p v acc n t W → RS w m ds ls p v acc n t W' := fun hb h => h.below hb
  clear hM hz hk ht hres hnx
  obtain ⟨s, d, sp, dp⟩ := p
  obtain ⟨i0, q0⟩ := t0
  dsimp only at *
  go_enter Tryz.func19, Tryz.ntmps19
  go_wp2_with fail
  go_loopw [8] (fun v wr => ∃ (A : Option Addr) (c : Nat) (acc : List Plc) (n : Nat) (t : Plc), v = .slice A acc.length c ∧ n ≤ n0 + acc.length ∧ RS w m ds ls ⟨s, d, sp, dp⟩ (.slice A acc.length c) acc n t wr ∧ Hid (WInv ds nx res acc t)) (fun v _ => 41 - slLen v)
  case atStart => exact ⟨none, 0, [], n0, (i0, q0), rfl, by simp, R0, I0⟩
  case round =>
    clear R0 I0
    obtain ⟨A, c, acc, n, ⟨i, q⟩, rfl, hle, R1, I1⟩ := hrel
    have hl40 := I1.out.len
    obtain ⟨t0, t1⟩ := R1.bt.two
    go_wp2_with fail
    with_reducible refine (HC.out R1).mono ?_
    rintro e w2 ⟨rfl, hb2⟩
    have R2 := KP hb2 R1
    clear hb2 R1 t0 t1
    by_cases hm : (i, q) ∈ acc
    · have hd : decide ((i, q) ∈ acc) = true := decide_eq_true hm
      have F2 : Hid (WkOut w m ds ls n0 res (.returned (.tuple #[.slice A acc.length c, .bool true])) w2) := by
        rw [I1.out.round hm]
        exact R2.fin (by omega)
      clear HH HP HC KP R2 I1 hm
      rw [hd]
      go_wp2_with fail
      go_ret2
      exact F2.out
    · have hd : decide ((i, q) ∈ acc) = false := decide_eq_false hm
      obtain ⟨v3, w3, r3, R3⟩ := R2.app (by omega)
      have hv3 : ∃ A3 c3, v3 = .slice A3 (acc ++ [(i, q)]).length c3 := by
        obtain ⟨A3, c3, e, _⟩ := own_sl R3.row
        exact ⟨A3, c3, e⟩
      obtain ⟨A3, c3, rfl⟩ := hv3
      have HM : Hid ((i, q) ∉ acc) := hm
      obtain ⟨t0, t1⟩ := R2.bt.two
      obtain ⟨t0', t1'⟩ := R3.bt.two
      obtain ⟨p0, p1, p2, p3, _⟩ := R3.bp.four
      rw [hd]
      clear hd hm
      dsimp only at *
      go_wp2_with (at_builtin; refine append_runC rfl _ _ 32 rfl rfl rfl r3 ?_)
      have TP : Hid (isPl ds (i, q).1 (i, q).2 = true) := I1.out.tp
      have hn2 : n ≤ 2000 := by omega
      with_reducible refine (HH.out R3 hn2 TP).mono ?_
      rintro e w4 ⟨er, ⟨xi, xq⟩, ⟨y0, y1, y2, y3⟩, rfl, R4, N4⟩
      dsimp only at *
      clear R2 R3 r3 t0 t1 t0' t1' p0 p1 p2 p3 HC
      by_cases he : er = 0
      · subst he
        have hnx : nx (i, q) = some (xi, xq) := by rw [N4.out, if_pos rfl]
        have I4 : Hid (WInv ds nx res (acc ++ [(i, q)]) (xi, xq)) := I1.out.next HM.out hnx (HP.out hnx)
        have R5 := R4.alloc (.cells #[.int .i64 xi, .int .i64 xq, .int .i64 y0, .int .i64 y1, .int .i64 y2, .int .i64 y3] 60)
        have R6 := R5.setT (xi, xq)
        have f0 := R5.bt.fz 0
        have f1 := R5.bt.fz 1
        obtain ⟨b0, b1⟩ := R5.bt.two
        have X5 := bk_new w4 #[.int .i64 xi, .int .i64 xq, .int .i64 y0, .int .i64 y1, .int .i64 y2, .int .i64 y3] 60
        have x0 := X5.at 0
        have x1 := X5.at 1
        clear N4 hnx HM I1 R4 R5 X5 HH HP
        dsimp only at *
        go_wp2_with fail
        go_roundw
        case rel => exact ⟨A3, c3, acc ++ [(i, q)], n + 1, (xi, xq), by simp, by simp; omega, R6, I4⟩
        case measure => simp [slLen]; omega
      · have hnx : nx (i, q) = none := by rw [N4.out, if_neg he]
        have hz1 : (er == 0) = false := by simpa using he
        have R5 := R4.alloc (.cells #[.int .i64 xi, .int .i64 xq, .int .i64 y0, .int .i64 y1, .int .i64 y2, .int .i64 y3] 60)
        have F2 : Hid (WkOut w m ds ls n0 res (.returned (.tuple #[.slice A3 (acc ++ [(i, q)]).length c3, .bool false])) (w4.alloc (.cells #[.int .i64 xi, .int .i64 xq, .int .i64 y0, .int .i64 y1, .int .i64 y2, .int .i64 y3] 60))) := by
          rw [I1.out.stop HM.out hnx]
          exact R5.fin (by simp; omega)
        have HNZ : Hid (¬ er = 0) := he
        rw [show (acc ++ [(i, q)]).length = acc.length + 1 by simp] at F2
        clear N4 hnx HM I1 R4 R5 HH HP he
        go_wp2_with fail
        all_goals first | exact absurd (by assumption) HNZ.out | skip
        all_goals
          go_ret2
          exact F2.out
end Go.Proofs.YthioedgnambomaaGreat
