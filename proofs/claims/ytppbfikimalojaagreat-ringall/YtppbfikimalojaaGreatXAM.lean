/-
  XAM.
-/
import Derived.Test.YtppbfikimalojaaGreatXAL
import Derived.Test.YtppbfikimalojaaGreatXLy
import Derived.Deep.CutBlock
import Derived.Deep.DeepCutAuto
import Derived.Test.YtppbfikimalojaaGreatXAD
import Derived.Deep.RegionLaw
set_option maxHeartbeats 8000000
set_option maxRecDepth 100000
namespace Go.Proofs.YtppbfikimalojaaGreat
open Go.RowKit Go.Maps
theorem sw_k5b {w w8 : World} {g b o : Nat} {L : Option Addr} {c d : Nat} {F : Option Addr} {cF : Nat} {ds : List Dv} {ls : List Lk} {FL : List Ft} {j : Nat} {q : Int} {p : Pk} {ch : Int} {dv : Dv} {Ab Ar At : Option Addr} {nb cb nr cr nt ct : Nat} {D Q : Nat} {G : Pk -> World -> Prop} {r : MR} (HR : Hid (mSend dv FL (j : Int) q p ch = r)) (HKK : Hid (dv.kind = 5)) (hq0 : q = 0) (hnb : nb <= maxLen) (FX : HFacts w g (some ⟨b, o, none⟩) L c d F cF ds ls FL (j : Int) q p ch dv 5 (.slice Ab nb cb) (.slice Ar nr cr) (.slice At nt ct) D Q G) (G8 : G p w8) (R : Ending -> World -> Prop) (hret : Hid (Rets w g (some ⟨b, o, none⟩) L c d F ds ls FL r (QZ R))) (c1 c2 c3 c4 c15 c16 c17 c18 c19 c20 c21 c22 c23 c24 c25 c26 c27 c28 c29 c30 c31 c32 c33 c34 c35 c36 c37 c38 c39 c40 c41 c42 c43 c44 c45 c46 c47 c48 c49 c50 c51 c52 c53 c54 c55 c56 c57 c58 c59 c60 c61 c62 c63 c64 c65 c66 c67 c68 c69 c70 c72 c73 c74 c75 c76 c77 c78 c79 c80 c81 c82 c83 c84 c85 c86 c87 c88 c89 c90 c91 c92 c93 c94 c95 c96 c97 c98 c99 c100 c101 c102 c103 c104 c105 c106 c107 c108 c109 c110 c111 c112 c113 c114 c115 c116 c117 c118 c119 c120 c121 c122 c123 c124 c125 c126 c127 c128 c129 c130 c131 c132 c133 c134 c135 c136 c137 c138 c139 c140 c141 c142 c143 c144 c145 c146 c147 c148 c149 c150 c151 c152 c153 c154 c155 c156 c157 c158 c159 c160 c161 c162 c163 c164 c165 c166 c167 c168 c169 c170 c171 c172 c173 c174 c175 c176 c177 c178 c179 c180 c181 c182 c183 c184 c185 c186 c187 c188 c189 c190 c191 c192 c193 c194 c195 c196 c197 c198 c199 c200 c201 c202 c203 c204 c205 c206 c207 c208 c209 c210 c211 c212 c213 c214 c215 c216 c217 c218 c219 c220 c221 c222 c223 c224 c225 c226 c227 c228 c229 c230 c231 c232 c233 c234 c235 c236 c237 c238 c239 c240 c241 c242 c243 c244 c245 c246 c247 c248 c249 c250 c251 c252 c253 c254 c255 c256 c257 c258 c259 c260 c261 c262 c263 c264 c265 c266 c267 c268 c269 c270 c271 c272 c273 c274 c275 c276 c277 c278 c279 c280 c281 c282 c283 c284 c285 c286 c287 c288 c289 c290 c291 c292 c293 c294 c295 c296 c297 c298 : Value) (J K' : Act -> World -> Prop) (h1 : ∀ a' w', SwR w g D Q 5 c1 c2 c3 c4 c21 c22 c23 c24 c25 c26 c27 c28 c29 c30 c31 c32 c33 c34 c35 c36 c37 c38 c39 c40 c41 c42 c43 c44 c45 c46 c47 c48 c49 c50 c51 c52 c53 c54 c55 c56 c57 c58 c59 c60 c61 c62 c63 c64 c65 c66 c67 c68 c69 c70 c252 c253 c254 c255 c256 c257 c258 c259 c260 c261 c262 c263 c264 c265 c266 c267 c268 c269 c270 c271 c272 c273 c274 c275 c276 c277 c278 c279 c280 c281 c282 c283 c284 c285 c286 c287 c288 c289 c290 c291 c292 c293 c294 c295 c296 c297 c298 (fun v11 v12 v14 wx => v11 = .bool r.out ∧ v12 = .int .i64 r.port ∧ KN r.k v14 wx ∧ G r.p wx ∧ r.err = 0) a' w' -> J a' w') (h2 : ∀ a' w', Met J a' w' -> K' a' w') : swCode.wp Tryz.prog (Exit.then K' (QZ R)) ⟨#[.pointer (some ⟨g, 0, none⟩), c1, c2, c3, c4, .pointer (some ⟨w.heap.size, 0, none⟩), .pointer (some ⟨w.heap.size + 1, 0, none⟩), .pointer (some ⟨w.heap.size + 1 + 1, 0, none⟩), .pointer (some ⟨w.heap.size + 1 + 1 + 1, 0, none⟩), .int .i64 0, .pointer (some ⟨D, 0, none⟩), .bool false, .int .i64 (1 - q), .pointer (some ⟨Q, 0, none⟩), .pointer none, c15, c16, c17, c18, c19, c20, c21, c22, c23, c24, c25, c26, c27, c28, c29, c30, c31, c32, c33, c34, c35, c36, c37, c38, c39, c40, c41, c42, c43, c44, c45, c46, c47, c48, c49, c50, c51, c52, c53, c54, c55, c56, c57, c58, c59, c60, c61, c62, c63, c64, c65, c66, c67, c68, c69, c70, .int .i64 5, c72, c73, c74, c75, c76, c77, c78, c79, c80, c81, c82, c83, c84, c85, c86, c87, c88, c89, c90, c91, c92, c93, c94, c95, c96, c97, c98, c99, c100, c101, c102, c103, c104, c105, c106, c107, c108, c109, c110, c111, c112, c113, c114, c115, c116, c117, c118, c119, c120, c121, c122, c123, c124, c125, c126, c127, c128, c129, c130, c131, c132, c133, c134, c135, c136, c137, c138, c139, c140, c141, c142, c143, c144, c145, c146, c147, c148, c149, c150, c151, c152, c153, c154, c155, c156, c157, c158, c159, c160, c161, c162, c163, c164, c165, c166, c167, c168, c169, c170, c171, c172, c173, c174, c175, c176, c177, c178, c179, c180, c181, c182, c183, c184, c185, c186, c187, c188, c189, c190, c191, c192, c193, c194, c195, c196, c197, c198, c199, c200, c201, c202, c203, c204, c205, c206, c207, c208, c209, c210, c211, c212, c213, c214, c215, c216, c217, c218, c219, c220, c221, c222, c223, c224, c225, c226, c227, c228, c229, c230, c231, c232, c233, c234, c235, c236, c237, c238, c239, c240, c241, c242, c243, c244, c245, c246, c247, c248, c249, c250, c251, c252, c253, c254, c255, c256, c257, c258, c259, c260, c261, c262, c263, c264, c265, c266, c267, c268, c269, c270, c271, c272, c273, c274, c275, c276, c277, c278, c279, c280, c281, c282, c283, c284, c285, c286, c287, c288, c289, c290, c291, c292, c293, c294, c295, c296, c297, c298], []⟩ w8 := by
 unfold SwR at h1
 conv => arg 2; whnf
 have d1 := (FX.cd G8).1
 have n2 : ¬ dv.kind = 2 := by rw [HKK.out]; decide
 have n3 : ¬ dv.kind = 3 := by rw [HKK.out]; decide
 have n4 : ¬ dv.kind = 4 := by rw [HKK.out]; decide
 subst hq0
 obtain ⟨a0, a1⟩ := FX.ca G8
 obtain ⟨p0, p1, p2, p3⟩ := FX.cp G8
 have d2 := (FX.cd G8).2.1
 cases hpa : (p.d == dv.addr)
 ·have hpn : ¬ p.d = dv.addr := by simpa using hpa
  have hpb : (p.d != dv.addr) = true := by simpa using hpn
  as_aux_lemma =>
   have hv : r = ⟨0, true, 1, p, none⟩ := by
    rw [<- HR.out]
    unfold mSend
    rw [if_neg n2, if_neg n3, if_neg n4, if_pos HKK.out, if_pos rfl, if_neg (by rw [hpa]; exact Bool.false_ne_true)]
   subst hv
   clear HR n2 n3 n4 hret hpn p0 p2 p3
   repeat (first | go_guarded | go_step)
   go_meet
   exact ⟨rfl, by simp, rfl, G8, rfl⟩
 have hpb : (p.d != dv.addr) = false := by simpa using hpa
 clear p0 p2 p3
 repeat (first | go_guarded | go_step)
 refine (FX.f6 G8).mono ?_
 rintro e w9 ⟨x, rfl, hx, hb9⟩
 dsimp only
 have G9 := FX.keep G8 hb9
 clear d1 d2 a0 a1 p1 hb9 G8
 rcases hx.out with ⟨rfl, hno⟩ | ⟨k, f, rfl, hk, hfd, jk⟩
 rotate_left
 ·clear jk
  as_aux_lemma =>
   have hv : r = ⟨0, true, 1, ⟨p.s, f.n, p.sp, p.dp⟩, some ⟨(j : Int), p, f.n⟩⟩ := by
    rw [<- HR.out]
    unfold mSend
    rw [if_neg n2, if_neg n3, if_neg n4, if_pos HKK.out, if_pos rfl, if_pos hpa, hfd]
   subst hv
   obtain ⟨fb, fo, hF, y1, y3, y5, uu1, uu2⟩ := FX.fact G9 hk
   have g2 := (FX.cg G9).2.2
   rw [hF] at g2
   clear HR n2 n3 n4 hx hk hfd hF y1 y3 hret hpa hpb
   have GC := FX.s1 G9 f.n
   have GA := FX.keep GC ((Below.refl (w9.setCell ⟨Q, 1, none⟩ (.int .i64 f.n)).heap.size (w9.setCell ⟨Q, 1, none⟩ (.int .i64 f.n))).alloc (Nat.le_refl _) (.cells #[.int .i64 (j : Int), .int .i64 p.s, .int .i64 p.d, .int .i64 p.sp, .int .i64 p.dp, .int .i64 f.n] 178))
   have KB := bk_new' (w9.setCell ⟨Q, 1, none⟩ (.int .i64 f.n)) #[.int .i64 (j : Int), .int .i64 p.s, .int .i64 p.d, .int .i64 p.sp, .int .i64 p.dp, .int .i64 f.n] 178 w9.heap.size (by simp [World.setCell])
   obtain ⟨q0, q1, q2, q3, z0, z1, z2, z3⟩ := FX.cq G9
   obtain ⟨aa0, aa1⟩ := FX.ca GC
   obtain ⟨pp0, pp1, pp2, pp3⟩ := FX.cp GC
   have qq1 := (FX.cq GC).2.1
   clear q0 q2 q3 z0 z2 z3 aa1
   go_upto_region 48 with fail
   go_step
   go_step
   go_step
   go_step
   go_step
   go_step
   go_step
   go_step
   go_step
   go_step
   go_step
   go_step
   go_step
   go_step
   go_step
   go_step
   go_step
   refine wp_build3 178 _ _ _ 0 1 2 (by rfl) _ _ _ _ (fact_build (j : Int) f.n p _) (by rfl) (by rfl) (by rfl) ?_
   repeat (first | go_guarded | go_step)
   go_meet
   exact ⟨rfl, by simp, ⟨_, rfl, KB⟩, GA, rfl⟩
 have hwb : IntKind.i64.wrap ((nb : Int) - 1) = (nb : Int) - 1 := IntWalk.i64_in _ (by unfold maxLen at hnb; omega)
 have d4 := (FX.cd G9).2.2.2.1
 have c0 := FX.cc G9
 obtain ⟨Ab', cb', hsl, hbk⟩ := FX.back G9
 obtain ⟨rfl, rfl, rfl⟩ := Value.slice.inj hsl
 clear hsl hx
 cases hin : (decide (0 <= ch) && decide (ch < (dv.backs.length : Int)))
 ·as_aux_lemma =>
   have hv : r = ⟨1, false, 0, p, none⟩ := by
    rw [<- HR.out]
    unfold mSend
    rw [if_neg n2, if_neg n3, if_neg n4, if_pos HKK.out, if_pos rfl, if_pos hpa, hno]
    show (if (decide (0 <= ch) && decide (ch < (dv.backs.length : Int))) = true then _ else _) = _
    rw [hin, if_neg Bool.false_ne_true]
   subst hv
   have IC : Hid (∀ W, Calls Tryz.prog 8 #[.int .i64 ch, .int .i64 0, .int .i64 ((dv.backs.length : Int) - 1)] W fun e w' => e = .returned (.bool false) ∧ w' = W) := fun W => by
    have := finR ch 0 ((dv.backs.length : Int) - 1) W
    rw [show (decide (0 <= ch) && decide (ch <= (dv.backs.length : Int) - 1)) = false by rw [<- hin]; congr 1; exact decide_eq_decide.2 (by omega)] at this
    exact this
   clear HR n2 n3 n4 hpa hpb hno hin
   repeat (first | go_guarded | go_step)
   refine (IC.out _).mono ?_
   rintro e w' ⟨rfl, hx⟩
   obtain rfl := hx.symm
   dsimp only
   clear IC hwb
   have R9 := FX.cr G9
   obtain ⟨⟨l0, l1, l2, l3, l4, l5⟩, ⟨f0, f1, f2, f3, f4, f5⟩⟩ := R9.six
   have hf : Hid (MOut w g (some ⟨b, o, none⟩) L c d F ds ls FL w9) := MOut.same (FX.mn G9) (FX.bl G9)
   have RQ : Hid (Bk _ _ _ _) := R9
   have hGG := FX.hb
   clear R9
   repeat (first | go_guarded | go_step)
   exact hret.out _ _ rfl rfl rfl (show (1 : Int) ≠ 0 by decide) (Bk.zero6 RQ.out) (MOut.set6 hf.out RQ.out hGG (by omega) (by decide))
 as_aux_lemma =>
  have hc12 := hin
  simp only [Bool.and_eq_true, decide_eq_true_eq] at hc12
  obtain ⟨hc1, hc2⟩ := hc12
  obtain ⟨n9, hn9⟩ : ∃ n9, dv.backs[ch.toNat]? = some n9 := ⟨_, List.getElem?_eq_getElem (by omega)⟩
  have hg9 : dv.backs.getD ch.toNat 0 = n9 := by rw [List.getD_eq_getElem?_getD, hn9]; rfl
  have hv : r = ⟨0, true, 1, ⟨p.s, n9, p.sp, p.dp⟩, some ⟨(j : Int), p, n9⟩⟩ := by
   rw [<- HR.out]
   unfold mSend
   rw [if_neg n2, if_neg n3, if_neg n4, if_pos HKK.out, if_pos rfl, if_pos hpa, hno]
   show (if (decide (0 <= ch) && decide (ch < (dv.backs.length : Int))) = true then _ else _) = _
   rw [hin, if_pos rfl, hg9]
  subst hv
  have IC : Hid (∀ W, Calls Tryz.prog 8 #[.int .i64 ch, .int .i64 0, .int .i64 ((dv.backs.length : Int) - 1)] W fun e w' => e = .returned (.bool true) ∧ w' = W) := fun W => by
   have := finR ch 0 ((dv.backs.length : Int) - 1) W
   rw [show (decide (0 <= ch) && decide (ch <= (dv.backs.length : Int) - 1)) = true by rw [<- hin]; congr 1; exact decide_eq_decide.2 (by omega)] at this
   exact this
  obtain ⟨bb, bo, rfl, hcell⟩ := hbk hn9
  obtain ⟨k, rfl⟩ : ∃ k : Nat, ch = (k : Int) := ⟨ch.toNat, by omega⟩
  rw [Int.toNat_natCast] at hcell
  clear HR n2 n3 n4 hpa hpb hno hn9 hbk hret hg9 hin
  repeat (first | go_guarded | go_step)
  refine (IC.out _).mono ?_
  rintro e w' ⟨rfl, hx⟩
  obtain rfl := hx.symm
  dsimp only
  clear IC hwb
  have GC := FX.s1 G9 n9
  have GA := FX.keep GC ((Below.refl (w9.setCell ⟨Q, 1, none⟩ (.int .i64 n9)).heap.size (w9.setCell ⟨Q, 1, none⟩ (.int .i64 n9))).alloc (Nat.le_refl _) (.cells #[.int .i64 (j : Int), .int .i64 p.s, .int .i64 p.d, .int .i64 p.sp, .int .i64 p.dp, .int .i64 n9] 178))
  have KB := bk_new' (w9.setCell ⟨Q, 1, none⟩ (.int .i64 n9)) #[.int .i64 (j : Int), .int .i64 p.s, .int .i64 p.d, .int .i64 p.sp, .int .i64 p.dp, .int .i64 n9] 178 w9.heap.size (by simp [World.setCell])
  obtain ⟨q0, q1, q2, q3, z0, z1, z2, z3⟩ := FX.cq G9
  obtain ⟨aa0, aa1⟩ := FX.ca GC
  obtain ⟨pp0, pp1, pp2, pp3⟩ := FX.cp GC
  have qq1 := (FX.cq GC).2.1
  clear q0 q2 q3 z0 z2 z3 aa1
  go_upto_region 48 with fail
  go_step
  go_step
  go_step
  go_step
  go_step
  go_step
  go_step
  go_step
  go_step
  go_step
  go_step
  go_step
  go_step
  go_step
  go_step
  go_step
  go_step
  refine wp_build3 178 _ _ _ 0 1 2 (by rfl) _ _ _ _ (fact_build (j : Int) n9 p _) (by rfl) (by rfl) (by rfl) ?_
  repeat (first | go_guarded | go_step)
  go_meet
  exact ⟨rfl, by simp, ⟨_, rfl, KB⟩, GA, rfl⟩
theorem step_slice1 {P : Program} {w : World} {ops : Array Oper} {o : Oper} {a : Act} {K : Act -> World -> Prop} {Q : Exit -> Act -> World -> Prop} {E : Prop} (hgd : o.guard = none) (x : Operand) (t : TypeId) (ho : o.op = .buildSlice t 1 #[(0, x)]) (v : Value) (hx : a.eval x = v) (v' : Value) (w' : World) (hr : (Instr.buildSlice t 1 #[(0, v)]).run P w = .ok v' w') (h : K (a.put o.dst v') w') :
  if Region.wanted o (yielded ops a.tmps) = true then Oper.wp P o a w K Q else E := by
 have hw : Region.wanted o (yielded ops a.tmps) = true := by simp [Region.wanted, hgd]
 rw [if_pos hw]
 unfold Oper.wp execOp
 simp only [ho, List.map_toArray, List.map_cons, List.map_nil, hx, Sem.run_bind, hr, Result.andThen_ok]
 exact h
theorem fact_slice (f : Ft) (w : World) : (Instr.buildSlice 124 1 #[(0, .agg #[.int .i64 f.i, .int .i64 f.p.s, .int .i64 f.p.d, .int .i64 f.p.sp, .int .i64 f.p.dp, .int .i64 f.n])]).run Tryz.prog w = .ok (.slice (some ⟨w.heap.size, 0, none⟩) 1 1) (w.alloc (.cells #[.int .i64 f.i, .int .i64 f.p.s, .int .i64 f.p.d, .int .i64 f.p.sp, .int .i64 f.p.dp, .int .i64 f.n] 178)) := by
 go_simp
theorem MOut.drewN {w W : World} {g : Nat} {A L : Option Addr} {c d : Nat} {F : Option Addr} {ds : List Dv} {ls : List Lk} {FL : List Ft} (h : MOut w g A L c d F ds ls FL W) (n : Nat) : MOut w g A L c d F ds ls FL (W.drewN n) := by
 obtain ⟨F', cF', h1, h2, h3⟩ := h
 have hb : Below W.heap.size W (W.drewN n) := belowNN (Below.refl _ _) n
 exact ⟨F', cF', h1.drewN n, ⟨hb.os.trans h2.os, hb.tape.trans h2.tape, hb.output.trans h2.output, Nat.le_trans h2.size hb.size, fun b q1 q2 q3 => (hb.block b (Nat.lt_of_lt_of_le q1 h2.size)).trans (h2.block b q1 q2 q3)⟩, h3⟩
theorem Bk.more {W w7 : World} {g : Nat} {A L : Option Addr} {c d : Nat} {F : Option Addr} {cF : Nat} {ds : List Dv} {ls : List Lk} {FL : List Ft} {k : Nat} {cs : Array Value} {t : TypeId} {v7 : Value} (h : MnAt W g A L c d F cF ds ls FL) (hB : Bk W k cs t) (ht : t ≠ 178) (hm : t ≠ 126) (K7 : KeptB W w7 (Value.slice F FL.length cF).ownBlock) : Bk (w7.setCell ⟨g, 2, none⟩ v7) k cs t := by
 have hk : k ≠ g := fun e => by
  have hg := h.blk
  rw [<- e] at hg
  unfold Bk at hg hB
  rw [hB] at hg
  simp only [Option.some.injEq, Obj.cells.injEq] at hg
  exact hm hg.2.1
 refine (Below.heap_setCell w7 ⟨g, 2, none⟩ v7 k hk).trans ((K7.block k hB.lt (fun e => ?_)).trans hB)
 obtain ⟨_, _, cur, h2⟩ := own_block h.facts e.symm
 unfold Bk at hB
 rw [hB] at h2
 simp only [Option.some.injEq, Obj.cells.injEq] at h2
 exact ht h2.2.1
def plOf : Option (Int × Int) -> Int × Int
 | none => (0, 0)
 | some t => t
theorem placeV_of (x : Option (Int × Int)) : placeV x = .agg #[.int .i64 (plOf x).1, .int .i64 (plOf x).2] := by cases x <;> rfl
theorem re_any {w w8 : World} {g b o : Nat} {L : Option Addr} {c d : Nat} {F : Option Addr} {cF : Nat} {ds : List Dv} {ls : List Lk} {FL : List Ft} {j : Nat} {q : Int} {p : Pk} {ch : Int} {dv : Dv} {Ab Ar At : Option Addr} {nb cb nr cr nt ct : Nat} {D Q : Nat} {G : Pk -> World -> Prop} {r : MR} {kd : Int} {v14 : Value} (FX : HFacts w g (some ⟨b, o, none⟩) L c d F cF ds ls FL (j : Int) q p ch dv kd (.slice Ab nb cb) (.slice Ar nr cr) (.slice At nt ct) D Q G) (G8 : G r.p w8) (K8 : KN r.k v14 w8) (hfl : FL.length <= 5000) (R : Ending -> World -> Prop) (hbad : Hid (∀ (a : Act) (W : World), a.defers = [] -> a.eval (.tmp 8) = .pointer (some ⟨w.heap.size + 1 + 1 + 1, 0, none⟩) -> a.eval (.tmp 9) = .int .i64 7 -> (r.out = false ∨ peerF ls (j : Int) r.port = none) -> Bk W (w.heap.size + 1 + 1 + 1) #[.int .i64 0, .int .i64 0, .int .i64 0, .int .i64 0, .int .i64 0, .int .i64 0] 128 -> MOut w g (some ⟨b, o, none⟩) L c d F ds ls FL W -> QZ R .ret a W)) (hok : Hid (∀ (a : Act) (W : World) (t : Int × Int), r.out = true -> peerF ls (j : Int) r.port = some t -> a.defers = [] -> a.eval (.tmp 8) = .pointer (some ⟨w.heap.size + 1 + 1 + 1, 0, none⟩) -> a.eval (.tmp 9) = .int .i64 0 -> Bk W (w.heap.size + 1 + 1 + 1) #[.int .i64 t.1, .int .i64 t.2, .int .i64 r.p.s, .int .i64 r.p.d, .int .i64 r.p.sp, .int .i64 r.p.dp] 128 -> MOut w g (some ⟨b, o, none⟩) L c d F ds ls (addF FL r.k) W -> QZ R .ret a W)) (c1 c2 c3 c4 c15 c16 c17 c18 c19 c20 c21 c22 c23 c24 c25 c26 c27 c28 c29 c30 c31 c32 c33 c34 c35 c36 c37 c38 c39 c40 c41 c42 c43 c44 c45 c46 c47 c48 c49 c50 c51 c52 c53 c54 c55 c56 c57 c58 c59 c60 c61 c62 c63 c64 c65 c66 c67 c68 c69 c70 c71 c72 c73 c74 c75 c76 c77 c78 c79 c80 c81 c82 c83 c84 c85 c86 c87 c88 c89 c90 c91 c92 c93 c94 c95 c96 c97 c98 c99 c100 c101 c102 c103 c104 c105 c106 c107 c108 c109 c110 c111 c112 c113 c114 c115 c116 c117 c118 c119 c120 c121 c122 c123 c124 c125 c126 c127 c128 c129 c130 c131 c132 c133 c134 c135 c136 c137 c138 c139 c140 c141 c142 c143 c144 c145 c146 c147 c148 c149 c150 c151 c152 c153 c154 c155 c156 c157 c158 c159 c160 c161 c162 c163 c164 c165 c166 c167 c168 c169 c170 c171 c172 c173 c174 c175 c176 c177 c178 c179 c180 c181 c182 c183 c184 c185 c186 c187 c188 c189 c190 c191 c192 c193 c194 c195 c196 c197 c198 c199 c200 c201 c202 c203 c204 c205 c206 c207 c208 c209 c210 c211 c212 c213 c214 c215 c216 c217 c218 c219 c220 c221 c222 c223 c224 c225 c226 c227 c228 c229 c230 c231 c232 c233 c234 c235 c236 c237 c238 c239 c240 c241 c242 c243 c244 c245 c246 c247 c248 c249 c250 c251 c252 c253 c254 c255 c256 c257 c258 c259 c260 c261 c262 c263 c264 c265 c266 c267 c268 c269 c270 c271 c272 c273 c274 c275 c276 c277 c278 c279 c280 c281 c282 c283 c284 c285 c286 c287 c288 c289 c290 c291 c292 c293 c294 c295 c296 c297 c298 : Value) : reCode.wp Tryz.prog (QZ R) ⟨#[.pointer (some ⟨g, 0, none⟩), c1, c2, c3, c4, .pointer (some ⟨w.heap.size, 0, none⟩), .pointer (some ⟨w.heap.size + 1, 0, none⟩), .pointer (some ⟨w.heap.size + 1 + 1, 0, none⟩), .pointer (some ⟨w.heap.size + 1 + 1 + 1, 0, none⟩), .int .i64 0, .pointer (some ⟨D, 0, none⟩), .bool r.out, .int .i64 r.port, .pointer (some ⟨Q, 0, none⟩), v14, c15, c16, c17, c18, c19, c20, c21, c22, c23, c24, c25, c26, c27, c28, c29, c30, c31, c32, c33, c34, c35, c36, c37, c38, c39, c40, c41, c42, c43, c44, c45, c46, c47, c48, c49, c50, c51, c52, c53, c54, c55, c56, c57, c58, c59, c60, c61, c62, c63, c64, c65, c66, c67, c68, c69, c70, c71, c72, c73, c74, c75, c76, c77, c78, c79, c80, c81, c82, c83, c84, c85, c86, c87, c88, c89, c90, c91, c92, c93, c94, c95, c96, c97, c98, c99, c100, c101, c102, c103, c104, c105, c106, c107, c108, c109, c110, c111, c112, c113, c114, c115, c116, c117, c118, c119, c120, c121, c122, c123, c124, c125, c126, c127, c128, c129, c130, c131, c132, c133, c134, c135, c136, c137, c138, c139, c140, c141, c142, c143, c144, c145, c146, c147, c148, c149, c150, c151, c152, c153, c154, c155, c156, c157, c158, c159, c160, c161, c162, c163, c164, c165, c166, c167, c168, c169, c170, c171, c172, c173, c174, c175, c176, c177, c178, c179, c180, c181, c182, c183, c184, c185, c186, c187, c188, c189, c190, c191, c192, c193, c194, c195, c196, c197, c198, c199, c200, c201, c202, c203, c204, c205, c206, c207, c208, c209, c210, c211, c212, c213, c214, c215, c216, c217, c218, c219, c220, c221, c222, c223, c224, c225, c226, c227, c228, c229, c230, c231, c232, c233, c234, c235, c236, c237, c238, c239, c240, c241, c242, c243, c244, c245, c246, c247, c248, c249, c250, c251, c252, c253, c254, c255, c256, c257, c258, c259, c260, c261, c262, c263, c264, c265, c266, c267, c268, c269, c270, c271, c272, c273, c274, c275, c276, c277, c278, c279, c280, c281, c282, c283, c284, c285, c286, c287, c288, c289, c290, c291, c292, c293, c294, c295, c296, c297, c298], []⟩ w8 := by
 conv => arg 2; whnf
 dsimp only
 have GD : G r.p w8.drew := FX.keep G8 (Below.refl _ _).drew
 have GW := GD
 have KW : KN r.k v14 w8.drew := K8.keep (Below.refl _ _).drew
 go_upto_region 49 with fail
 go_cut [21, 22] from 252 to 263 (fun v21 v22 wx => ∃ P, v21 = .pointer (some ⟨P, 0, none⟩) ∧ Bk wx P #[.int .i64 (plOf (peerF ls (j : Int) r.port)).1, .int .i64 (plOf (peerF ls (j : Int) r.port)).2] 27 ∧ v22 = .bool (peerF ls (j : Int) r.port).isSome ∧ KN r.k v14 wx ∧ G r.p wx)
 case first =>
  refine wp_region_held_drew (S := fun w' => w'.cell? ⟨g, 0, none⟩ = some (.slice (some ⟨b, o, none⟩) ds.length c) ∧ w'.cell? ⟨g, 1, none⟩ = some (.slice L ls.length d) ∧ w'.cell? ⟨w.heap.size, 0, none⟩ = some (.int .i64 (j : Int))) (by kernel_rfl) ⟨(FX.cg GW).1, (FX.cg GW).2.1, (FX.ca GW).1⟩ (fun hHeld => ?_)
  refine tk 0 ?_; try simp only [ly]
  refine tk 1 ?_; try simp only [ly]
  refine tk 2 ?_; try simp only [ly]
  refine tk 3 ?_; try simp only [ly]
  refine tk 4 ?_; try simp only [ly]
  refine tk 5 ?_; try simp only [ly]
  refine tk 6 ?_; try simp only [ly]
  refine' wpAnyH_take (i := 7) (v := _) rfl (by kernel_rfl) (by kernel_rfl) (by kernel_rfl) (fun _ _ _ h => h) (yields_build2 (by rfl) 27 _ _ 0 1 (by rfl) _ _ _ (fun w => pl_build2 (j : Int) r.port w) (by rfl) (by rfl)) (by assumption) ?gr22
  try simp only [ly]
  refine wpAnyH_ready (rs := [8, 12]) (by kernel_rfl) (by simp) (AllReadyH.cons rfl (fun K hK => ?_) ?_)
  ·as_aux_lemma =>
    go_simp
    refine (FX.peer GD r.port).mono ?_
    rintro e w9 ⟨rfl, hb9⟩
    rw [placeV_of]
    dsimp only
    have G9 := FX.keep GD hb9
    try go_wp2_with fail
    clear hHeld
    refine hK.out _ _ (⟨(FX.cg G9).1, (FX.cg G9).2.1, (FX.ca G9).1⟩) (fun hHeld => ?_)
    clear hK K
    try simp only [ly]
    refine tk 9 ?_; try simp only [ly]
    refine tk 10 ?_; try simp only [ly]
    refine tk 11 ?_; try simp only [ly]
    have GA := FX.keep G9 ((Below.refl w9.heap.size w9).alloc (Nat.le_refl _) (.cells #[.int .i64 0, .int .i64 0] 27))
    refine rd 12 (fun K hK => ?_)
    go_simp
    skip
    try go_wp2_with fail
    clear hHeld
    refine hK.out _ _ (⟨(FX.cg GA).1, (FX.cg GA).2.1, (FX.ca GA).1⟩) (fun hHeld => ?_)
    clear hK K
    try simp only [ly]
    have GA' := FX.keep G9 ((Below.refl w9.heap.size w9).alloc (Nat.le_refl _) (.cells #[.int .i64 (plOf (peerF ls (j : Int) r.port)).1, .int .i64 (plOf (peerF ls (j : Int) r.port)).2] 27))
    refine rd 13 (fun K hK => ?_)
    go_simp
    skip
    try go_wp2_with fail
    clear hHeld
    refine hK.out _ _ (⟨(FX.cg GA').1, (FX.cg GA').2.1, (FX.ca GA').1⟩) (fun hHeld => ?_)
    clear hK K
    try simp only [ly]
    refine tk 14 ?_; try simp only [ly]
    refine wpAnyH_done (by kernel_rfl) ?_ _
    repeat (first | go_guarded | go_step)
    go_meet
    exact ⟨_, rfl, bk_new w9 _ _, rfl, (KW.keep hb9).keep ((Below.refl w9.heap.size w9).alloc (Nat.le_refl _) _), GA'⟩
  refine AllReadyH.cons rfl (fun K hK => ?_) AllReadyH.nil
  as_aux_lemma =>
   have GZ := FX.keep GD ((Below.refl w8.drew.heap.size w8.drew).alloc (Nat.le_refl _) (.cells #[.int .i64 0, .int .i64 0] 27))
   have BZ := bk_new' w8.drew #[.int .i64 0, .int .i64 0] 27 w8.heap.size rfl
   have KZ := KW.keep ((Below.refl w8.drew.heap.size w8.drew).alloc (Nat.le_refl _) (.cells #[.int .i64 0, .int .i64 0] 27))
   go_simp
   skip
   try go_wp2_with fail
   clear hHeld
   refine hK.out _ _ (⟨(FX.cg GZ).1, (FX.cg GZ).2.1, (FX.ca GZ).1⟩) (fun hHeld => ?_)
   clear hK K
   try simp only [ly]
   refine rd 8 (fun K hK => ?_)
   go_simp
   refine (FX.peer GZ r.port).mono ?_
   rintro e w9 ⟨rfl, hb9⟩
   rw [placeV_of]
   dsimp only
   have G9 := FX.keep GZ hb9
   try go_wp2_with fail
   clear hHeld
   refine hK.out _ _ (⟨(FX.cg G9).1, (FX.cg G9).2.1, (FX.ca G9).1⟩) (fun hHeld => ?_)
   clear hK K
   try simp only [ly]
   refine tk 9 ?_; try simp only [ly]
   refine tk 10 ?_; try simp only [ly]
   refine tk 11 ?_; try simp only [ly]
   have B9 := BZ.keep hb9
   have hbb : Below w8.drew.heap.size w8.drew w9 := ((Below.refl w8.drew.heap.size w8.drew).alloc (Nat.le_refl _) (.cells #[.int .i64 0, .int .i64 0] 27)).trans (hb9.mono (by simp))
   have hbs := (hbb.setCell (p := ⟨w8.heap.size, 0, none⟩) (Nat.le_refl _) (.int .i64 (plOf (peerF ls (j : Int) r.port)).1)).setCell (p := ⟨w8.heap.size, 1, none⟩) (Nat.le_refl _) (.int .i64 (plOf (peerF ls (j : Int) r.port)).2)
   have GS := FX.keep GD hbs
   have KS := KW.keep hbs
   have BS := (B9.setS (j := 0) (.int .i64 (plOf (peerF ls (j : Int) r.port)).1)).setS (j := 1) (.int .i64 (plOf (peerF ls (j : Int) r.port)).2)
   obtain ⟨x0, x1⟩ := B9.two
   have x2 := B9.fz 0
   have x3 := B9.fz 1
   refine rd 13 (fun K hK => ?_)
   go_simp
   skip
   try go_wp2_with fail
   clear hHeld
   refine hK.out _ _ (⟨(FX.cg GS).1, (FX.cg GS).2.1, (FX.ca GS).1⟩) (fun hHeld => ?_)
   clear hK K
   try simp only [ly]
   refine tk 14 ?_; try simp only [ly]
   refine wpAnyH_done (by kernel_rfl) ?_ _
   repeat (first | go_guarded | go_step)
   go_meet
   exact ⟨_, rfl, BS, rfl, KS, GS⟩
 case rest =>
  obtain ⟨P, rfl, BP, rfl, KX, GX⟩ := hcut
  clear GD GW KW K8 G8
  cases ho : r.out
  ·as_aux_lemma =>
    have R9 := FX.cr GX
    obtain ⟨⟨l0, l1, l2, l3, l4, l5⟩, ⟨f0, f1, f2, f3, f4, f5⟩⟩ := R9.six
    have hf : Hid (MOut w g (some ⟨b, o, none⟩) L c d F ds ls FL wc) := MOut.same (FX.mn GX) (FX.bl GX)
    have RQ : Hid (Bk _ _ _ _) := R9
    have hGG := FX.hb
    clear R9 BP GX KX
    repeat (first | go_guarded | go_step)
    exact hbad.out _ _ rfl rfl rfl (Or.inl ho) (Bk.zero6 RQ.out) (MOut.set6 hf.out RQ.out hGG (by omega) (by decide))
  cases hpe : peerF ls (j : Int) r.port
  ·as_aux_lemma =>
    have R9 := FX.cr GX
    obtain ⟨⟨l0, l1, l2, l3, l4, l5⟩, ⟨f0, f1, f2, f3, f4, f5⟩⟩ := R9.six
    have hf : Hid (MOut w g (some ⟨b, o, none⟩) L c d F ds ls FL wc) := MOut.same (FX.mn GX) (FX.bl GX)
    have RQ : Hid (Bk _ _ _ _) := R9
    have hGG := FX.hb
    clear R9 BP GX KX
    repeat (first | go_guarded | go_step)
    exact hbad.out _ _ rfl rfl rfl (Or.inr hpe) (Bk.zero6 RQ.out) (MOut.set6 hf.out RQ.out hGG (by omega) (by decide))
  rename_i t
  have BPt : Bk wc P #[.int .i64 t.1, .int .i64 t.2] 27 := by rw [hpe] at BP; exact BP
  clear BP hbad
  cases hk : r.k
  ·have hv14 : v14 = .pointer none := by rw [hk] at KX; exact KX
   subst hv14
   as_aux_lemma =>
    have BQt := FX.bq GX
    have BRt := FX.cr GX
    have hMM : Hid (∀ n, MOut w g (some ⟨b, o, none⟩) L c d F ds ls (addF FL r.k) (wc.drewN n)) := fun n => by
     rw [show addF FL r.k = FL by rw [hk]; rfl]
     exact MOut.same ((FX.mn GX).drewN n) (belowNN (FX.bl GX) n)
    repeat (first | go_guarded | go_step)
    go_quiet (fail)
    obtain ⟨t0, t1⟩ := BPt.two
    obtain ⟨q0, q1, q2, q3, q9⟩ := BQt.four
    clear q9
    obtain ⟨⟨l0, l1, l2, l3, l4, l5⟩, ⟨f0, f1, f2, f3, f4, f5⟩⟩ := BRt.six
    have hGG := FX.hb
    have RQ : Hid (∀ n, Bk (World.drewN wc n) _ _ _) := fun n => BRt.drewN n
    clear BPt BQt BRt
    go_upto_region 54 with fail
    go_step
    go_step
    go_step
    go_step
    go_step
    go_step
    go_step
    go_step
    refine wp_build2 128 _ _ 0 1 (by rfl) _ _ _ (arrival_build _ _ r.p _) (by rfl) (by rfl) ?_
    repeat (first | go_guarded | go_step)
    exact hok.out _ _ t ho hpe rfl rfl rfl (((((((RQ.out _).setS _).setS _).setS _).setS _).setS _).setS _) (MOut.set6 (hMM.out _) (RQ.out _) hGG (by omega) (by decide))
  rename_i f
  obtain ⟨K, hv14, BK⟩ : ∃ K, v14 = .pointer (some ⟨K, 0, none⟩) ∧ Bk wc K #[.int .i64 f.i, .int .i64 f.p.s, .int .i64 f.p.d, .int .i64 f.p.sp, .int .i64 f.p.dp, .int .i64 f.n] 178 := by rw [hk] at KX; exact KX
  subst hv14
  have GY : G r.p wc.drew := FX.keep GX (Below.refl _ _).drew
  have BKd : Bk wc.drew K #[.int .i64 f.i, .int .i64 f.p.s, .int .i64 f.p.d, .int .i64 f.p.sp, .int .i64 f.p.dp, .int .i64 f.n] 178 := BK
  have BPd : Bk wc.drew P #[.int .i64 t.1, .int .i64 t.2] 27 := BPt
  have c2 := (FX.cg GY).2.2
  obtain ⟨⟨k0, k1, k2, k3, k4, k5⟩, kx⟩ := BKd.six
  clear kx KX
  repeat (first | go_guarded | go_step)
  go_cut [283] from 271 to 283 (fun v283 wx => v283 = .bool (!FL.any (fun x => ftB x f)) ∧ G r.p wx ∧ Bk wx K #[.int .i64 f.i, .int .i64 f.p.s, .int .i64 f.p.d, .int .i64 f.p.sp, .int .i64 f.p.dp, .int .i64 f.n] 178 ∧ Bk wx P #[.int .i64 t.1, .int .i64 t.2] 27)
  case first =>
   go_region_held3 (fun w' => w'.cell? ⟨g, 2, none⟩ = some (.slice F FL.length cF) ∧ w'.cell? ⟨K, 0, none⟩ = some (.int .i64 f.i) ∧ w'.cell? ⟨K, 1, none⟩ = some (.int .i64 f.p.s) ∧ w'.cell? ⟨K, 2, none⟩ = some (.int .i64 f.p.d) ∧ w'.cell? ⟨K, 3, none⟩ = some (.int .i64 f.p.sp) ∧ w'.cell? ⟨K, 4, none⟩ = some (.int .i64 f.p.dp) ∧ w'.cell? ⟨K, 5, none⟩ = some (.int .i64 f.n)) (go_keep) ((go_at_call 103; refine (FX.cont GY f).mono ?_; rintro e w10 ⟨rfl, hb10⟩; have G10 := FX.keep GY hb10; have BK10 := BKd.keep hb10; have BP10 := BPd.keep hb10; have c2' := (FX.cg G10).2.2; obtain ⟨⟨k0', k1', k2', k3', k4', k5'⟩, kx'⟩ := BK10.six))
   repeat (first | go_guarded | go_step)
   go_meet
   exact ⟨rfl, G10, BK10, BP10⟩
  case rest =>
   clear GY BKd BPd c2 k0 k1 k2 k3 k4 k5 GX BK BPt
   obtain ⟨rfl, GX, BK, BPt⟩ := hcut
   cases hany : FL.any (fun x => ftB x f)
   rotate_left
   ·as_aux_lemma =>
     have BQt := FX.bq GX
     have BRt := FX.cr GX
     have hMM : Hid (∀ n, MOut w g (some ⟨b, o, none⟩) L c d F ds ls (addF FL r.k) (wc.drewN n)) := fun n => by
      rw [show addF FL r.k = FL by rw [hk]; exact if_pos hany]
      exact MOut.same ((FX.mn GX).drewN n) (belowNN (FX.bl GX) n)
     obtain ⟨t0, t1⟩ := BPt.two
     obtain ⟨q0, q1, q2, q3, q9⟩ := BQt.four
     clear q9
     obtain ⟨⟨l0, l1, l2, l3, l4, l5⟩, ⟨f0, f1, f2, f3, f4, f5⟩⟩ := BRt.six
     have hGG := FX.hb
     have RQ : Hid (∀ n, Bk (World.drewN wc n) _ _ _) := fun n => BRt.drewN n
     clear BPt BQt BRt
     go_upto_region 54 with fail
     go_step
     go_step
     go_step
     go_step
     go_step
     go_step
     go_step
     go_step
     refine wp_build2 128 _ _ 0 1 (by rfl) _ _ _ (arrival_build _ _ r.p _) (by rfl) (by rfl) ?_
     repeat (first | go_guarded | go_step)
     exact hok.out _ _ t ho hpe rfl rfl rfl (((((((RQ.out 0).setS _).setS _).setS _).setS _).setS _).setS _) (MOut.set6 (hMM.out 0) (RQ.out 0) hGG (by omega) (by decide))
   as_aux_lemma =>
    have M3 := FX.mn (FX.keep GX (Below.refl wc.heap.size wc).drew)
    have hgl := M3.blk.lt
    obtain ⟨v7, w7, r7, O7, D7, K7, g7⟩ := app_el (w := wc.drew) uFts infoFt rfl (by omega) (by omega) 124 M3.facts (us := ftC f) rfl (ftC_one f) hfl (by omega)
    have r7' : (Builtin.append_ #[124, 124] 124 #[.slice F FL.length cF, .slice (some ⟨wc.heap.size, 0, none⟩) 1 1]).run Tryz.prog (wc.alloc (.cells #[.int .i64 f.i, .int .i64 f.p.s, .int .i64 f.p.d, .int .i64 f.p.sp, .int .i64 f.p.dp, .int .i64 f.n] 178)).drew = .ok v7 w7 := r7
    have hM7 := mout_more M3 (FX.bl (FX.keep GX (Below.refl wc.heap.size wc).drew)) O7 D7 K7 g7
    have BPt' := Bk.more M3 (show Bk wc.drew _ _ _ from BPt) (by decide) (by decide) K7 (v7 := v7)
    have BQt' := Bk.more M3 (FX.bq (FX.keep GX (Below.refl wc.heap.size wc).drew)) (by decide) (by decide) K7 (v7 := v7)
    have BRt' := Bk.more M3 (FX.cr (FX.keep GX (Below.refl wc.heap.size wc).drew)) (by decide) (by decide) K7 (v7 := v7)
    have hMM : Hid (∀ n, MOut w g (some ⟨b, o, none⟩) L c d F ds ls (addF FL r.k) ((w7.setCell ⟨g, 2, none⟩ v7).drewN n)) := fun n => by
     rw [show addF FL r.k = FL ++ [f] by rw [hk]; exact if_neg (by rw [hany]; exact Bool.false_ne_true)]
     exact hM7.drewN n
    have cg2 := (FX.cg GX).2.2
    have cg3 := (FX.cg (FX.keep GX ((Below.refl wc.heap.size wc).alloc (Nat.le_refl _) (.cells #[.int .i64 f.i, .int .i64 f.p.s, .int .i64 f.p.d, .int .i64 f.p.sp, .int .i64 f.p.dp, .int .i64 f.n] 178)))).2.2
    obtain ⟨⟨k0, k1, k2, k3, k4, k5⟩, kx⟩ := BK.six
    have B7 := D7.block g (by omega)
    have BG7 : Bk w7 g _ _ := B7.trans M3.blk
    have d7 := BG7.at 2
    have f7 := BG7.fz 2
    obtain ⟨A7, q7, hv7, xx7⟩ := own_sl O7
    subst hv7
    clear kx xx7 M3 r7 O7 D7 K7 g7 hM7 B7 BG7 GX BK BPt
    repeat (first | go_guarded | go_step)
    go_cut [283] from 284 to 295 (fun v283 wx => wx = w7.setCell ⟨g, 2, none⟩ (.slice A7 _ q7))
    case first =>
     refine wp_region_any (by kernel_rfl) ?_
     change wpAny _ _ _ _ _ _ _ (World.drew _)
     refine' wpAny_take (i := 0) (v := _) rfl (by kernel_rfl) (by kernel_rfl) (by kernel_rfl) (fun _ _ _ h => h) (Or.inl ⟨by rfl, ?gy31⟩) ?gr31
     case gy31 => (intro w; go_simp; (try with_reducible rfl))
     try simp only [ly]
     refine' wpAny_take (i := 1) (v := _) rfl (by kernel_rfl) (by kernel_rfl) (by kernel_rfl) (fun _ _ _ h => h) (Or.inl ⟨by rfl, ?gy32⟩) ?gr32
     case gy32 => (intro w; go_simp; (try with_reducible rfl))
     try simp only [ly]
     refine' wpAny_take (i := 2) (v := _) rfl (by kernel_rfl) (by kernel_rfl) (by kernel_rfl) (fun _ _ _ h => h) (Or.inl ⟨by rfl, ?gy33⟩) ?gr33
     case gy33 => (intro w; go_simp; (try with_reducible rfl))
     try simp only [ly]
     refine' wpAny_take (i := 3) (v := _) rfl (by kernel_rfl) (by kernel_rfl) (by kernel_rfl) (fun _ _ _ h => h) (Or.inl ⟨by rfl, ?gy34⟩) ?gr34
     case gy34 => (intro w; go_simp; (try with_reducible rfl))
     try simp only [ly]
     refine' wpAny_take (i := 5) (v := _) rfl (by kernel_rfl) (by kernel_rfl) (by kernel_rfl) (fun _ _ _ h => h) (Or.inl ⟨by rfl, ?gy35⟩) ?gr35
     case gy35 => (intro w; go_simp; (try with_reducible rfl))
     try simp only [ly]
     refine' wpAny_take (i := 6) (v := _) rfl (by kernel_rfl) (by kernel_rfl) (by kernel_rfl) (fun _ _ _ h => h) (Or.inl ⟨by rfl, ?gy36⟩) ?gr36
     case gy36 => (intro w; go_simp; (try with_reducible rfl))
     try simp only [ly]
     refine wpAny_ready (rs := [4, 7]) (by kernel_rfl) (by simp) ?_
     refine AllReady.cons rfl (fun K0 hK => ?_) ?_
     ·go_simp
      refine hK _ _ ?_
      clear hK K0
      try simp only [ly]
      refine wpAny_ready (rs := [7]) (by kernel_rfl) (by simp) ?_
      refine AllReady.cons rfl (fun K0 hK => ?_) AllReady.nil
      go_simp
      refine hK _ _ ?_
      clear hK K0
      try simp only [ly]
      refine wpAny_ready (rs := [8]) (by kernel_rfl) (by simp) ?_
      refine AllReady.cons rfl (fun K0 hK => ?_) AllReady.nil
      refine step_slice1 (by rfl) _ _ (by rfl) _ (by rfl) _ _ (fact_slice f _) ?_
      refine hK _ _ ?_
      clear hK K0
      try simp only [ly]
      refine wpAny_ready (rs := [9]) (by kernel_rfl) (by simp) ?_
      refine AllReady.cons rfl (fun K0 hK => ?_) AllReady.nil
      refine step_append_run (by rfl) _ _ 124 (by rfl) _ _ _ w7 (by rfl) (by rfl) r7' ?_
      refine hK _ _ ?_
      clear hK K0
      try simp only [ly]
      refine' wpAny_take (i := 10) (v := _) rfl (by kernel_rfl) (by kernel_rfl) (by kernel_rfl) (fun _ _ _ h => h) (Or.inl ⟨by rfl, ?gy37⟩) ?gr37
      case gy37 => (intro w; go_simp; (try with_reducible rfl))
      try simp only [ly]
      refine' wpAny_take (i := 11) (v := _) rfl (by kernel_rfl) (by kernel_rfl) (by kernel_rfl) (fun _ _ _ h => h) (Or.inl ⟨by rfl, ?gy38⟩) ?gr38
      case gy38 => (intro w; go_simp; (try with_reducible rfl))
      try simp only [ly]
      refine wpAny_ready (rs := [12]) (by kernel_rfl) (by simp) ?_
      refine AllReady.cons rfl (fun K0 hK => ?_) AllReady.nil
      go_simp
      refine hK _ _ ?_
      clear hK K0
      try simp only [ly]
      refine wpAny_done (by kernel_rfl) ?_ _
      repeat (first | go_guarded | go_step)
      go_meet
      rfl
     refine AllReady.cons rfl (fun K0 hK => ?_) AllReady.nil
     go_simp
     refine hK _ _ ?_
     clear hK K0
     try simp only [ly]
     refine wpAny_ready (rs := [4, 8]) (by kernel_rfl) (by simp) ?_
     refine AllReady.cons rfl (fun K0 hK => ?_) ?_
     ·go_simp
      refine hK _ _ ?_
      clear hK K0
      try simp only [ly]
      refine wpAny_ready (rs := [8]) (by kernel_rfl) (by simp) ?_
      refine AllReady.cons rfl (fun K0 hK => ?_) AllReady.nil
      refine step_slice1 (by rfl) _ _ (by rfl) _ (by rfl) _ _ (fact_slice f _) ?_
      refine hK _ _ ?_
      clear hK K0
      try simp only [ly]
      refine wpAny_ready (rs := [9]) (by kernel_rfl) (by simp) ?_
      refine AllReady.cons rfl (fun K0 hK => ?_) AllReady.nil
      refine step_append_run (by rfl) _ _ 124 (by rfl) _ _ _ w7 (by rfl) (by rfl) r7' ?_
      refine hK _ _ ?_
      clear hK K0
      try simp only [ly]
      refine' wpAny_take (i := 10) (v := _) rfl (by kernel_rfl) (by kernel_rfl) (by kernel_rfl) (fun _ _ _ h => h) (Or.inl ⟨by rfl, ?gy39⟩) ?gr39
      case gy39 => (intro w; go_simp; (try with_reducible rfl))
      try simp only [ly]
      refine' wpAny_take (i := 11) (v := _) rfl (by kernel_rfl) (by kernel_rfl) (by kernel_rfl) (fun _ _ _ h => h) (Or.inl ⟨by rfl, ?gy40⟩) ?gr40
      case gy40 => (intro w; go_simp; (try with_reducible rfl))
      try simp only [ly]
      refine wpAny_ready (rs := [12]) (by kernel_rfl) (by simp) ?_
      refine AllReady.cons rfl (fun K0 hK => ?_) AllReady.nil
      go_simp
      refine hK _ _ ?_
      clear hK K0
      try simp only [ly]
      refine wpAny_done (by kernel_rfl) ?_ _
      repeat (first | go_guarded | go_step)
      go_meet
      rfl
     refine AllReady.cons rfl (fun K0 hK => ?_) AllReady.nil
     refine step_slice1 (by rfl) _ _ (by rfl) _ (by rfl) _ _ (fact_slice f _) ?_
     refine hK _ _ ?_
     clear hK K0
     try simp only [ly]
     refine wpAny_ready (rs := [4]) (by kernel_rfl) (by simp) ?_
     refine AllReady.cons rfl (fun K0 hK => ?_) AllReady.nil
     go_simp
     refine hK _ _ ?_
     clear hK K0
     try simp only [ly]
     refine wpAny_ready (rs := [9]) (by kernel_rfl) (by simp) ?_
     refine AllReady.cons rfl (fun K0 hK => ?_) AllReady.nil
     refine step_append_run (by rfl) _ _ 124 (by rfl) _ _ _ w7 (by rfl) (by rfl) r7' ?_
     refine hK _ _ ?_
     clear hK K0
     try simp only [ly]
     refine' wpAny_take (i := 10) (v := _) rfl (by kernel_rfl) (by kernel_rfl) (by kernel_rfl) (fun _ _ _ h => h) (Or.inl ⟨by rfl, ?gy41⟩) ?gr41
     case gy41 => (intro w; go_simp; (try with_reducible rfl))
     try simp only [ly]
     refine' wpAny_take (i := 11) (v := _) rfl (by kernel_rfl) (by kernel_rfl) (by kernel_rfl) (fun _ _ _ h => h) (Or.inl ⟨by rfl, ?gy42⟩) ?gr42
     case gy42 => (intro w; go_simp; (try with_reducible rfl))
     try simp only [ly]
     refine wpAny_ready (rs := [12]) (by kernel_rfl) (by simp) ?_
     refine AllReady.cons rfl (fun K0 hK => ?_) AllReady.nil
     go_simp
     refine hK _ _ ?_
     clear hK K0
     try simp only [ly]
     refine wpAny_done (by kernel_rfl) ?_ _
     repeat (first | go_guarded | go_step)
     go_meet
     rfl
    case rest =>
     subst hcut
     obtain ⟨t0, t1⟩ := BPt'.two
     obtain ⟨q0, q1, q2, q3, q9⟩ := BQt'.four
     clear q9
     obtain ⟨⟨l0, l1, l2, l3, l4, l5⟩, ⟨f0, f1, f2, f3, f4, f5⟩⟩ := BRt'.six
     have hGG := FX.hb
     have RQ : Hid (∀ n, Bk (World.drewN (w7.setCell ⟨g, 2, none⟩ (.slice A7 _ q7)) n) _ _ _) := fun n => BRt'.drewN n
     clear BPt' BQt' BRt'
     go_upto_region 54 with fail
     go_step
     go_step
     go_step
     go_step
     go_step
     go_step
     go_step
     go_step
     refine wp_build2 128 _ _ 0 1 (by rfl) _ _ _ (arrival_build _ _ r.p _) (by rfl) (by rfl) ?_
     repeat (first | go_guarded | go_step)
     exact hok.out _ _ t ho hpe rfl rfl rfl (((((((RQ.out 0).setS _).setS _).setS _).setS _).setS _).setS _) (MOut.set6 (hMM.out 0) (RQ.out 0) hGG (by omega) (by decide))
theorem sw_all {w w8 : World} {g b o : Nat} {L : Option Addr} {c d : Nat} {F : Option Addr} {cF : Nat} {ds : List Dv} {ls : List Lk} {FL : List Ft} {j : Nat} {q : Int} {p : Pk} {ch : Int} {dv : Dv} {Ab Ar At : Option Addr} {nb cb nr cr nt ct : Nat} {D Q : Nat} {G : Pk -> World -> Prop} {r : MR} {kd : Int} {C : Code} (hC : C = swCode) (HR : Hid (mSend dv FL (j : Int) q p ch = r)) (HKK : Hid (dv.kind = kd)) (hq4 : 0 <= q) (hq5 : kd ≠ 2 -> q < 2) (FX : HFacts w g (some ⟨b, o, none⟩) L c d F cF ds ls FL (j : Int) q p ch dv kd (.slice Ab nb cb) (.slice Ar nr cr) (.slice At nt ct) D Q G) (G8 : G p w8) (hnb : nb <= maxLen) (R : Ending -> World -> Prop) (hret : Hid (Rets w g (some ⟨b, o, none⟩) L c d F ds ls FL r (QZ R))) (c1 c2 c3 c4 c15 c16 c17 c18 c19 c20 c21 c22 c23 c24 c25 c26 c27 c28 c29 c30 c31 c32 c33 c34 c35 c36 c37 c38 c39 c40 c41 c42 c43 c44 c45 c46 c47 c48 c49 c50 c51 c52 c53 c54 c55 c56 c57 c58 c59 c60 c61 c62 c63 c64 c65 c66 c67 c68 c69 c70 c72 c73 c74 c75 c76 c77 c78 c79 c80 c81 c82 c83 c84 c85 c86 c87 c88 c89 c90 c91 c92 c93 c94 c95 c96 c97 c98 c99 c100 c101 c102 c103 c104 c105 c106 c107 c108 c109 c110 c111 c112 c113 c114 c115 c116 c117 c118 c119 c120 c121 c122 c123 c124 c125 c126 c127 c128 c129 c130 c131 c132 c133 c134 c135 c136 c137 c138 c139 c140 c141 c142 c143 c144 c145 c146 c147 c148 c149 c150 c151 c152 c153 c154 c155 c156 c157 c158 c159 c160 c161 c162 c163 c164 c165 c166 c167 c168 c169 c170 c171 c172 c173 c174 c175 c176 c177 c178 c179 c180 c181 c182 c183 c184 c185 c186 c187 c188 c189 c190 c191 c192 c193 c194 c195 c196 c197 c198 c199 c200 c201 c202 c203 c204 c205 c206 c207 c208 c209 c210 c211 c212 c213 c214 c215 c216 c217 c218 c219 c220 c221 c222 c223 c224 c225 c226 c227 c228 c229 c230 c231 c232 c233 c234 c235 c236 c237 c238 c239 c240 c241 c242 c243 c244 c245 c246 c247 c248 c249 c250 c251 c252 c253 c254 c255 c256 c257 c258 c259 c260 c261 c262 c263 c264 c265 c266 c267 c268 c269 c270 c271 c272 c273 c274 c275 c276 c277 c278 c279 c280 c281 c282 c283 c284 c285 c286 c287 c288 c289 c290 c291 c292 c293 c294 c295 c296 c297 c298 : Value) (K' : Act -> World -> Prop) (hrest : ∀ a' w', SwR w g D Q kd c1 c2 c3 c4 c21 c22 c23 c24 c25 c26 c27 c28 c29 c30 c31 c32 c33 c34 c35 c36 c37 c38 c39 c40 c41 c42 c43 c44 c45 c46 c47 c48 c49 c50 c51 c52 c53 c54 c55 c56 c57 c58 c59 c60 c61 c62 c63 c64 c65 c66 c67 c68 c69 c70 c252 c253 c254 c255 c256 c257 c258 c259 c260 c261 c262 c263 c264 c265 c266 c267 c268 c269 c270 c271 c272 c273 c274 c275 c276 c277 c278 c279 c280 c281 c282 c283 c284 c285 c286 c287 c288 c289 c290 c291 c292 c293 c294 c295 c296 c297 c298 (fun v11 v12 v14 wx => v11 = .bool r.out ∧ v12 = .int .i64 r.port ∧ KN r.k v14 wx ∧ G r.p wx ∧ r.err = 0) a' w' -> K' a' w') : C.wp Tryz.prog (Exit.then K' (QZ R)) ⟨#[.pointer (some ⟨g, 0, none⟩), c1, c2, c3, c4, .pointer (some ⟨w.heap.size, 0, none⟩), .pointer (some ⟨w.heap.size + 1, 0, none⟩), .pointer (some ⟨w.heap.size + 1 + 1, 0, none⟩), .pointer (some ⟨w.heap.size + 1 + 1 + 1, 0, none⟩), .int .i64 0, .pointer (some ⟨D, 0, none⟩), .bool false, .int .i64 (1 - q), .pointer (some ⟨Q, 0, none⟩), .pointer none, c15, c16, c17, c18, c19, c20, c21, c22, c23, c24, c25, c26, c27, c28, c29, c30, c31, c32, c33, c34, c35, c36, c37, c38, c39, c40, c41, c42, c43, c44, c45, c46, c47, c48, c49, c50, c51, c52, c53, c54, c55, c56, c57, c58, c59, c60, c61, c62, c63, c64, c65, c66, c67, c68, c69, c70, .int .i64 kd, c72, c73, c74, c75, c76, c77, c78, c79, c80, c81, c82, c83, c84, c85, c86, c87, c88, c89, c90, c91, c92, c93, c94, c95, c96, c97, c98, c99, c100, c101, c102, c103, c104, c105, c106, c107, c108, c109, c110, c111, c112, c113, c114, c115, c116, c117, c118, c119, c120, c121, c122, c123, c124, c125, c126, c127, c128, c129, c130, c131, c132, c133, c134, c135, c136, c137, c138, c139, c140, c141, c142, c143, c144, c145, c146, c147, c148, c149, c150, c151, c152, c153, c154, c155, c156, c157, c158, c159, c160, c161, c162, c163, c164, c165, c166, c167, c168, c169, c170, c171, c172, c173, c174, c175, c176, c177, c178, c179, c180, c181, c182, c183, c184, c185, c186, c187, c188, c189, c190, c191, c192, c193, c194, c195, c196, c197, c198, c199, c200, c201, c202, c203, c204, c205, c206, c207, c208, c209, c210, c211, c212, c213, c214, c215, c216, c217, c218, c219, c220, c221, c222, c223, c224, c225, c226, c227, c228, c229, c230, c231, c232, c233, c234, c235, c236, c237, c238, c239, c240, c241, c242, c243, c244, c245, c246, c247, c248, c249, c250, c251, c252, c253, c254, c255, c256, c257, c258, c259, c260, c261, c262, c263, c264, c265, c266, c267, c268, c269, c270, c271, c272, c273, c274, c275, c276, c277, c278, c279, c280, c281, c282, c283, c284, c285, c286, c287, c288, c289, c290, c291, c292, c293, c294, c295, c296, c297, c298], []⟩ w8 := by
 subst hC
 refine wp_cut (SwR w g D Q kd c1 c2 c3 c4 c21 c22 c23 c24 c25 c26 c27 c28 c29 c30 c31 c32 c33 c34 c35 c36 c37 c38 c39 c40 c41 c42 c43 c44 c45 c46 c47 c48 c49 c50 c51 c52 c53 c54 c55 c56 c57 c58 c59 c60 c61 c62 c63 c64 c65 c66 c67 c68 c69 c70 c252 c253 c254 c255 c256 c257 c258 c259 c260 c261 c262 c263 c264 c265 c266 c267 c268 c269 c270 c271 c272 c273 c274 c275 c276 c277 c278 c279 c280 c281 c282 c283 c284 c285 c286 c287 c288 c289 c290 c291 c292 c293 c294 c295 c296 c297 c298 (fun v11 v12 v14 wx => v11 = .bool r.out ∧ v12 = .int .i64 r.port ∧ KN r.k v14 wx ∧ G r.p wx ∧ r.err = 0)) hrest (fun J K' h1 h2 => ?_)
 by_cases k2 : kd = 2
 ·subst k2
  exact sw_k2 HR HKK FX G8 R hret c1 c2 c3 c4 c15 c16 c17 c18 c19 c20 c21 c22 c23 c24 c25 c26 c27 c28 c29 c30 c31 c32 c33 c34 c35 c36 c37 c38 c39 c40 c41 c42 c43 c44 c45 c46 c47 c48 c49 c50 c51 c52 c53 c54 c55 c56 c57 c58 c59 c60 c61 c62 c63 c64 c65 c66 c67 c68 c69 c70 c72 c73 c74 c75 c76 c77 c78 c79 c80 c81 c82 c83 c84 c85 c86 c87 c88 c89 c90 c91 c92 c93 c94 c95 c96 c97 c98 c99 c100 c101 c102 c103 c104 c105 c106 c107 c108 c109 c110 c111 c112 c113 c114 c115 c116 c117 c118 c119 c120 c121 c122 c123 c124 c125 c126 c127 c128 c129 c130 c131 c132 c133 c134 c135 c136 c137 c138 c139 c140 c141 c142 c143 c144 c145 c146 c147 c148 c149 c150 c151 c152 c153 c154 c155 c156 c157 c158 c159 c160 c161 c162 c163 c164 c165 c166 c167 c168 c169 c170 c171 c172 c173 c174 c175 c176 c177 c178 c179 c180 c181 c182 c183 c184 c185 c186 c187 c188 c189 c190 c191 c192 c193 c194 c195 c196 c197 c198 c199 c200 c201 c202 c203 c204 c205 c206 c207 c208 c209 c210 c211 c212 c213 c214 c215 c216 c217 c218 c219 c220 c221 c222 c223 c224 c225 c226 c227 c228 c229 c230 c231 c232 c233 c234 c235 c236 c237 c238 c239 c240 c241 c242 c243 c244 c245 c246 c247 c248 c249 c250 c251 c252 c253 c254 c255 c256 c257 c258 c259 c260 c261 c262 c263 c264 c265 c266 c267 c268 c269 c270 c271 c272 c273 c274 c275 c276 c277 c278 c279 c280 c281 c282 c283 c284 c285 c286 c287 c288 c289 c290 c291 c292 c293 c294 c295 c296 c297 c298 J K' h1 h2
 have hq := hq5 k2
 by_cases k3 : kd = 3
 ·subst k3
  exact sw_k3 HR HKK hq4 hq FX G8 R hret c1 c2 c3 c4 c15 c16 c17 c18 c19 c20 c21 c22 c23 c24 c25 c26 c27 c28 c29 c30 c31 c32 c33 c34 c35 c36 c37 c38 c39 c40 c41 c42 c43 c44 c45 c46 c47 c48 c49 c50 c51 c52 c53 c54 c55 c56 c57 c58 c59 c60 c61 c62 c63 c64 c65 c66 c67 c68 c69 c70 c72 c73 c74 c75 c76 c77 c78 c79 c80 c81 c82 c83 c84 c85 c86 c87 c88 c89 c90 c91 c92 c93 c94 c95 c96 c97 c98 c99 c100 c101 c102 c103 c104 c105 c106 c107 c108 c109 c110 c111 c112 c113 c114 c115 c116 c117 c118 c119 c120 c121 c122 c123 c124 c125 c126 c127 c128 c129 c130 c131 c132 c133 c134 c135 c136 c137 c138 c139 c140 c141 c142 c143 c144 c145 c146 c147 c148 c149 c150 c151 c152 c153 c154 c155 c156 c157 c158 c159 c160 c161 c162 c163 c164 c165 c166 c167 c168 c169 c170 c171 c172 c173 c174 c175 c176 c177 c178 c179 c180 c181 c182 c183 c184 c185 c186 c187 c188 c189 c190 c191 c192 c193 c194 c195 c196 c197 c198 c199 c200 c201 c202 c203 c204 c205 c206 c207 c208 c209 c210 c211 c212 c213 c214 c215 c216 c217 c218 c219 c220 c221 c222 c223 c224 c225 c226 c227 c228 c229 c230 c231 c232 c233 c234 c235 c236 c237 c238 c239 c240 c241 c242 c243 c244 c245 c246 c247 c248 c249 c250 c251 c252 c253 c254 c255 c256 c257 c258 c259 c260 c261 c262 c263 c264 c265 c266 c267 c268 c269 c270 c271 c272 c273 c274 c275 c276 c277 c278 c279 c280 c281 c282 c283 c284 c285 c286 c287 c288 c289 c290 c291 c292 c293 c294 c295 c296 c297 c298 J K' h1 h2
 by_cases k4 : kd = 4
 ·subst k4
  by_cases hq0 : q = 0
  ·exact sw_k4b HR HKK hq0 FX G8 R hret c1 c2 c3 c4 c15 c16 c17 c18 c19 c20 c21 c22 c23 c24 c25 c26 c27 c28 c29 c30 c31 c32 c33 c34 c35 c36 c37 c38 c39 c40 c41 c42 c43 c44 c45 c46 c47 c48 c49 c50 c51 c52 c53 c54 c55 c56 c57 c58 c59 c60 c61 c62 c63 c64 c65 c66 c67 c68 c69 c70 c72 c73 c74 c75 c76 c77 c78 c79 c80 c81 c82 c83 c84 c85 c86 c87 c88 c89 c90 c91 c92 c93 c94 c95 c96 c97 c98 c99 c100 c101 c102 c103 c104 c105 c106 c107 c108 c109 c110 c111 c112 c113 c114 c115 c116 c117 c118 c119 c120 c121 c122 c123 c124 c125 c126 c127 c128 c129 c130 c131 c132 c133 c134 c135 c136 c137 c138 c139 c140 c141 c142 c143 c144 c145 c146 c147 c148 c149 c150 c151 c152 c153 c154 c155 c156 c157 c158 c159 c160 c161 c162 c163 c164 c165 c166 c167 c168 c169 c170 c171 c172 c173 c174 c175 c176 c177 c178 c179 c180 c181 c182 c183 c184 c185 c186 c187 c188 c189 c190 c191 c192 c193 c194 c195 c196 c197 c198 c199 c200 c201 c202 c203 c204 c205 c206 c207 c208 c209 c210 c211 c212 c213 c214 c215 c216 c217 c218 c219 c220 c221 c222 c223 c224 c225 c226 c227 c228 c229 c230 c231 c232 c233 c234 c235 c236 c237 c238 c239 c240 c241 c242 c243 c244 c245 c246 c247 c248 c249 c250 c251 c252 c253 c254 c255 c256 c257 c258 c259 c260 c261 c262 c263 c264 c265 c266 c267 c268 c269 c270 c271 c272 c273 c274 c275 c276 c277 c278 c279 c280 c281 c282 c283 c284 c285 c286 c287 c288 c289 c290 c291 c292 c293 c294 c295 c296 c297 c298 J K' h1 h2
  ·exact sw_k4a HR HKK hq4 hq hq0 FX G8 R hret c1 c2 c3 c4 c15 c16 c17 c18 c19 c20 c21 c22 c23 c24 c25 c26 c27 c28 c29 c30 c31 c32 c33 c34 c35 c36 c37 c38 c39 c40 c41 c42 c43 c44 c45 c46 c47 c48 c49 c50 c51 c52 c53 c54 c55 c56 c57 c58 c59 c60 c61 c62 c63 c64 c65 c66 c67 c68 c69 c70 c72 c73 c74 c75 c76 c77 c78 c79 c80 c81 c82 c83 c84 c85 c86 c87 c88 c89 c90 c91 c92 c93 c94 c95 c96 c97 c98 c99 c100 c101 c102 c103 c104 c105 c106 c107 c108 c109 c110 c111 c112 c113 c114 c115 c116 c117 c118 c119 c120 c121 c122 c123 c124 c125 c126 c127 c128 c129 c130 c131 c132 c133 c134 c135 c136 c137 c138 c139 c140 c141 c142 c143 c144 c145 c146 c147 c148 c149 c150 c151 c152 c153 c154 c155 c156 c157 c158 c159 c160 c161 c162 c163 c164 c165 c166 c167 c168 c169 c170 c171 c172 c173 c174 c175 c176 c177 c178 c179 c180 c181 c182 c183 c184 c185 c186 c187 c188 c189 c190 c191 c192 c193 c194 c195 c196 c197 c198 c199 c200 c201 c202 c203 c204 c205 c206 c207 c208 c209 c210 c211 c212 c213 c214 c215 c216 c217 c218 c219 c220 c221 c222 c223 c224 c225 c226 c227 c228 c229 c230 c231 c232 c233 c234 c235 c236 c237 c238 c239 c240 c241 c242 c243 c244 c245 c246 c247 c248 c249 c250 c251 c252 c253 c254 c255 c256 c257 c258 c259 c260 c261 c262 c263 c264 c265 c266 c267 c268 c269 c270 c271 c272 c273 c274 c275 c276 c277 c278 c279 c280 c281 c282 c283 c284 c285 c286 c287 c288 c289 c290 c291 c292 c293 c294 c295 c296 c297 c298 J K' h1 h2
 by_cases k5 : kd = 5
 ·subst k5
  by_cases hq0 : q = 0
  ·exact sw_k5b HR HKK hq0 hnb FX G8 R hret c1 c2 c3 c4 c15 c16 c17 c18 c19 c20 c21 c22 c23 c24 c25 c26 c27 c28 c29 c30 c31 c32 c33 c34 c35 c36 c37 c38 c39 c40 c41 c42 c43 c44 c45 c46 c47 c48 c49 c50 c51 c52 c53 c54 c55 c56 c57 c58 c59 c60 c61 c62 c63 c64 c65 c66 c67 c68 c69 c70 c72 c73 c74 c75 c76 c77 c78 c79 c80 c81 c82 c83 c84 c85 c86 c87 c88 c89 c90 c91 c92 c93 c94 c95 c96 c97 c98 c99 c100 c101 c102 c103 c104 c105 c106 c107 c108 c109 c110 c111 c112 c113 c114 c115 c116 c117 c118 c119 c120 c121 c122 c123 c124 c125 c126 c127 c128 c129 c130 c131 c132 c133 c134 c135 c136 c137 c138 c139 c140 c141 c142 c143 c144 c145 c146 c147 c148 c149 c150 c151 c152 c153 c154 c155 c156 c157 c158 c159 c160 c161 c162 c163 c164 c165 c166 c167 c168 c169 c170 c171 c172 c173 c174 c175 c176 c177 c178 c179 c180 c181 c182 c183 c184 c185 c186 c187 c188 c189 c190 c191 c192 c193 c194 c195 c196 c197 c198 c199 c200 c201 c202 c203 c204 c205 c206 c207 c208 c209 c210 c211 c212 c213 c214 c215 c216 c217 c218 c219 c220 c221 c222 c223 c224 c225 c226 c227 c228 c229 c230 c231 c232 c233 c234 c235 c236 c237 c238 c239 c240 c241 c242 c243 c244 c245 c246 c247 c248 c249 c250 c251 c252 c253 c254 c255 c256 c257 c258 c259 c260 c261 c262 c263 c264 c265 c266 c267 c268 c269 c270 c271 c272 c273 c274 c275 c276 c277 c278 c279 c280 c281 c282 c283 c284 c285 c286 c287 c288 c289 c290 c291 c292 c293 c294 c295 c296 c297 c298 J K' h1 h2
  ·exact sw_k5a HR HKK hq4 hq hq0 FX G8 R c1 c2 c3 c4 c15 c16 c17 c18 c19 c20 c21 c22 c23 c24 c25 c26 c27 c28 c29 c30 c31 c32 c33 c34 c35 c36 c37 c38 c39 c40 c41 c42 c43 c44 c45 c46 c47 c48 c49 c50 c51 c52 c53 c54 c55 c56 c57 c58 c59 c60 c61 c62 c63 c64 c65 c66 c67 c68 c69 c70 c72 c73 c74 c75 c76 c77 c78 c79 c80 c81 c82 c83 c84 c85 c86 c87 c88 c89 c90 c91 c92 c93 c94 c95 c96 c97 c98 c99 c100 c101 c102 c103 c104 c105 c106 c107 c108 c109 c110 c111 c112 c113 c114 c115 c116 c117 c118 c119 c120 c121 c122 c123 c124 c125 c126 c127 c128 c129 c130 c131 c132 c133 c134 c135 c136 c137 c138 c139 c140 c141 c142 c143 c144 c145 c146 c147 c148 c149 c150 c151 c152 c153 c154 c155 c156 c157 c158 c159 c160 c161 c162 c163 c164 c165 c166 c167 c168 c169 c170 c171 c172 c173 c174 c175 c176 c177 c178 c179 c180 c181 c182 c183 c184 c185 c186 c187 c188 c189 c190 c191 c192 c193 c194 c195 c196 c197 c198 c199 c200 c201 c202 c203 c204 c205 c206 c207 c208 c209 c210 c211 c212 c213 c214 c215 c216 c217 c218 c219 c220 c221 c222 c223 c224 c225 c226 c227 c228 c229 c230 c231 c232 c233 c234 c235 c236 c237 c238 c239 c240 c241 c242 c243 c244 c245 c246 c247 c248 c249 c250 c251 c252 c253 c254 c255 c256 c257 c258 c259 c260 c261 c262 c263 c264 c265 c266 c267 c268 c269 c270 c271 c272 c273 c274 c275 c276 c277 c278 c279 c280 c281 c282 c283 c284 c285 c286 c287 c288 c289 c290 c291 c292 c293 c294 c295 c296 c297 c298 J K' h1 h2
 exact sw_kx HR HKK k2 k3 k4 k5 FX G8 R hret c1 c2 c3 c4 c15 c16 c17 c18 c19 c20 c21 c22 c23 c24 c25 c26 c27 c28 c29 c30 c31 c32 c33 c34 c35 c36 c37 c38 c39 c40 c41 c42 c43 c44 c45 c46 c47 c48 c49 c50 c51 c52 c53 c54 c55 c56 c57 c58 c59 c60 c61 c62 c63 c64 c65 c66 c67 c68 c69 c70 c72 c73 c74 c75 c76 c77 c78 c79 c80 c81 c82 c83 c84 c85 c86 c87 c88 c89 c90 c91 c92 c93 c94 c95 c96 c97 c98 c99 c100 c101 c102 c103 c104 c105 c106 c107 c108 c109 c110 c111 c112 c113 c114 c115 c116 c117 c118 c119 c120 c121 c122 c123 c124 c125 c126 c127 c128 c129 c130 c131 c132 c133 c134 c135 c136 c137 c138 c139 c140 c141 c142 c143 c144 c145 c146 c147 c148 c149 c150 c151 c152 c153 c154 c155 c156 c157 c158 c159 c160 c161 c162 c163 c164 c165 c166 c167 c168 c169 c170 c171 c172 c173 c174 c175 c176 c177 c178 c179 c180 c181 c182 c183 c184 c185 c186 c187 c188 c189 c190 c191 c192 c193 c194 c195 c196 c197 c198 c199 c200 c201 c202 c203 c204 c205 c206 c207 c208 c209 c210 c211 c212 c213 c214 c215 c216 c217 c218 c219 c220 c221 c222 c223 c224 c225 c226 c227 c228 c229 c230 c231 c232 c233 c234 c235 c236 c237 c238 c239 c240 c241 c242 c243 c244 c245 c246 c247 c248 c249 c250 c251 c252 c253 c254 c255 c256 c257 c258 c259 c260 c261 c262 c263 c264 c265 c266 c267 c268 c269 c270 c271 c272 c273 c274 c275 c276 c277 c278 c279 c280 c281 c282 c283 c284 c285 c286 c287 c288 c289 c290 c291 c292 c293 c294 c295 c296 c297 c298 J K' h1 h2
theorem sw_re {w : World} {g b o : Nat} {L : Option Addr} {c d : Nat} {F : Option Addr} {cF : Nat} {ds : List Dv} {ls : List Lk} {FL : List Ft} {j : Nat} {q : Int} {p : Pk} {ch : Int} {dv : Dv} {Ab Ar At : Option Addr} {nb cb nr cr nt ct : Nat} {D Q : Nat} {G : Pk -> World -> Prop} {r : MR} {kd : Int} {C : Code} (hC : C = reCode) {a' : Act} {w' : World} (FX : HFacts w g (some ⟨b, o, none⟩) L c d F cF ds ls FL (j : Int) q p ch dv kd (.slice Ab nb cb) (.slice Ar nr cr) (.slice At nt ct) D Q G) (hfl : FL.length <= 5000) (R : Ending -> World -> Prop) (hbad : r.err = 0 -> Hid (∀ (a : Act) (W : World), a.defers = [] -> a.eval (.tmp 8) = .pointer (some ⟨w.heap.size + 1 + 1 + 1, 0, none⟩) -> a.eval (.tmp 9) = .int .i64 7 -> (r.out = false ∨ peerF ls (j : Int) r.port = none) -> Bk W (w.heap.size + 1 + 1 + 1) #[.int .i64 0, .int .i64 0, .int .i64 0, .int .i64 0, .int .i64 0, .int .i64 0] 128 -> MOut w g (some ⟨b, o, none⟩) L c d F ds ls FL W -> QZ R .ret a W)) (hok : r.err = 0 -> Hid (∀ (a : Act) (W : World) (t : Int × Int), r.out = true -> peerF ls (j : Int) r.port = some t -> a.defers = [] -> a.eval (.tmp 8) = .pointer (some ⟨w.heap.size + 1 + 1 + 1, 0, none⟩) -> a.eval (.tmp 9) = .int .i64 0 -> Bk W (w.heap.size + 1 + 1 + 1) #[.int .i64 t.1, .int .i64 t.2, .int .i64 r.p.s, .int .i64 r.p.d, .int .i64 r.p.sp, .int .i64 r.p.dp] 128 -> MOut w g (some ⟨b, o, none⟩) L c d F ds ls (addF FL r.k) W -> QZ R .ret a W)) (c1 c2 c3 c4 c21 c22 c23 c24 c25 c26 c27 c28 c29 c30 c31 c32 c33 c34 c35 c36 c37 c38 c39 c40 c41 c42 c43 c44 c45 c46 c47 c48 c49 c50 c51 c52 c53 c54 c55 c56 c57 c58 c59 c60 c61 c62 c63 c64 c65 c66 c67 c68 c69 c70 c252 c253 c254 c255 c256 c257 c258 c259 c260 c261 c262 c263 c264 c265 c266 c267 c268 c269 c270 c271 c272 c273 c274 c275 c276 c277 c278 c279 c280 c281 c282 c283 c284 c285 c286 c287 c288 c289 c290 c291 c292 c293 c294 c295 c296 c297 c298 : Value) (h : SwR w g D Q kd c1 c2 c3 c4 c21 c22 c23 c24 c25 c26 c27 c28 c29 c30 c31 c32 c33 c34 c35 c36 c37 c38 c39 c40 c41 c42 c43 c44 c45 c46 c47 c48 c49 c50 c51 c52 c53 c54 c55 c56 c57 c58 c59 c60 c61 c62 c63 c64 c65 c66 c67 c68 c69 c70 c252 c253 c254 c255 c256 c257 c258 c259 c260 c261 c262 c263 c264 c265 c266 c267 c268 c269 c270 c271 c272 c273 c274 c275 c276 c277 c278 c279 c280 c281 c282 c283 c284 c285 c286 c287 c288 c289 c290 c291 c292 c293 c294 c295 c296 c297 c298 (fun v11 v12 v14 wx => v11 = .bool r.out ∧ v12 = .int .i64 r.port ∧ KN r.k v14 wx ∧ G r.p wx ∧ r.err = 0) a' w') : C.wp Tryz.prog (QZ R) a' w' := by
 subst hC
 unfold SwR at h
 obtain ⟨u11, h⟩ := h
 obtain ⟨u12, h⟩ := h
 obtain ⟨u14, h⟩ := h
 obtain ⟨u15, h⟩ := h
 obtain ⟨u16, h⟩ := h
 obtain ⟨u17, h⟩ := h
 obtain ⟨u18, h⟩ := h
 obtain ⟨u19, h⟩ := h
 obtain ⟨u20, h⟩ := h
 obtain ⟨u72, h⟩ := h
 obtain ⟨u73, h⟩ := h
 obtain ⟨u74, h⟩ := h
 obtain ⟨u75, h⟩ := h
 obtain ⟨u76, h⟩ := h
 obtain ⟨u77, h⟩ := h
 obtain ⟨u78, h⟩ := h
 obtain ⟨u79, h⟩ := h
 obtain ⟨u80, h⟩ := h
 obtain ⟨u81, h⟩ := h
 obtain ⟨u82, h⟩ := h
 obtain ⟨u83, h⟩ := h
 obtain ⟨u84, h⟩ := h
 obtain ⟨u85, h⟩ := h
 obtain ⟨u86, h⟩ := h
 obtain ⟨u87, h⟩ := h
 obtain ⟨u88, h⟩ := h
 obtain ⟨u89, h⟩ := h
 obtain ⟨u90, h⟩ := h
 obtain ⟨u91, h⟩ := h
 obtain ⟨u92, h⟩ := h
 obtain ⟨u93, h⟩ := h
 obtain ⟨u94, h⟩ := h
 obtain ⟨u95, h⟩ := h
 obtain ⟨u96, h⟩ := h
 obtain ⟨u97, h⟩ := h
 obtain ⟨u98, h⟩ := h
 obtain ⟨u99, h⟩ := h
 obtain ⟨u100, h⟩ := h
 obtain ⟨u101, h⟩ := h
 obtain ⟨u102, h⟩ := h
 obtain ⟨u103, h⟩ := h
 obtain ⟨u104, h⟩ := h
 obtain ⟨u105, h⟩ := h
 obtain ⟨u106, h⟩ := h
 obtain ⟨u107, h⟩ := h
 obtain ⟨u108, h⟩ := h
 obtain ⟨u109, h⟩ := h
 obtain ⟨u110, h⟩ := h
 obtain ⟨u111, h⟩ := h
 obtain ⟨u112, h⟩ := h
 obtain ⟨u113, h⟩ := h
 obtain ⟨u114, h⟩ := h
 obtain ⟨u115, h⟩ := h
 obtain ⟨u116, h⟩ := h
 obtain ⟨u117, h⟩ := h
 obtain ⟨u118, h⟩ := h
 obtain ⟨u119, h⟩ := h
 obtain ⟨u120, h⟩ := h
 obtain ⟨u121, h⟩ := h
 obtain ⟨u122, h⟩ := h
 obtain ⟨u123, h⟩ := h
 obtain ⟨u124, h⟩ := h
 obtain ⟨u125, h⟩ := h
 obtain ⟨u126, h⟩ := h
 obtain ⟨u127, h⟩ := h
 obtain ⟨u128, h⟩ := h
 obtain ⟨u129, h⟩ := h
 obtain ⟨u130, h⟩ := h
 obtain ⟨u131, h⟩ := h
 obtain ⟨u132, h⟩ := h
 obtain ⟨u133, h⟩ := h
 obtain ⟨u134, h⟩ := h
 obtain ⟨u135, h⟩ := h
 obtain ⟨u136, h⟩ := h
 obtain ⟨u137, h⟩ := h
 obtain ⟨u138, h⟩ := h
 obtain ⟨u139, h⟩ := h
 obtain ⟨u140, h⟩ := h
 obtain ⟨u141, h⟩ := h
 obtain ⟨u142, h⟩ := h
 obtain ⟨u143, h⟩ := h
 obtain ⟨u144, h⟩ := h
 obtain ⟨u145, h⟩ := h
 obtain ⟨u146, h⟩ := h
 obtain ⟨u147, h⟩ := h
 obtain ⟨u148, h⟩ := h
 obtain ⟨u149, h⟩ := h
 obtain ⟨u150, h⟩ := h
 obtain ⟨u151, h⟩ := h
 obtain ⟨u152, h⟩ := h
 obtain ⟨u153, h⟩ := h
 obtain ⟨u154, h⟩ := h
 obtain ⟨u155, h⟩ := h
 obtain ⟨u156, h⟩ := h
 obtain ⟨u157, h⟩ := h
 obtain ⟨u158, h⟩ := h
 obtain ⟨u159, h⟩ := h
 obtain ⟨u160, h⟩ := h
 obtain ⟨u161, h⟩ := h
 obtain ⟨u162, h⟩ := h
 obtain ⟨u163, h⟩ := h
 obtain ⟨u164, h⟩ := h
 obtain ⟨u165, h⟩ := h
 obtain ⟨u166, h⟩ := h
 obtain ⟨u167, h⟩ := h
 obtain ⟨u168, h⟩ := h
 obtain ⟨u169, h⟩ := h
 obtain ⟨u170, h⟩ := h
 obtain ⟨u171, h⟩ := h
 obtain ⟨u172, h⟩ := h
 obtain ⟨u173, h⟩ := h
 obtain ⟨u174, h⟩ := h
 obtain ⟨u175, h⟩ := h
 obtain ⟨u176, h⟩ := h
 obtain ⟨u177, h⟩ := h
 obtain ⟨u178, h⟩ := h
 obtain ⟨u179, h⟩ := h
 obtain ⟨u180, h⟩ := h
 obtain ⟨u181, h⟩ := h
 obtain ⟨u182, h⟩ := h
 obtain ⟨u183, h⟩ := h
 obtain ⟨u184, h⟩ := h
 obtain ⟨u185, h⟩ := h
 obtain ⟨u186, h⟩ := h
 obtain ⟨u187, h⟩ := h
 obtain ⟨u188, h⟩ := h
 obtain ⟨u189, h⟩ := h
 obtain ⟨u190, h⟩ := h
 obtain ⟨u191, h⟩ := h
 obtain ⟨u192, h⟩ := h
 obtain ⟨u193, h⟩ := h
 obtain ⟨u194, h⟩ := h
 obtain ⟨u195, h⟩ := h
 obtain ⟨u196, h⟩ := h
 obtain ⟨u197, h⟩ := h
 obtain ⟨u198, h⟩ := h
 obtain ⟨u199, h⟩ := h
 obtain ⟨u200, h⟩ := h
 obtain ⟨u201, h⟩ := h
 obtain ⟨u202, h⟩ := h
 obtain ⟨u203, h⟩ := h
 obtain ⟨u204, h⟩ := h
 obtain ⟨u205, h⟩ := h
 obtain ⟨u206, h⟩ := h
 obtain ⟨u207, h⟩ := h
 obtain ⟨u208, h⟩ := h
 obtain ⟨u209, h⟩ := h
 obtain ⟨u210, h⟩ := h
 obtain ⟨u211, h⟩ := h
 obtain ⟨u212, h⟩ := h
 obtain ⟨u213, h⟩ := h
 obtain ⟨u214, h⟩ := h
 obtain ⟨u215, h⟩ := h
 obtain ⟨u216, h⟩ := h
 obtain ⟨u217, h⟩ := h
 obtain ⟨u218, h⟩ := h
 obtain ⟨u219, h⟩ := h
 obtain ⟨u220, h⟩ := h
 obtain ⟨u221, h⟩ := h
 obtain ⟨u222, h⟩ := h
 obtain ⟨u223, h⟩ := h
 obtain ⟨u224, h⟩ := h
 obtain ⟨u225, h⟩ := h
 obtain ⟨u226, h⟩ := h
 obtain ⟨u227, h⟩ := h
 obtain ⟨u228, h⟩ := h
 obtain ⟨u229, h⟩ := h
 obtain ⟨u230, h⟩ := h
 obtain ⟨u231, h⟩ := h
 obtain ⟨u232, h⟩ := h
 obtain ⟨u233, h⟩ := h
 obtain ⟨u234, h⟩ := h
 obtain ⟨u235, h⟩ := h
 obtain ⟨u236, h⟩ := h
 obtain ⟨u237, h⟩ := h
 obtain ⟨u238, h⟩ := h
 obtain ⟨u239, h⟩ := h
 obtain ⟨u240, h⟩ := h
 obtain ⟨u241, h⟩ := h
 obtain ⟨u242, h⟩ := h
 obtain ⟨u243, h⟩ := h
 obtain ⟨u244, h⟩ := h
 obtain ⟨u245, h⟩ := h
 obtain ⟨u246, h⟩ := h
 obtain ⟨u247, h⟩ := h
 obtain ⟨u248, h⟩ := h
 obtain ⟨u249, h⟩ := h
 obtain ⟨u250, h⟩ := h
 obtain ⟨u251, h⟩ := h
 obtain ⟨⟨rfl, rfl, hk, hg, he⟩, rfl⟩ := h
 exact re_any FX hg hk hfl R (hbad he) (hok he) c1 c2 c3 c4 u15 u16 u17 u18 u19 u20 c21 c22 c23 c24 c25 c26 c27 c28 c29 c30 c31 c32 c33 c34 c35 c36 c37 c38 c39 c40 c41 c42 c43 c44 c45 c46 c47 c48 c49 c50 c51 c52 c53 c54 c55 c56 c57 c58 c59 c60 c61 c62 c63 c64 c65 c66 c67 c68 c69 c70 (.int .i64 kd) u72 u73 u74 u75 u76 u77 u78 u79 u80 u81 u82 u83 u84 u85 u86 u87 u88 u89 u90 u91 u92 u93 u94 u95 u96 u97 u98 u99 u100 u101 u102 u103 u104 u105 u106 u107 u108 u109 u110 u111 u112 u113 u114 u115 u116 u117 u118 u119 u120 u121 u122 u123 u124 u125 u126 u127 u128 u129 u130 u131 u132 u133 u134 u135 u136 u137 u138 u139 u140 u141 u142 u143 u144 u145 u146 u147 u148 u149 u150 u151 u152 u153 u154 u155 u156 u157 u158 u159 u160 u161 u162 u163 u164 u165 u166 u167 u168 u169 u170 u171 u172 u173 u174 u175 u176 u177 u178 u179 u180 u181 u182 u183 u184 u185 u186 u187 u188 u189 u190 u191 u192 u193 u194 u195 u196 u197 u198 u199 u200 u201 u202 u203 u204 u205 u206 u207 u208 u209 u210 u211 u212 u213 u214 u215 u216 u217 u218 u219 u220 u221 u222 u223 u224 u225 u226 u227 u228 u229 u230 u231 u232 u233 u234 u235 u236 u237 u238 u239 u240 u241 u242 u243 u244 u245 u246 u247 u248 u249 u250 u251 c252 c253 c254 c255 c256 c257 c258 c259 c260 c261 c262 c263 c264 c265 c266 c267 c268 c269 c270 c271 c272 c273 c274 c275 c276 c277 c278 c279 c280 c281 c282 c283 c284 c285 c286 c287 c288 c289 c290 c291 c292 c293 c294 c295 c296 c297 c298
theorem mind_ok {ds : List Dv} {ls : List Lk} {FL : List Ft} {i q : Int} {p : Pk} {ch : Int} {dv : Dv} (hpl : isPl ds i q = true) (hpk : pkOk p = true) (hg : ds.getD i.toNat default = dv) {r : MR} (hr : mSend dv FL i q p ch = r) {m9 : MH} (hm : mindP ds ls FL i q p ch = m9) :
  (r.err ≠ 0 -> m9 = badM r.err FL) ∧ (r.err = 0 -> r.out = false -> m9 = badM 7 FL) ∧ (r.err = 0 -> r.out = true -> peerF ls i r.port = none -> m9 = badM 7 FL) ∧ (∀ t, r.err = 0 -> r.out = true -> peerF ls i r.port = some t -> m9 = ⟨0, t, r.p, addF FL r.k⟩) := by
 unfold mindP at hm
 rw [if_pos hpl, if_pos hpk, hg, hr] at hm
 refine ⟨fun h => ?_, fun h h2 => ?_, fun h h2 h3 => ?_, fun t h h2 h3 => ?_⟩
 ·rw [if_neg h] at hm
  exact hm.symm
 ·rw [if_pos h, h2, if_neg Bool.false_ne_true] at hm
  exact hm.symm
 ·rw [if_pos h, h2, if_pos rfl, h3] at hm
  exact hm.symm
 ·rw [if_pos h, h2, if_pos rfl, h3] at hm
  exact hm.symm
theorem mhandle_ok {g : Nat} {A L : Option Addr} {c d : Nat} {F : Option Addr} {cF : Nat} {ds : List Dv} {ls : List Lk} {FL : List Ft} (i q : Int) (p : Pk) (ch : Int) (w : World) (h : Hid (MnAt w g A L c d F cF ds ls FL)) (hpl : isPl ds i q = true) (hpk : pkOk p = true) (hn : FL.length <= 5000) {m9 : MH} (hm9 : mindP ds ls FL i q p ch = m9) :
  Calls Tryz.prog 55 #[.pointer (some ⟨g, 0, none⟩), plA i q, pkV p, .int .i64 ch] w fun e w' => e = .returned (.tuple #[arV m9.tp m9.p, .int .i64 m9.err]) ∧ MOut w g A L c d F ds ls m9.FL w' := by
 have hln := h.out.devs.len
 have hm : ds.length <= maxLen := Nat.le_trans hln.2.1 hln.2.2
 unfold maxLen at hm
 have hG := h.out.blk.lt
 have M4 := (((h.out.alloc (.cells #[.int .i64 i, .int .i64 q] 27)).alloc (pkC p)).alloc (.cells #[.int .i64 ch] 3)).alloc (.cells #[.int .i64 0, .int .i64 0, .int .i64 0, .int .i64 0, .int .i64 0, .int .i64 0] 128)
 have D4 := Below.alN (Below.alN (Below.alN (Below.alN (Below.refl w.heap.size w) (.cells #[.int .i64 i, .int .i64 q] 27)) (pkC p)) (.cells #[.int .i64 ch] 3)) (.cells #[.int .i64 0, .int .i64 0, .int .i64 0, .int .i64 0, .int .i64 0, .int .i64 0] 128)
 have A4 := (((bk_new w #[.int .i64 i, .int .i64 q] 27).alloc (pkC p)).alloc (.cells #[.int .i64 ch] 3)).alloc (.cells #[.int .i64 0, .int .i64 0, .int .i64 0, .int .i64 0, .int .i64 0, .int .i64 0] 128)
 have P4 := ((bk_new' (w.alloc (.cells #[.int .i64 i, .int .i64 q] 27)) #[.int .i64 p.s, .int .i64 p.d, .int .i64 p.sp, .int .i64 p.dp] 29 (w.heap.size + 1) (by simp)).alloc (.cells #[.int .i64 ch] 3)).alloc (.cells #[.int .i64 0, .int .i64 0, .int .i64 0, .int .i64 0, .int .i64 0, .int .i64 0] 128)
 have C4 := (bk_new' ((w.alloc (.cells #[.int .i64 i, .int .i64 q] 27)).alloc (pkC p)) #[.int .i64 ch] 3 (w.heap.size + 1 + 1) (by simp)).alloc (.cells #[.int .i64 0, .int .i64 0, .int .i64 0, .int .i64 0, .int .i64 0, .int .i64 0] 128)
 have R4 := bk_new' (((w.alloc (.cells #[.int .i64 i, .int .i64 q] 27)).alloc (pkC p)).alloc (.cells #[.int .i64 ch] 3)) #[.int .i64 0, .int .i64 0, .int .i64 0, .int .i64 0, .int .i64 0, .int .i64 0] 128 (w.heap.size + 1 + 1 + 1) (by simp)
 have hi : 0 <= i ∧ i < (ds.length : Int) := by
  unfold isPl at hpl
  simp only [Bool.and_eq_true, decide_eq_true_eq] at hpl
  omega
 obtain ⟨j, rfl⟩ : ∃ j : Nat, i = (j : Int) := ⟨i.toNat, by omega⟩
 have hj : j < ds.length := by omega
 obtain ⟨dv, hd⟩ : ∃ dv, ds[j]? = some dv := ⟨_, List.getElem?_eq_getElem hj⟩
 have hkd : kindAt ds (j : Int) = dv.kind := by
  unfold kindAt
  rw [Int.toNat_natCast, hd]
  rfl
 obtain ⟨b, o, vb, vr, vt, hA, hbl, s1, s2, s3, e0, e1, e2, e3, e4, e5, e6⟩ := M4.devs.at hd
 have k1 : (0 : Int) <= (j : Int) := by omega
 have k2 : (j : Int) < (ds.length : Int) := by omega
 have hw : IntKind.i64.wrap ((ds.length : Int) - 1) = (ds.length : Int) - 1 := IntWalk.i64_in _ (by omega)
 have hpo : 0 <= portsV dv.kind ∧ portsV dv.kind <= 4 := by unfold portsV; split <;> (try split) <;> (try split) <;> omega
 have hw2 : IntKind.i64.wrap (portsV dv.kind - 1) = portsV dv.kind - 1 := IntWalk.i64_in _ (by omega)
 have I1 : Hid (∀ W, Calls Tryz.prog 8 #[.int .i64 (j : Int), .int .i64 0, .int .i64 ((ds.length : Int) - 1)] W fun e w' => e = .returned (.bool true) ∧ w' = W) := fun W => by
  have := finR (j : Int) 0 ((ds.length : Int) - 1) W
  rw [show (decide (0 <= (j : Int)) && decide ((j : Int) <= (ds.length : Int) - 1)) = true by rw [Bool.and_eq_true]; simp only [decide_eq_true_eq]; omega] at this
  exact this
 have PO : Hid (∀ W, Calls Tryz.prog 19 #[.int .i64 dv.kind] W fun e w' => e = .returned (.int .i64 (portsV dv.kind)) ∧ Below W.heap.size W w') := fun W => rports_any dv.kind W
 subst hA
 have hq2 : (decide (0 <= q) && decide (q <= portsV dv.kind - 1)) = true := by
  unfold isPl at hpl
  rw [hkd] at hpl
  simp only [Bool.and_eq_true, decide_eq_true_eq] at hpl ⊢
  omega
 have hbw : b < ((((w.alloc (.cells #[.int .i64 (j : Int), .int .i64 q] 27)).alloc (pkC p)).alloc (.cells #[.int .i64 ch] 3)).alloc (.cells #[.int .i64 0, .int .i64 0, .int .i64 0, .int .i64 0, .int .i64 0, .int .i64 0] 128)).drew.heap.size := Nat.lt_trans hbl M4.blk.lt
 have RG : Hid (∀ W, Calls Tryz.prog 43 #[.agg #[.int .i64 p.s, .int .i64 p.d, .int .i64 p.sp, .int .i64 p.dp]] W fun e w' => e = .returned (.bool true) ∧ Below W.heap.size W w') := fun W => by
  have := right_M p W
  rw [hpk] at this
  exact this
 have hgd : ds.getD (j : Int).toNat default = dv := by rw [Int.toNat_natCast, List.getD_eq_getElem?_getD, hd]; rfl
 obtain ⟨r, hr⟩ : ∃ r, mSend dv FL (j : Int) q p ch = r := ⟨_, rfl⟩
 have HR : Hid (mSend dv FL (j : Int) q p ch = r) := hr
 obtain ⟨x1, x2, x3, x4⟩ := mind_ok hpl hpk hgd hr hm9
 have M1 : Hid (r.err ≠ 0 -> m9 = badM r.err FL) := x1
 have M2 : Hid (r.err = 0 -> r.out = false -> m9 = badM 7 FL) := x2
 have M3 : Hid (r.err = 0 -> r.out = true -> peerF ls (j : Int) r.port = none -> m9 = badM 7 FL) := x3
 have M9 : Hid (∀ t, r.err = 0 -> r.out = true -> peerF ls (j : Int) r.port = some t -> m9 = ⟨0, t, r.p, addF FL r.k⟩) := x4
 have HK : Hid (kindAt ds (j : Int) = dv.kind) := hkd
 have hq4 : 0 <= q ∧ q < 4 := by
  simp only [Bool.and_eq_true, decide_eq_true_eq] at hq2
  omega
 have hq5 : dv.kind ≠ 2 -> q < 2 := by
  simp only [Bool.and_eq_true, decide_eq_true_eq] at hq2
  unfold portsV at hq2
  intro h
  rw [if_neg h] at hq2
  split at hq2 <;> (try split at hq2) <;> omega
 have S1 : Hid (SlAt g _ 1 IsI vb dv.backs) := s1
 have S2 : Hid (SlAt g _ 5 IsRule vr dv.rules) := s2
 have S3 : Hid (SlAt g _ 3 IsRoute vt dv.routes) := s3
 obtain ⟨Ab, cb, rfl, jk1⟩ := s1
 obtain ⟨Ar, cr, rfl, jk2⟩ := s2
 obtain ⟨At, ct, rfl, jk3⟩ := s3
 have HNB9 : Hid (dv.backs.length <= maxLen) := Nat.le_trans jk1.2.1 jk1.2.2.1
 clear jk1 jk2 jk3
 generalize hnb : dv.backs.length = nb at *
 have HNB : Hid (dv.backs.length = nb) := hnb
 clear hnb
 generalize dv.rules.length = nr at *
 generalize dv.routes.length = nt at *
 clear x1 x2 x3 x4 hr hm9 hgd
 generalize hkk : dv.kind = kd at *
 have HKK : Hid (dv.kind = kd) := hkk
 have I2 : Hid (∀ W, Calls Tryz.prog 8 #[.int .i64 q, .int .i64 0, .int .i64 (portsV kd - 1)] W fun e w' => e = .returned (.bool true) ∧ w' = W) := fun W => by
  have := finR q 0 (portsV kd - 1) W
  rw [hq2] at this
  exact this
 generalize portsV kd = po at *
 clear hkk hpl hkd hd hi hln h hpk hq2 hpo
 have g0 := M4.blk.at 0
 have Q0 : ((((w.alloc (.cells #[.int .i64 (j : Int), .int .i64 q] 27)).alloc (pkC p)).alloc (.cells #[.int .i64 ch] 3)).alloc (.cells #[.int .i64 0, .int .i64 0, .int .i64 0, .int .i64 0, .int .i64 0, .int .i64 0] 128)).drew.cell? ⟨g, 0, none⟩ = some (.slice (some ⟨b, o, none⟩) ds.length c) := g0
 obtain ⟨a0, a1⟩ := A4.two
 have Q1 : ((((w.alloc (.cells #[.int .i64 (j : Int), .int .i64 q] 27)).alloc (pkC p)).alloc (.cells #[.int .i64 ch] 3)).alloc (.cells #[.int .i64 0, .int .i64 0, .int .i64 0, .int .i64 0, .int .i64 0, .int .i64 0] 128)).drew.cell? ⟨w.heap.size, 0, none⟩ = some (.int .i64 (j : Int)) := a0
 have Q2 : ((((w.alloc (.cells #[.int .i64 (j : Int), .int .i64 q] 27)).alloc (pkC p)).alloc (.cells #[.int .i64 ch] 3)).alloc (.cells #[.int .i64 0, .int .i64 0, .int .i64 0, .int .i64 0, .int .i64 0, .int .i64 0] 128)).drew.cell? ⟨w.heap.size, 1, none⟩ = some (.int .i64 q) := a1
 have Q3 : ((((w.alloc (.cells #[.int .i64 (j : Int), .int .i64 q] 27)).alloc (pkC p)).alloc (.cells #[.int .i64 ch] 3)).alloc (.cells #[.int .i64 0, .int .i64 0, .int .i64 0, .int .i64 0, .int .i64 0, .int .i64 0] 128)).drew.cell? ⟨b, o + j * 7 + 1, none⟩ = some (.int .i64 kd) := e1
 go_enter Tryz.func55, Tryz.ntmps55
 go_wp2_with fail
 go_region_held3 (fun w' => w'.cell? ⟨g, 0, none⟩ = some (.slice (some ⟨b, o, none⟩) ds.length c) ∧ w'.cell? ⟨w.heap.size, 0, none⟩ = some (.int .i64 (j : Int)) ∧ w'.cell? ⟨w.heap.size, 1, none⟩ = some (.int .i64 q) ∧ w'.cell? ⟨b, o + j * 7 + 1, none⟩ = some (.int .i64 kd)) (go_keep) (first | (go_at_call_of 8 (Value.int .i64 (j : Int)); refine (I1.out _).mono ?_; rintro e w' ⟨rfl, rfl⟩) | (go_at_call 19; refine (PO.out _).mono ?_; rintro e w5 ⟨rfl, hb5⟩; have D5 := chnN hb5 D4.drew; have M5 := M4.drew.below hb5; have A5 := A4.drew.keep hb5; have P5 := P4.drew.keep hb5; have C5 := C4.drew.keep hb5; have R5 := R4.drew.keep hb5; have gq0 := M5.blk.at 0; obtain ⟨aq0, aq1⟩ := A5.two; have eq1 := (hb5.cell (p := ⟨b, o + j * 7 + 1, none⟩) hbw).trans Q3) | (go_at_call_of 8 (Value.int .i64 q); refine (I2.out _).mono ?_; rintro e w' ⟨rfl, hx⟩; obtain rfl := hx.symm))
 obtain ⟨p0, p1, p2, p3, jk⟩ := P5.four
 clear jk
 have hg5 : Below g ((((w.alloc (.cells #[.int .i64 (j : Int), .int .i64 q] 27)).alloc (pkC p)).alloc (.cells #[.int .i64 ch] 3)).alloc (.cells #[.int .i64 0, .int .i64 0, .int .i64 0, .int .i64 0, .int .i64 0, .int .i64 0] 128)) w5 := ((Below.refl g _).drew).trans (hb5.mono (Nat.le_of_lt M4.blk.lt))
 have T1 : Hid (SlAt g w5 1 IsI (.slice Ab nb cb) dv.backs) := SlAt.below S1.out hg5 (fun _ _ _ h => h)
 have T2 : Hid (SlAt g w5 5 IsRule (.slice Ar nr cr) dv.rules) := SlAt.below S2.out hg5 (fun _ _ _ h => h)
 have T3 : Hid (SlAt g w5 3 IsRoute (.slice At nt ct) dv.routes) := SlAt.below S3.out hg5 (fun _ _ _ h => h)
 have E0 := (hb5.cell (p := ⟨b, o + j * 7, none⟩) hbw).trans (show ((((w.alloc (.cells #[.int .i64 (j : Int), .int .i64 q] 27)).alloc (pkC p)).alloc (.cells #[.int .i64 ch] 3)).alloc (.cells #[.int .i64 0, .int .i64 0, .int .i64 0, .int .i64 0, .int .i64 0, .int .i64 0] 128)).drew.cell? _ = _ from e0)
 have E1 := (hb5.cell (p := ⟨b, o + j * 7 + 1, none⟩) hbw).trans (show ((((w.alloc (.cells #[.int .i64 (j : Int), .int .i64 q] 27)).alloc (pkC p)).alloc (.cells #[.int .i64 ch] 3)).alloc (.cells #[.int .i64 0, .int .i64 0, .int .i64 0, .int .i64 0, .int .i64 0, .int .i64 0] 128)).drew.cell? _ = _ from Q3)
 have E2 := (hb5.cell (p := ⟨b, o + j * 7 + 2, none⟩) hbw).trans (show ((((w.alloc (.cells #[.int .i64 (j : Int), .int .i64 q] 27)).alloc (pkC p)).alloc (.cells #[.int .i64 ch] 3)).alloc (.cells #[.int .i64 0, .int .i64 0, .int .i64 0, .int .i64 0, .int .i64 0, .int .i64 0] 128)).drew.cell? _ = _ from e2)
 have E3 := (hb5.cell (p := ⟨b, o + j * 7 + 3, none⟩) hbw).trans (show ((((w.alloc (.cells #[.int .i64 (j : Int), .int .i64 q] 27)).alloc (pkC p)).alloc (.cells #[.int .i64 ch] 3)).alloc (.cells #[.int .i64 0, .int .i64 0, .int .i64 0, .int .i64 0, .int .i64 0, .int .i64 0] 128)).drew.cell? _ = _ from e3)
 have E4 := (hb5.cell (p := ⟨b, o + j * 7 + 4, none⟩) hbw).trans (show ((((w.alloc (.cells #[.int .i64 (j : Int), .int .i64 q] 27)).alloc (pkC p)).alloc (.cells #[.int .i64 ch] 3)).alloc (.cells #[.int .i64 0, .int .i64 0, .int .i64 0, .int .i64 0, .int .i64 0, .int .i64 0] 128)).drew.cell? _ = _ from e4)
 have E5 := (hb5.cell (p := ⟨b, o + j * 7 + 5, none⟩) hbw).trans (show ((((w.alloc (.cells #[.int .i64 (j : Int), .int .i64 q] 27)).alloc (pkC p)).alloc (.cells #[.int .i64 ch] 3)).alloc (.cells #[.int .i64 0, .int .i64 0, .int .i64 0, .int .i64 0, .int .i64 0, .int .i64 0] 128)).drew.cell? _ = _ from e5)
 have E6 := (hb5.cell (p := ⟨b, o + j * 7 + 6, none⟩) hbw).trans (show ((((w.alloc (.cells #[.int .i64 (j : Int), .int .i64 q] 27)).alloc (pkC p)).alloc (.cells #[.int .i64 ch] 3)).alloc (.cells #[.int .i64 0, .int .i64 0, .int .i64 0, .int .i64 0, .int .i64 0, .int .i64 0] 128)).drew.cell? _ = _ from e6)
 have hb5z : b < w5.heap.size := Nat.lt_of_lt_of_le hbw hb5.size
 clear hb5 M4 A4 P4 C4 R4 D4 g0 a0 a1 gq0 aq0 aq1 eq1 e0 e1 e2 e3 e4 e5 e6 Q0 Q1 Q2 Q3 hg5 S1 S2 S3 PO I1 I2 hw hw2 hbw
 go_wp2_with fail
 refine (RG.out _).mono ?_
 rintro e w6 ⟨rfl, hb6⟩
 have M6 := M5.below hb6
 have B6 : Hid (HB w g (some ⟨b, o, none⟩) L c d F cF ds ls FL (j : Int) q p ch dv kd (.slice Ab nb cb) (.slice Ar nr cr) (.slice At nt ct) w6.heap.size (w6.alloc (.cells #[.string dv.name, .int .i64 kd, .int .i64 dv.addr, .int .u8 (dv.pool : Int), .slice Ab nb cb, .slice Ar nr cr, .slice At nt ct] 56))) := by
  have hg6 : Below g w5 w6 := hb6.mono (Nat.le_of_lt M5.blk.lt)
  have ba : Below g w6 (w6.alloc (.cells #[.string dv.name, .int .i64 kd, .int .i64 dv.addr, .int .u8 (dv.pool : Int), .slice Ab nb cb, .slice Ar nr cr, .slice At nt ct] 56)) := (Below.refl _ _).alloc (Nat.le_of_lt M6.blk.lt) _
  refine ⟨M6.alloc _, (A5.keep hb6).alloc _, (P5.keep hb6).alloc _, (C5.keep hb6).alloc _, (R5.keep hb6).alloc _, bk_new w6 _ _, SlAt.below (SlAt.below T1.out hg6 (fun _ _ _ h => h)) ba (fun _ _ _ h => h), SlAt.below (SlAt.below T2.out hg6 (fun _ _ _ h => h)) ba (fun _ _ _ h => h), SlAt.below (SlAt.below T3.out hg6 (fun _ _ _ h => h)) ba (fun _ _ _ h => h), Below.alN (chnN hb6 D5) _, hG, ?_⟩
  have z5 := R5.lt
  have := hb6.size
  omega
 have F0 := (hb6.cell (p := ⟨b, o + j * 7, none⟩) hb5z).trans E0
 have F1 := (hb6.cell (p := ⟨b, o + j * 7 + 1, none⟩) hb5z).trans E1
 have F2 := (hb6.cell (p := ⟨b, o + j * 7 + 2, none⟩) hb5z).trans E2
 have F3 := (hb6.cell (p := ⟨b, o + j * 7 + 3, none⟩) hb5z).trans E3
 have F4 := (hb6.cell (p := ⟨b, o + j * 7 + 4, none⟩) hb5z).trans E4
 have F5 := (hb6.cell (p := ⟨b, o + j * 7 + 5, none⟩) hb5z).trans E5
 have F6 := (hb6.cell (p := ⟨b, o + j * 7 + 6, none⟩) hb5z).trans E6
 have g0 := M6.blk.at 0
 obtain ⟨a0, a1⟩ := (A5.keep hb6).two
 have hb6z : b < w6.heap.size := Nat.lt_of_lt_of_le hb5z hb6.size
 have BZ : Below w6.heap.size w6 (w6.alloc (.cells #[.string ⟨#[]⟩, .int .i64 0, .int .i64 0, .int .u8 0, .slice none 0 0, .slice none 0 0, .slice none 0 0] 56)) := (Below.refl _ _).alloc (Nat.le_refl _) _
 have X0 : (w6.alloc (.cells #[.string ⟨#[]⟩, .int .i64 0, .int .i64 0, .int .u8 0, .slice none 0 0, .slice none 0 0, .slice none 0 0] 56)).drew.cell? ⟨b, o + j * 7, none⟩ = _ := (BZ.cell (p := ⟨b, o + j * 7, none⟩) hb6z).trans F0
 have X1 : (w6.alloc (.cells #[.string ⟨#[]⟩, .int .i64 0, .int .i64 0, .int .u8 0, .slice none 0 0, .slice none 0 0, .slice none 0 0] 56)).drew.cell? ⟨b, o + j * 7 + 1, none⟩ = _ := (BZ.cell (p := ⟨b, o + j * 7 + 1, none⟩) hb6z).trans F1
 have X2 : (w6.alloc (.cells #[.string ⟨#[]⟩, .int .i64 0, .int .i64 0, .int .u8 0, .slice none 0 0, .slice none 0 0, .slice none 0 0] 56)).drew.cell? ⟨b, o + j * 7 + 2, none⟩ = _ := (BZ.cell (p := ⟨b, o + j * 7 + 2, none⟩) hb6z).trans F2
 have X3 : (w6.alloc (.cells #[.string ⟨#[]⟩, .int .i64 0, .int .i64 0, .int .u8 0, .slice none 0 0, .slice none 0 0, .slice none 0 0] 56)).drew.cell? ⟨b, o + j * 7 + 3, none⟩ = _ := (BZ.cell (p := ⟨b, o + j * 7 + 3, none⟩) hb6z).trans F3
 have X4 : (w6.alloc (.cells #[.string ⟨#[]⟩, .int .i64 0, .int .i64 0, .int .u8 0, .slice none 0 0, .slice none 0 0, .slice none 0 0] 56)).drew.cell? ⟨b, o + j * 7 + 4, none⟩ = _ := (BZ.cell (p := ⟨b, o + j * 7 + 4, none⟩) hb6z).trans F4
 have X5 : (w6.alloc (.cells #[.string ⟨#[]⟩, .int .i64 0, .int .i64 0, .int .u8 0, .slice none 0 0, .slice none 0 0, .slice none 0 0] 56)).drew.cell? ⟨b, o + j * 7 + 5, none⟩ = _ := (BZ.cell (p := ⟨b, o + j * 7 + 5, none⟩) hb6z).trans F5
 have X6 : (w6.alloc (.cells #[.string ⟨#[]⟩, .int .i64 0, .int .i64 0, .int .u8 0, .slice none 0 0, .slice none 0 0, .slice none 0 0] 56)).drew.cell? ⟨b, o + j * 7 + 6, none⟩ = _ := (BZ.cell (p := ⟨b, o + j * 7 + 6, none⟩) hb6z).trans F6
 have X7 : (w6.alloc (.cells #[.string ⟨#[]⟩, .int .i64 0, .int .i64 0, .int .u8 0, .slice none 0 0, .slice none 0 0, .slice none 0 0] 56)).drew.cell? ⟨g, 0, none⟩ = _ := (BZ.cell (p := ⟨g, 0, none⟩) M6.blk.lt).trans g0
 have X8 : (w6.alloc (.cells #[.string ⟨#[]⟩, .int .i64 0, .int .i64 0, .int .u8 0, .slice none 0 0, .slice none 0 0, .slice none 0 0] 56)).drew.cell? ⟨w.heap.size, 0, none⟩ = _ := (BZ.cell (p := ⟨w.heap.size, 0, none⟩) (A5.keep hb6).lt).trans a0
 clear hb6 M5 A5 P5 C5 R5 D5 E0 E1 E2 E3 E4 E5 E6 p0 p1 p2 p3 RG T1 T2 T3 M6 hb5z BZ hb6z
 go_wp2_with fail
 go_cut [10] (fun v10 wx => ∃ D, v10 = .pointer (some ⟨D, 0, none⟩) ∧ HB w g (some ⟨b, o, none⟩) L c d F cF ds ls FL (j : Int) q p ch dv kd (.slice Ab nb cb) (.slice Ar nr cr) (.slice At nt ct) D wx)
 case first =>
  go_region
  all_goals
   go_wp2_with fail
   go_meet
   exact ⟨_, rfl, B6.out.drewN _⟩
 case rest =>
  obtain ⟨D, rfl, B7⟩ := hcut
  obtain ⟨a0, a1⟩ := B7.ba.two
  have hw3 : IntKind.i64.wrap (1 - q) = 1 - q := IntWalk.i64_in _ (by omega)
  clear B6 F0 F1 F2 F3 F4 F5 F6 g0 X0 X1 X2 X3 X4 X5 X6 X7 X8
  go_wp2_with fail
  go_cut [11, 12] (fun v11 v12 wx => v11 = .bool false ∧ v12 = .int .i64 (1 - q) ∧ HB w g (some ⟨b, o, none⟩) L c d F cF ds ls FL (j : Int) q p ch dv kd (.slice Ab nb cb) (.slice Ar nr cr) (.slice At nt ct) D wx)
  case first =>
   go_quiet (fail)
   go_wp2_with fail
   go_meet
   exact ⟨rfl, rfl, B7.drewN _⟩
  case rest =>
   obtain ⟨rfl, rfl, B8⟩ := hcut
   obtain ⟨p0, p1, p2, p3, jk⟩ := B8.bp.four
   clear jk
   have FX := hg_facts w g (some ⟨b, o, none⟩) L c d F cF ds ls FL (j : Int) q p ch dv kd (.slice Ab nb cb) (.slice Ar nr cr) (.slice At nt ct) D wc.heap.size hG
   have G8 := B8.toG
   have hN8 : w.heap.size + 1 + 1 + 1 < wc.heap.size := Nat.lt_trans B8.dl B8.bd.lt
   generalize HG w g (some ⟨b, o, none⟩) L c d F cF ds ls FL (j : Int) q p ch dv kd (.slice Ab nb cb) (.slice Ar nr cr) (.slice At nt ct) D wc.heap.size = G at G8 FX
   clear B7 B8 a0 a1 hw3
   have d1 := (FX.cd G8).1
   generalize hQ : wc.heap.size = Q at *
   go_upto_block 0 with fail
   have G8' : G p (wc.alloc (pkC p)) := G8
   have hNB : nb <= maxLen := HNB9.out
   refine sw_all (by kernel_rfl) HR HKK hq4.1 hq5 FX G8' hNB _ ?hr _ _ _ _ _ _ _ _ _ _ _ _ _ _ _ _ _ _ _ _ _ _ _ _ _ _ _ _ _ _ _ _ _ _ _ _ _ _ _ _ _ _ _ _ _ _ _ _ _ _ _ _ _ _ _ _ _ _ _ _ _ _ _ _ _ _ _ _ _ _ _ _ _ _ _ _ _ _ _ _ _ _ _ _ _ _ _ _ _ _ _ _ _ _ _ _ _ _ _ _ _ _ _ _ _ _ _ _ _ _ _ _ _ _ _ _ _ _ _ _ _ _ _ _ _ _ _ _ _ _ _ _ _ _ _ _ _ _ _ _ _ _ _ _ _ _ _ _ _ _ _ _ _ _ _ _ _ _ _ _ _ _ _ _ _ _ _ _ _ _ _ _ _ _ _ _ _ _ _ _ _ _ _ _ _ _ _ _ _ _ _ _ _ _ _ _ _ _ _ _ _ _ _ _ _ _ _ _ _ _ _ _ _ _ _ _ _ _ _ _ _ _ _ _ _ _ _ _ _ _ _ _ _ _ _ _ _ _ _ _ _ _ _ _ _ _ _ _ _ _ _ _ _ _ _ _ _ _ _ _ _ _ _ _ _ _ _ _ _ _ _ _ _ _ _ _ _ _ _ _ _ _ _ _ _ _ _ _ ?hs
   case hr =>
    intro a9 W9 hd9 e8 e9 hne hB9 hMo
    refine ⟨hd9, _, res8 e8 e9 hB9, ?_⟩
    rw [M1.out hne]
    exact ⟨rfl, hMo⟩
   case hs =>
    intro a9 W9 h9
    go_step
    refine sw_re (by kernel_rfl) FX hn _ ?hbad ?hok _ _ _ _ _ _ _ _ _ _ _ _ _ _ _ _ _ _ _ _ _ _ _ _ _ _ _ _ _ _ _ _ _ _ _ _ _ _ _ _ _ _ _ _ _ _ _ _ _ _ _ _ _ _ _ _ _ _ _ _ _ _ _ _ _ _ _ _ _ _ _ _ _ _ _ _ _ _ _ _ _ _ _ _ _ _ _ _ _ _ _ _ _ _ _ _ _ _ _ _ _ h9
    case hbad =>
     intro he0 a9 W9 hd9 e8 e9 hno hB9 hMo
     refine ⟨hd9, _, res8 e8 e9 hB9, ?_⟩
     have : m9 = badM 7 FL := by
      cases ho : r.out
      ·exact M2.out he0 ho
      ·exact M3.out he0 ho (hno.resolve_left (by rw [ho]; exact Bool.noConfusion))
     rw [this]
     exact ⟨rfl, hMo⟩
    case hok =>
     intro he0 a9 W9 t9 ho9 hp9 hd9 e8 e9 hB9 hMo
     refine ⟨hd9, _, res8 e8 e9 hB9, ?_⟩
     rw [M9.out t9 he0 ho9 hp9]
     exact ⟨rfl, hMo⟩
section
variable {W W' : World} {m : Mp} {ds : List Dv} {ls : List Lk} {n n' N : Nat}
end
section
variable {w W W' : World} {m : Mp} {ds : List Dv} {ls : List Lk} {p : Pk} {v : Value} {acc : List Plc} {n n' : Nat} {t t' : Plc}
end
def slLen : Value -> Nat | .slice _ n _ => n | _ => 0
end Go.Proofs.YtppbfikimalojaaGreat
