/-
  StepPlays: the mind's Handle, its switch and what follows, as pieces of its code.
-/
import Derived.Test.YtgmjlkllghlmmaaGreatGF
import Derived.Deep.CutBlock
import Derived.Deep.DeepCutAuto
namespace Go.Proofs.YtgmjlkllghlmmaaGreat
open Go.RowKit Go.Maps

def fBlock : Code → Option Code
  | .block n c => some (.block n c)
  | .seq a b => match fBlock a with
    | some c => some c
    | none => fBlock b
  | .cond _ a b => match fBlock a with
    | some c => some c
    | none => fBlock b
  | .scope c => fBlock c
  | _ => none
def isReg (n : Nat) : Code → Bool
  | .region m _ _ => m == n
  | _ => false
def fFrom (n : Nat) : Code → Option Code
  | .seq a b => if isReg n a then some (.seq a b) else match fFrom n a with
    | some c => some c
    | none => fFrom n b
  | .cond _ a b => match fFrom n a with
    | some c => some c
    | none => fFrom n b
  | .block _ c => fFrom n c
  | .scope c => fFrom n c
  | _ => none
noncomputable def swCode : Code := ((Tryz.f8.body.bind fBlock).getD .skip)
noncomputable def QZ (R : Ending → World → Prop) : Exit → Act → World → Prop := bodyPost Tryz.prog Tryz.f8 R
noncomputable def reCode : Code := ((Tryz.f8.body.bind (fFrom 49)).getD .skip)
set_option maxRecDepth 1000000 in
def SwR (w : World) (g D Q : Nat) (kd : Int) (c1 c2 c3 c4 c21 c22 c23 c24 c25 c26 c27 c28 c29 c30 c31 c32 c33 c34 c35 c36 c37 c38 c39 c40 c41 c42 c43 c44 c45 c46 c47 c48 c49 c50 c51 c52 c53 c54 c55 c56 c57 c58 c59 c60 c61 c62 c63 c64 c65 c66 c67 c68 c69 c70 c252 c253 c254 c255 c256 c257 c258 c259 c260 c261 c262 c263 c264 c265 c266 c267 c268 c269 c270 c271 c272 c273 c274 c275 c276 c277 c278 c279 c280 c281 c282 c283 c284 c285 c286 c287 c288 c289 c290 c291 c292 c293 c294 c295 c296 c297 c298 : Value) (rel : Value → Value → Value → World → Prop) (a' : Act) (w' : World) : Prop := ∃ u11 u12 u14 u15 u16 u17 u18 u19 u20 u72 u73 u74 u75 u76 u77 u78 u79 u80 u81 u82 u83 u84 u85 u86 u87 u88 u89 u90 u91 u92 u93 u94 u95 u96 u97 u98 u99 u100 u101 u102 u103 u104 u105 u106 u107 u108 u109 u110 u111 u112 u113 u114 u115 u116 u117 u118 u119 u120 u121 u122 u123 u124 u125 u126 u127 u128 u129 u130 u131 u132 u133 u134 u135 u136 u137 u138 u139 u140 u141 u142 u143 u144 u145 u146 u147 u148 u149 u150 u151 u152 u153 u154 u155 u156 u157 u158 u159 u160 u161 u162 u163 u164 u165 u166 u167 u168 u169 u170 u171 u172 u173 u174 u175 u176 u177 u178 u179 u180 u181 u182 u183 u184 u185 u186 u187 u188 u189 u190 u191 u192 u193 u194 u195 u196 u197 u198 u199 u200 u201 u202 u203 u204 u205 u206 u207 u208 u209 u210 u211 u212 u213 u214 u215 u216 u217 u218 u219 u220 u221 u222 u223 u224 u225 u226 u227 u228 u229 u230 u231 u232 u233 u234 u235 u236 u237 u238 u239 u240 u241 u242 u243 u244 u245 u246 u247 u248 u249 u250 u251 : Value, rel u11 u12 u14 w' ∧ a' = ⟨#[.pointer (some ⟨g, 0, none⟩), c1, c2, c3, c4, .pointer (some ⟨w.heap.size, 0, none⟩), .pointer (some ⟨w.heap.size + 1, 0, none⟩), .pointer (some ⟨w.heap.size + 1 + 1, 0, none⟩), .pointer (some ⟨w.heap.size + 1 + 1 + 1, 0, none⟩), .int .i64 0, .pointer (some ⟨D, 0, none⟩), u11, u12, .pointer (some ⟨Q, 0, none⟩), u14, u15, u16, u17, u18, u19, u20, c21, c22, c23, c24, c25, c26, c27, c28, c29, c30, c31, c32, c33, c34, c35, c36, c37, c38, c39, c40, c41, c42, c43, c44, c45, c46, c47, c48, c49, c50, c51, c52, c53, c54, c55, c56, c57, c58, c59, c60, c61, c62, c63, c64, c65, c66, c67, c68, c69, c70, .int .i64 kd, u72, u73, u74, u75, u76, u77, u78, u79, u80, u81, u82, u83, u84, u85, u86, u87, u88, u89, u90, u91, u92, u93, u94, u95, u96, u97, u98, u99, u100, u101, u102, u103, u104, u105, u106, u107, u108, u109, u110, u111, u112, u113, u114, u115, u116, u117, u118, u119, u120, u121, u122, u123, u124, u125, u126, u127, u128, u129, u130, u131, u132, u133, u134, u135, u136, u137, u138, u139, u140, u141, u142, u143, u144, u145, u146, u147, u148, u149, u150, u151, u152, u153, u154, u155, u156, u157, u158, u159, u160, u161, u162, u163, u164, u165, u166, u167, u168, u169, u170, u171, u172, u173, u174, u175, u176, u177, u178, u179, u180, u181, u182, u183, u184, u185, u186, u187, u188, u189, u190, u191, u192, u193, u194, u195, u196, u197, u198, u199, u200, u201, u202, u203, u204, u205, u206, u207, u208, u209, u210, u211, u212, u213, u214, u215, u216, u217, u218, u219, u220, u221, u222, u223, u224, u225, u226, u227, u228, u229, u230, u231, u232, u233, u234, u235, u236, u237, u238, u239, u240, u241, u242, u243, u244, u245, u246, u247, u248, u249, u250, u251, c252, c253, c254, c255, c256, c257, c258, c259, c260, c261, c262, c263, c264, c265, c266, c267, c268, c269, c270, c271, c272, c273, c274, c275, c276, c277, c278, c279, c280, c281, c282, c283, c284, c285, c286, c287, c288, c289, c290, c291, c292, c293, c294, c295, c296, c297, c298], []⟩
/-- A return with an error out of the switch. -/
def Rets (w : World) (g : Nat) (A L : Option Addr) (c d : Nat) (F : Option Addr) (ds : List Dv) (ls : List Lk) (FL : List Ft) (r : MR) (QQ : Exit → Act → World → Prop) : Prop :=
  ∀ (a : Act) (W : World), a.defers = [] → a.eval (.tmp 8) = .pointer (some ⟨w.heap.size + 1 + 1 + 1, 0, none⟩) → a.eval (.tmp 9) = .int .i64 r.err → r.err ≠ 0 → Bk W (w.heap.size + 1 + 1 + 1) #[.int .i64 0, .int .i64 0, .int .i64 0, .int .i64 0, .int .i64 0, .int .i64 0] 43 → MOut w g A L c d F ds ls FL W → QQ .ret a W
theorem Bk.zero6 {W : World} {k : Nat} {t : TypeId} (h : Bk W k #[.int .i64 0, .int .i64 0, .int .i64 0, .int .i64 0, .int .i64 0, .int .i64 0] t) : Bk ((((((W.setCell ⟨k, 0, none⟩ (.int .i64 0)).setCell ⟨k, 1, none⟩ (.int .i64 0)).setCell ⟨k, 2, none⟩ (.int .i64 0)).setCell ⟨k, 3, none⟩ (.int .i64 0)).setCell ⟨k, 4, none⟩ (.int .i64 0)).setCell ⟨k, 5, none⟩ (.int .i64 0)) k #[.int .i64 0, .int .i64 0, .int .i64 0, .int .i64 0, .int .i64 0, .int .i64 0] t := (((((h.setS _).setS _).setS _).setS _).setS _).setS _
theorem res8 {a : Act} {W : World} {k : Nat} {c0 c1 c2 c3 c4 c5 : Int} {e : Int} (e8 : a.eval (.tmp 8) = .pointer (some ⟨k, 0, none⟩)) (e9 : a.eval (.tmp 9) = .int .i64 e) (hB : Bk W k #[.int .i64 c0, .int .i64 c1, .int .i64 c2, .int .i64 c3, .int .i64 c4, .int .i64 c5] 43) : (results Tryz.f8 a.tmps).run Tryz.prog W = .ok (.tuple #[.agg #[.int .i64 c0, .int .i64 c1, .int .i64 c2, .int .i64 c3, .int .i64 c4, .int .i64 c5], .int .i64 e]) W := by
  obtain ⟨⟨l0, l1, l2, l3, l4, l5⟩, _⟩ := hB.six
  obtain ⟨tm, df⟩ := a
  have e8' : tm[8]?.getD undef = .pointer (some ⟨k, 0, none⟩) := by simpa [Act.eval] using e8
  have e9' : tm[9]?.getD undef = .int .i64 e := by simpa [Act.eval] using e9
  simp [results, Tryz.results8, go_sem, e8', e9', l0, l1, l2, l3, l4, l5]
theorem hasB_pool {dv : Dv} {ch : Int} (h : poB ch = true) : hasB dv.pool ch = poolB dv ch := by
  unfold poolB
  rw [h]
  unfold poB at h
  simp only [Bool.and_eq_true, decide_eq_true_eq] at h
  unfold hasB
  simp only [Bool.true_and]
  first
    | (rw [show decide (0 ≤ ch) = true by simp; omega]; simp; done)
    | (simp; omega)
end Go.Proofs.YtgmjlkllghlmmaaGreat
