/-
  XAH.
-/
import Derived.Test.YtppbfikimalojaaGreatXAG
import Derived.Deep.DeepCutAuto
import Derived.BigQuiet
import Derived.Deep.RegionLaw
import Derived.Test.YtppbfikimalojaaGreatXAA
import Derived.Deep.WholeRow
import Derived.Deep.MidRow
import Derived.ChangeKeysEq
import Derived.Test.YtppbfikimalojaaGreatXAF
import Derived.Great.BuildSlice
import Derived.Deep.RegionHeld3
set_option maxHeartbeats 8000000
set_option maxRecDepth 100000
namespace Go.Proofs.YtppbfikimalojaaGreat
open Go.RowKit Go.Maps
structure Ws (bR R MR most : Nat) (nsR : List Nd) (w : World) (base q a M : Nat) (dv pv : Array Value) (g : Nat) (fs : List (Nat × (Env -> Bool))) (W : World) : Prop where
 bn : ∃ ns er, Bn base q a M W W ns er ∧ (∀ x ∈ fs, Fn ns er x.1 x.2) ∧ (er = 0 -> ns.length <= 2 + g) ∧ (er ≠ 0 -> 40000 <= 2 + g)
 ar : Ar bR R MR 14 most W nsR
 lt : R < w.heap.size ∧ MR < w.heap.size ∧ rowOf W R < w.heap.size ∧ w.heap.size + 1 < base
 dz : Bz W w.heap.size dv 56
 pz : Bz W (w.heap.size + 1) pv 87
 bel : Below w.heap.size w W
section
variable {bR R MR most base q a M : Nat} {nsR : List Nd} {w W W' : World} {dv pv : Array Value} {g g' : Nat} {fs : List (Nat × (Env -> Bool))}
end
section
variable {base q a M : Nat} {w0 w : World} {ns : List Nd} {er : Int}
end
section
variable {base q a M : Nat} {w0 w : World} {ns : List Nd} {er : Int}
end
section
variable {base q a M : Nat} {w0 w : World} {ns : List Nd} {er : Int}
end
theorem rules_ofD {base : Nat} {w : World} {v : Value} {xs : List NRule} (h : SlAt base w 5 IsRule v xs) : Rules base w v (xs.map fun r => ⟨r.ok, r.a, r.b, r.c, r.d, r.ha, r.hb, r.hc, r.hd⟩) := by
 obtain ⟨A, cap, rfl, h0, h1, h2, h3⟩ := h
 refine ⟨A, cap, by rw [List.length_map], h0, by rw [List.length_map]; exact h1, h2, fun hn => ?_⟩
 obtain ⟨b, o, ea, hl, hr⟩ := h3 (fun e => hn (by rw [e]; rfl))
 refine ⟨b, o, ea, hl, fun j u hj => ?_⟩
 have hjl := (List.getElem?_eq_some_iff.1 hj).1
 rw [cellsR_length, List.length_map] at hjl
 have hk : j / 5 < xs.length := by omega
 have hx : xs[j / 5]? = some xs[j / 5] := List.getElem?_eq_getElem hk
 obtain ⟨cs, _, rfl, hc⟩ := hr _ _ hx
 obtain ⟨c0, c1, c2, c3, c4⟩ := cellsR_at (xs.map fun r : NRule => (⟨r.ok, r.a, r.b, r.c, r.d, r.ha, r.hb, r.hc, r.hd⟩ : Rl)) (j / 5) _ (by rw [List.getElem?_map, hx]; rfl)
 have hm : j % 5 = 0 ∨ j % 5 = 1 ∨ j % 5 = 2 ∨ j % 5 = 3 ∨ j % 5 = 4 := by omega
 have eo : o + j = o + j / 5 * 5 + j % 5 := by omega
 rw [eo]
 rcases hm with hm | hm | hm | hm | hm
 ·rw [show j = j / 5 * 5 by omega, c0] at hj
  rw [hm, <- Option.some.inj hj]
  exact hc 0 _ rfl
 ·rw [show j = j / 5 * 5 + 1 by omega, c1] at hj
  rw [hm, <- Option.some.inj hj]
  exact hc 1 _ rfl
 ·rw [show j = j / 5 * 5 + 2 by omega, c2] at hj
  rw [hm, <- Option.some.inj hj]
  exact hc 2 _ rfl
 ·rw [show j = j / 5 * 5 + 3 by omega, c3] at hj
  rw [hm, <- Option.some.inj hj]
  exact hc 3 _ rfl
 ·rw [show j = j / 5 * 5 + 4 by omega, c4] at hj
  rw [hm, <- Option.some.inj hj]
  exact hc 4 _ rfl
def rulesD (d : Dv) : List Rl := d.rules.map fun r => ⟨r.ok, r.a, r.b, r.c, r.d, r.ha, r.hb, r.hc, r.hd⟩
def routesD (d : Dv) : List Rt := d.routes.map rtOf
theorem backs_in {bs : List Int} {ad : Int} : ∀ (m k : Nat), bs.length - k <= m -> backsFrom bs ad k ≠ 1 -> ∀ j x, k <= j -> bs[j]? = some x -> 0 <= x ∧ x < 16
 | 0, k, h, _, j, x, hj, hx => by
   have := (List.getElem?_eq_some_iff.1 hx).1
   omega
 | m + 1, k, h, h0, j, x, hj, hx => by
   have hjl := (List.getElem?_eq_some_iff.1 hx).1
   have hk : k < bs.length := by omega
   rw [backsFrom_at (List.getElem?_eq_getElem hk)] at h0
   split at h0
   ·rename_i hc
    by_cases e : j = k
    ·subst e
     rw [List.getElem?_eq_getElem hk] at hx
     obtain rfl := Option.some.inj hx
     simp only [Bool.and_eq_true, decide_eq_true_eq] at hc
     omega
    ·exact backs_in m (k + 1) (by omega) h0 j x (by omega) hx
   ·exact absurd rfl h0
theorem dev_right {d : Dv} (h : devC d = 0) : (1 <= d.kind ∧ d.kind <= 5) ∧ (0 <= d.addr ∧ d.addr < 16) ∧ (∀ x ∈ d.backs, 0 <= x ∧ x < 16) ∧ d.rules.length <= 8 ∧ checkV (routesD d) = 0 := by
 unfold devC devV at h
 split at h
 ·simp at h
 rename_i h1
 split at h
 ·simp at h
 rename_i h2
 split at h
 ·simp at h
 split at h
 ·simp at h
 split at h
 ·simp at h
 rename_i h5
 split at h
 ·simp at h
 split at h
 ·simp at h
 rename_i h8
 refine ⟨?_, ?_, fun x hx => ?_, by omega, h⟩
 ·simp at h1
  omega
 ·cases hk : hasAddr d.kind
  ·rw [hk] at h2
   simp at h2
   omega
  ·rw [hk] at h2
   simp at h2
   omega
 ·obtain ⟨j, hj, e⟩ := List.mem_iff_getElem.1 hx
  exact backs_in d.backs.length 0 (by omega) h5 j x (Nat.zero_le _) (by rw [List.getElem?_eq_getElem hj, e])
theorem andNot_u16 (z : Nat) : ∃ zc : Nat, zc < 65536 ∧ Go.bits .andNot .u16 65535 (z : Int) = (zc : Int) ∧ ∀ i, i < 16 -> zc.testBit i = !z.testBit i := by
 have e1 : BitVec.ofInt 16 (z : Int) = BitVec.ofNat 16 z := by simp
 refine ⟨(BitVec.ofNat 16 65535 &&& ~~~ BitVec.ofNat 16 z).toNat, BitVec.isLt _, ?_, fun i hi => ?_⟩
 ·show IntKind.u16.wrap (((BitVec.ofInt 16 65535 &&& ~~~ BitVec.ofInt 16 (z : Int)).toNat : Nat) : Int) = _
  have hlt := (BitVec.ofInt 16 65535 &&& ~~~ BitVec.ofInt 16 (z : Int)).isLt
  rw [IntWalk.u16_in _ ⟨by omega, by omega⟩, e1]
  rfl
 ·rw [BitVec.testBit_toNat, BitVec.getLsbD_and, BitVec.getLsbD_not, show BitVec.ofNat 16 65535 = BitVec.allOnes 16 by decide, BitVec.getLsbD_allOnes, BitVec.getLsbD_ofNat]
  simp [hi]
noncomputable def notN (z : Nat) : Nat := (andNot_u16 z).choose
noncomputable def sendF (d : Dv) (pt : Int) (φ0 φ1 φ2 φ3 : Env -> Bool) : Env -> Bool :=
 if d.kind = 2 then (fun x => (fun x => orP φ0 φ1 φ2 φ3 4 x && phi 65535 (sentN (routesD d) pt 16) 255 255 x) x && letsF (rulesD d) x)
 else if d.kind = 3 then (if pt = 1 then (fun x => φ0 x && letsF (rulesD d) x) else (fun x => φ1 x && flF (fun x => φ0 x && letsF (rulesD d) x) x))
 else if d.kind = 4 then (if pt = 1 then (fun x => anF (anF φ0 8 3) 0 4 x && (phi (setL [d.addr] 0) 65535 d.pool 255) x) else (fun x => anF (anF (fun x => φ1 x && (phi 65535 (setL [d.addr] 0) 255 d.pool) x) 11 3) 4 4 x && flF (anF (anF φ0 11 3) 4 4) x))
 else if d.kind = 5 then (if pt = 1 then (fun x => (fun x => φ0 x && phi 65535 (notN (setL [d.addr] 0)) 255 255 x) x || (fun x => anF (fun x => φ0 x && (phi 65535 (setL [d.addr] 0) 255 255) x) 4 4 x && (phi 65535 (setL d.backs 0) 255 255) x) x)
  else (fun x => φ1 x || (fun x => anF (fun x => φ1 x && (fun x => (phi (setL d.backs 0) 65535 255 255) x && flF (anF (fun x => φ0 x && (phi 65535 (setL [d.addr] 0) 255 255) x) 4 4) x) x) 0 4 x && (phi (setL [d.addr] 0) 65535 255 255) x) x))
 else (fun _ => false)
section
variable {base q a M : Nat} {w0 w : World} {ns : List Nd} {er : Int}
end
abbrev zeros40 : Array Value := #[.int .i64 0, .int .i64 0, .int .i64 0, .int .i64 0, .int .i64 0, .int .i64 0, .int .i64 0, .int .i64 0, .int .i64 0, .int .i64 0, .int .i64 0, .int .i64 0, .int .i64 0, .int .i64 0, .int .i64 0, .int .i64 0, .int .i64 0, .int .i64 0, .int .i64 0, .int .i64 0, .int .i64 0, .int .i64 0, .int .i64 0, .int .i64 0, .int .i64 0, .int .i64 0, .int .i64 0, .int .i64 0, .int .i64 0, .int .i64 0, .int .i64 0, .int .i64 0, .int .i64 0, .int .i64 0, .int .i64 0, .int .i64 0, .int .i64 0, .int .i64 0, .int .i64 0, .int .i64 0]
section
variable {bR R MR most : Nat} {nsR : List Nd} {w : World}
end
structure Gs (bR R MR most : Nat) (nsR : List Nd) (w : World) (u0 u1 : Value) (cw cn nx : Array Value) (ns : List Nd) (W : World) : Prop where
 ar : Ar bR R MR 14 most W ns
 ext : Ext nsR ns
 kp : Kp (ca bR R MR 14 most) w W
 bN : Bz W w.heap.size #[u0, u1] 25
 bw : Bz W (w.heap.size + 1) cw 89
 bo : Bz W (w.heap.size + 1 + 1) cn 89
 bz : Bz W (w.heap.size + 1 + 1 + 1) zeros40 89
 bx : Bz W (w.heap.size + 1 + 1 + 1 + 1) nx 89
section
variable {bR R MR most : Nat} {nsR ns ns' : List Nd} {w W W' : World} {u0 u1 : Value} {cw cn nx : Array Value}
end
def SentBy (ds : List Dv) (ls : List Lk) (skip : Nat -> Prop) (F : Nat -> Nat -> Env -> Bool) (i q : Nat) (t : Int × Int) (x : Env) : Prop :=
 ∃ (i' q' : Nat) (d : Dv), (i' < i ∨ (i' = i ∧ q' < q)) ∧ ¬ skip i' ∧ ds[i']? = some d ∧ (q' : Int) < portsV d.kind ∧ peerF ls i' q' = some t ∧ sendF d q' (F i' 0) (F i' 1) (F i' 2) (F i' 3) x = true
structure GInv (ds : List Dv) (ls : List Lk) (skip : Nat -> Prop) (F : Nat -> Nat -> Env -> Bool) (i q : Nat) (ns : List Nd) (sx : Nat -> Nat -> Nat) : Prop where
 lt : ∀ a b, a < 10 -> b < 4 -> sx a b < ns.length
 fn : ∀ a b, a < 10 -> b < 4 -> ∀ x, (ev ns (sx a b) x = true ↔ F a b x = true ∨ SentBy ds ls skip F i q ((a : Int), (b : Int)) x)
section
variable {ds : List Dv} {ls : List Lk} {skip : Nat -> Prop} {F : Nat -> Nat -> Env -> Bool} {i q : Nat} {ns ns' : List Nd} {sx : Nat -> Nat -> Nat}
end
section
variable {bR R MR most : Nat} {nsR : List Nd} {w : World}
theorem peer_pl {ds : List Dv} {ls : List Lk} (hz : netV ds ls = 0) {i q : Int} {t : Int × Int} (h : peerF ls i q = some t) : ∃ a b : Nat, t = ((a : Int), (b : Int)) ∧ a < 10 ∧ b < 4 := by
 obtain ⟨l, hl, he⟩ := peerF_of h
 obtain ⟨h10, _, _, hp⟩ := netV_links hz
 have hpl : isPl ds t.1 t.2 = true := by
  rcases endOf_ends he with ⟨_, rfl⟩ | ⟨_, rfl⟩
  ·exact (hp l hl).2
  ·exact (hp l hl).1
 unfold isPl at hpl
 simp only [Bool.and_eq_true, decide_eq_true_eq] at hpl
 have hb : portsV (kindAt ds t.1) <= 4 := by
  unfold portsV
  split
  ·omega
  split
  ·omega
  split <;> omega
 exact ⟨t.1.toNat, t.2.toNat, Prod.ext (by simp; omega) (by simp; omega), by omega, by omega⟩
theorem setRow_heap' (W : World) (g : Nat) (c c' : Array Value) (t : TypeId) (h : Bz W g c t) (i : Nat) : (W.setRow g c').heap[i]? = if g = i then some (.cells c' t (0, 0)) else W.heap[i]? := by
 simp only [World.setRow]
 rw [Array.getElem?_modify]
 by_cases e : g = i
 ·subst e
  unfold Bz at h
  rw [if_pos rfl, if_pos rfl, h]
  rfl
 ·rw [if_neg e, if_neg e]
end
def MemoN (vars : Nat) (ns : List Nd) (m : Nat -> Option Nat) : Prop := ∀ f c, m f = some c -> c = cn vars ns f
theorem MemoN.upd {vars : Nat} {ns : List Nd} {m : Nat -> Option Nat} (h : MemoN vars ns m) (f : Nat) : MemoN vars ns (upd m f (cn vars ns f)) := by
 intro d c hc
 unfold YtppbfikimalojaaGreat.upd at hc
 by_cases e : d = f
 ·subst e
  rw [if_pos rfl] at hc
  cases hc
  rfl
 ·rw [if_neg e] at hc
  exact h d c hc
def CountPost (vars : Nat) (w : World) (ns : List Nd) (K n g r : Nat) (e : Ending) (w' : World) : Prop :=
 ∃ n' mk', e = .returned (.int .i64 (r : Int)) ∧ w.grownBy w' (some K) ∧ MapIs intE w' K n' mk' ∧ MemoN vars ns mk' ∧ n' <= n + g
section
variable {base a M vars most : Nat} {w w' : World} {ns : List Nd} {K n : Nat} {mk : Nat -> Option Nat}
theorem Ar.grownK (h : Ar base a M vars most w ns) (hm : MapIs intE w K n mk) (hKM : K ≠ M) (hg : w.grownBy w' (some K)) : Ar base a M vars most w' ns ∧ rowOf w' a = rowOf w a := by
 obtain ⟨es, clock, hb⟩ := hm.isMap
 obtain ⟨g, cap, cs, t, hba, _⟩ := h.blk
 obtain ⟨cur, hr, _, rl⟩ := h.row
 have k1 : a ≠ K := fun e => by rw [<- e, hba] at hb; simp at hb
 have k2 : rowOf w a ≠ K := fun e => by rw [<- e, hr] at hb; simp at hb
 have b1 := hg.block a h.lta (by simpa using k1)
 exact ⟨h.same b1 (hg.block M h.ltM (by simpa using hKM.symm)) (hg.block _ rl (by simpa using k2)), rowOf_same b1⟩
theorem countBelow_of (h : Ar base a M vars most w ns) (hm : MapIs intE w K n mk) (hmn : MemoN vars ns mk) {f v k : Nat} (hf : f < ns.length) (hv : v < nv ns f) (hN : n + 2 ^ k <= 1099511627776)
  (hc : Hq (∀ w n mk, Ar base a M vars most w ns -> MapIs intE w K n mk -> MemoN vars ns mk -> n + 2 ^ k <= 1099511627776 -> Calls Tryz.prog 89 #[.pointer (some ⟨a, 0, none⟩), .int .i64 (f : Int), .map (some K)] w (CountPost vars w ns K n (2 ^ k - 1) (cn vars ns f)))) :
  Calls Tryz.prog 139 #[.pointer (some ⟨a, 0, none⟩), .int .i64 (f : Int), .int .i64 (v : Int), .map (some K)] w (CountPost vars w ns K n (2 ^ k - 1) (cn vars ns f * 2 ^ (nv ns f - v - 1))) := by
 have hA : Ar base a M vars most w.drew ns := h.same rfl rfl rfl
 have hmd : MapIs intE w.drew K n mk := hm.same rfl
 have v16 := h.vars16
 have wf := h.wf
 have hva := va_le wf hf
 have hcl := cn_le (vars := vars) (ns := ns) f
 have hl : ns.length <= 40000 := Nat.le_trans h.le h.most4
 have hwr : IntKind.i64.wrap ((cn vars ns f : Int) * 2 ^ (nv ns f - v - 1)) = ((cn vars ns f * 2 ^ (nv ns f - v - 1) : Nat) : Int) := by
  have p1 : cn vars ns f * 2 ^ (nv ns f - v - 1) <= 2 ^ (vars - nv ns f) * 2 ^ (nv ns f - v - 1) := Nat.mul_le_mul_right _ hcl
  rw [<- Nat.pow_add] at p1
  have p2 : 2 ^ (vars - nv ns f + (nv ns f - v - 1)) <= 2 ^ 16 := Nat.pow_le_pow_right (by omega) (by omega)
  have e : (cn vars ns f : Int) * 2 ^ (nv ns f - v - 1) = ((cn vars ns f * 2 ^ (nv ns f - v - 1) : Nat) : Int) := by simp
  rw [e, IntWalk.i64_in _ (by omega)]
 have wr1 : IntKind.i64.wrap ((nv ns f : Int) - (v : Int)) = (nv ns f : Int) - (v : Int) := IntWalk.i64_in _ (by omega)
 have wr2 : IntKind.i64.wrap ((nv ns f : Int) - (v : Int) - 1) = (nv ns f : Int) - (v : Int) - 1 := IntWalk.i64_in _ (by omega)
 obtain ⟨cap, a0, a1, a2, a3, af, an⟩ := h.reads
 obtain ⟨n0, n1, n2⟩ := an f hf
 have hkeep : ∀ n1 mk1 w1, w.drew.grownBy w1 (some K) -> MapIs intE w1 K n1 mk1 -> w1.cell? ⟨a, 2, none⟩ = some (.slice (some ⟨rowOf w a, 0, none⟩) ns.length cap) ∧ w1.cell? ⟨rowOf w a, f * 3, none⟩ = some (.int .i64 (nv ns f : Int)) := fun n1 mk1 w1 hg hm1 => by
  obtain ⟨es, clock, hb⟩ := hm.isMap
  obtain ⟨g, cap', cs, t, hba, _⟩ := h.blk
  obtain ⟨cur, hr, _, rl⟩ := h.row
  have k1 : a ≠ K := fun e => by rw [<- e, hba] at hb; simp at hb
  have k2 : rowOf w a ≠ K := fun e => by rw [<- e, hr] at hb; simp at hb
  exact ⟨(hg.cell_far ⟨a, 2, none⟩ h.lta (by simpa using k1)).trans a2, (hg.cell_far ⟨rowOf w a, f * 3, none⟩ rl (by simpa using k2)).trans n0⟩
 have hwr' := Hq.mk hwr
 clear h an hm hwr
 generalize rowOf w a = g at *
 go_enter Tryz.func139, Tryz.ntmps139
 go_wp2_with fail
 go_region_held3 (fun w' => w'.cell? ⟨a, 2, none⟩ = some (.slice (some ⟨g, 0, none⟩) ns.length cap) ∧ w'.cell? ⟨g, f * 3, none⟩ = some (.int .i64 (nv ns f : Int))) (go_keep)
  (first | (go_at_call 89; refine (hc.out _ n mk hA hmd hmn hN).mono ?_; rintro e w1 ⟨n', mk', rfl, hg, hM, hmm, hn⟩; obtain ⟨q1, q2⟩ := hkeep _ _ _ hg hM))
 have hfin : CountPost vars w ns K n (2 ^ k - 1) (cn vars ns f * 2 ^ (nv ns f - v - 1)) (.returned (.int .i64 (IntKind.i64.wrap ((cn vars ns f : Int) * 2 ^ (nv ns f - v - 1))))) w1 := ⟨n', mk', by rw [hwr'.out], ⟨hg.os, hg.tape, hg.output, hg.size, hg.block⟩, hM, hmm, hn⟩
 go_wp2_with fail
 go_ret
 exact hfin
theorem count_small (w : World) (K : Nat) {f : Nat} (hf : f <= 1) : Calls Tryz.prog 89 #[.pointer (some ⟨a, 0, none⟩), .int .i64 (f : Int), .map (some K)] w fun e w' => e = .returned (.int .i64 (f : Int)) ∧ w' = w := by
 have t1 : decide ((f : Int) <= 1) = true := by simp; omega
 go_enter Tryz.func89, Tryz.ntmps89
 go_wp2_with fail
 go_ret
 exact ⟨rfl, rfl⟩
theorem count_hit (hm : MapIs intE w K n mk) {f c : Nat} (f2 : 2 <= f) (hf : f < 9223372036854775808) (hc : mk f = some c) :
  Calls Tryz.prog 89 #[.pointer (some ⟨a, 0, none⟩), .int .i64 (f : Int), .map (some K)] w fun e w' => e = .returned (.int .i64 (c : Int)) ∧ w' = w := by
 have t1 : decide ((f : Int) <= 1) = false := by simp; omega
 have hlook := hm.look Tryz.u47 (x := f) hf
 rw [hc] at hlook
 simp only [intE, Option.getD_some, Option.isSome_some] at hlook
 clear hm
 go_enter Tryz.func89, Tryz.ntmps89
 go_wp2_with fail
 go_ret
 exact ⟨rfl, rfl⟩
theorem count_miss (h : Ar base a M vars most w ns) (hm : MapIs intE w K n mk) (hKM : K ≠ M) (hmn : MemoN vars ns mk) {f k : Nat} (f2 : 2 <= f) (hf : f < ns.length) (hr : mk f = none) (hk : vars <= nv ns f + (k + 1)) (hN : n + 2 ^ (k + 1) <= 1099511627776)
  (ih : Hq (∀ w n mk f, Ar base a M vars most w ns -> MapIs intE w K n mk -> MemoN vars ns mk -> f < ns.length -> vars <= nv ns f + k -> n + 2 ^ k <= 1099511627776 -> Calls Tryz.prog 89 #[.pointer (some ⟨a, 0, none⟩), .int .i64 (f : Int), .map (some K)] w (CountPost vars w ns K n (2 ^ k - 1) (cn vars ns f)))) :
  Calls Tryz.prog 89 #[.pointer (some ⟨a, 0, none⟩), .int .i64 (f : Int), .map (some K)] w (CountPost vars w ns K n (2 ^ (k + 1) - 1) (cn vars ns f)) := by
 have wf := h.wf
 have v16 := h.vars16
 have hv := wf.va f f2 hf
 have l1 := wf.lo f f2 hf
 have l2 := wf.hi f f2 hf
 have v1 := wf.vlo f f2 hf
 have v2 := wf.vhi f f2 hf
 have hl : ns.length <= 40000 := Nat.le_trans h.le h.most4
 have hp2 : 2 ^ (k + 1) = 2 * 2 ^ k := by rw [Nat.pow_succ]; omega
 have hp1 : 1 <= 2 ^ k := Nat.one_le_two_pow
 have t1 : decide ((f : Int) <= 1) = false := by simp; omega
 have hlook := hm.look Tryz.u47 (x := f) (by show f < _; omega)
 rw [hr] at hlook
 simp only [intE, Option.getD_none, Option.isSome_none] at hlook
 obtain ⟨cap, a0, a1, a2, a3, af, an⟩ := h.reads
 obtain ⟨n0, n1, n2⟩ := an f hf
 have lK := hm.lt
 have hcn := cn_node wf f2 hf
 have hle := cn_le (vars := vars) (ns := ns) f
 have hle2 : cn vars ns f <= 65536 := Nat.le_trans hle (by have : 2 ^ (vars - nv ns f) <= 2 ^ 16 := Nat.pow_le_pow_right (by omega) (by omega); omega)
 -- the two halves, and what they leave
 have hA0 : Ar base a M vars most (w.alloc (.cells #[.int .i64 (nv ns f : Int), .int .i64 (nl ns f : Int), .int .i64 (nh ns f : Int)] 143)).drew ns := (h.alloc _).same rfl rfl rfl
 have hm0 : MapIs intE (w.alloc (.cells #[.int .i64 (nv ns f : Int), .int .i64 (nl ns f : Int), .int .i64 (nh ns f : Int)] 143)).drew K n mk := hm.same (Below.heap_alloc w _ K lK)
 have low : Hq (Calls Tryz.prog 139 #[.pointer (some ⟨a, 0, none⟩), .int .i64 (nl ns f : Int), .int .i64 (nv ns f : Int), .map (some K)] (w.alloc (.cells #[.int .i64 (nv ns f : Int), .int .i64 (nl ns f : Int), .int .i64 (nh ns f : Int)] 143)).drew
   (CountPost vars (w.alloc (.cells #[.int .i64 (nv ns f : Int), .int .i64 (nl ns f : Int), .int .i64 (nh ns f : Int)] 143)).drew ns K n (2 ^ k - 1) (cn vars ns (nl ns f) * 2 ^ (nv ns (nl ns f) - nv ns f - 1)))) :=
  ⟨countBelow_of hA0 hm0 hmn (by omega) v1 (by omega) ⟨fun w n mk q1 q2 q3 q4 => ih.out w n mk _ q1 q2 q3 (by omega) (by omega) q4⟩⟩
 have high : Hq (∀ (n' : Nat) (mk' : Nat -> Option Nat) (w1 : World), (w.alloc (.cells #[.int .i64 (nv ns f : Int), .int .i64 (nl ns f : Int), .int .i64 (nh ns f : Int)] 143)).drew.grownBy w1 (some K) -> MapIs intE w1 K n' mk' -> MemoN vars ns mk' -> n' <= n + (2 ^ k - 1) ->
   (w1.cell? ⟨w.heap.size, 0, none⟩ = some (.int .i64 (nv ns f : Int)) ∧ w1.cell? ⟨w.heap.size, 1, none⟩ = some (.int .i64 (nl ns f : Int)) ∧ w1.cell? ⟨w.heap.size, 2, none⟩ = some (.int .i64 (nh ns f : Int))) ∧
   Calls Tryz.prog 139 #[.pointer (some ⟨a, 0, none⟩), .int .i64 (nh ns f : Int), .int .i64 (nv ns f : Int), .map (some K)] w1 (CountPost vars w1 ns K n' (2 ^ k - 1) (cn vars ns (nh ns f) * 2 ^ (nv ns (nh ns f) - nv ns f - 1)))) :=
  ⟨fun n' mk' w1 hg hm1 hmm hn => by
   have hne : some w.heap.size ≠ some K := by simp; omega
   refine ⟨⟨?_, ?_, ?_⟩, countBelow_of (hA0.grownK hm0 hKM hg).1 hm1 hmm (by omega) v2 (by omega) ⟨fun w n mk q1 q2 q3 q4 => ih.out w n mk _ q1 q2 q3 (by omega) (by omega) q4⟩⟩
   ·rw [hg.cell_far ⟨w.heap.size, 0, none⟩ (by simp) hne]; simp
   ·rw [hg.cell_far ⟨w.heap.size, 1, none⟩ (by simp) hne]; simp
   ·rw [hg.cell_far ⟨w.heap.size, 2, none⟩ (by simp) hne]; simp⟩
 have keep2 : Hq (∀ w1 w2 : World, w1.grownBy w2 (some K) -> w.heap.size < w1.heap.size -> (w1.cell? ⟨w.heap.size, 0, none⟩ = some (.int .i64 (nv ns f : Int)) ∧ w1.cell? ⟨w.heap.size, 1, none⟩ = some (.int .i64 (nl ns f : Int)) ∧ w1.cell? ⟨w.heap.size, 2, none⟩ = some (.int .i64 (nh ns f : Int))) ->
   (w2.cell? ⟨w.heap.size, 0, none⟩ = some (.int .i64 (nv ns f : Int)) ∧ w2.cell? ⟨w.heap.size, 1, none⟩ = some (.int .i64 (nl ns f : Int)) ∧ w2.cell? ⟨w.heap.size, 2, none⟩ = some (.int .i64 (nh ns f : Int)))) :=
  ⟨fun w1 w2 hg hs ⟨c0, c1, c2⟩ => by
   have hne : some w.heap.size ≠ some K := by simp; omega
   exact ⟨(hg.cell_far ⟨w.heap.size, 0, none⟩ hs hne).trans c0, (hg.cell_far ⟨w.heap.size, 1, none⟩ hs hne).trans c1, (hg.cell_far ⟨w.heap.size, 2, none⟩ hs hne).trans c2⟩⟩
 generalize hcl : cn vars ns (nl ns f) * 2 ^ (nv ns (nl ns f) - nv ns f - 1) = xl at *
 generalize hch : cn vars ns (nh ns f) * 2 ^ (nv ns (nh ns f) - nv ns f - 1) = xh at *
 have wr : IntKind.i64.wrap ((xl : Int) + (xh : Int)) = (xl : Int) + (xh : Int) := IntWalk.i64_in _ (by omega)
 have hcn' := Hq.mk hcn
 clear h an hm hcn
 generalize rowOf w a = g at *
 go_enter Tryz.func89, Tryz.ntmps89
 go_wp2_with fail
 go_cut [10] (fun v wx => v = .int .i64 ((cn vars ns f : Nat) : Int) ∧ ∃ n2 mk2, w.grownBy wx (some K) ∧ MapIs intE wx K n2 mk2 ∧ MemoN vars ns mk2 ∧ n2 <= n + (2 ^ k - 1) + (2 ^ k - 1))
 case first =>
  go_region_held3 (fun w' => w'.cell? ⟨w.heap.size, 0, none⟩ = some (.int .i64 (nv ns f : Int)) ∧ w'.cell? ⟨w.heap.size, 1, none⟩ = some (.int .i64 (nl ns f : Int)) ∧ w'.cell? ⟨w.heap.size, 2, none⟩ = some (.int .i64 (nh ns f : Int))) (first | go_keep | exact ⟨by assumption, by assumption, by assumption⟩)
   (first
     | (go_at_call_of 139 (Value.int .i64 (nl ns f : Int)); refine low.out.mono ?_; rintro e w1 ⟨n', mk', rfl, hg1, hM1, hmm1, hn1⟩; obtain ⟨⟨c0, c1, c2⟩, hcall⟩ := high.out _ _ _ hg1 hM1 hmm1 hn1; have hcall' := Hq.mk hcall; clear hcall)
     | (go_at_call_of 139 (Value.int .i64 (nh ns f : Int)); refine hcall'.out.mono ?_; rintro e w2 ⟨n'', mk'', rfl, hg2, hM2, hmm2, hn2⟩; obtain ⟨d0, d1, d2⟩ := keep2.out _ _ hg2 (Nat.lt_of_lt_of_le (by simp) hg1.size) ⟨c0, c1, c2⟩))
  go_wp2_with fail
  go_meet
  exact ⟨by rw [show ((cn vars ns f : Nat) : Int) = (xl : Int) + (xh : Int) by have := hcn'.out; omega], n'', mk'', (World.grownBy_alloc w _ (some K)).trans (World.grownBy.trans ⟨hg1.os, hg1.tape, hg1.output, hg1.size, hg1.block⟩ hg2), hM2, hmm2, by omega⟩
 case rest =>
  obtain ⟨rfl, n2, mk2, hg, hM, hmm, hn⟩ := hcut
  obtain ⟨w8, hrun, hM8, hg8⟩ := hM.store Tryz.u47 (by unfold maxLen; omega) (x := f) (by show f < _; omega) (v := cn vars ns f) (by omega)
  simp only [intE] at hrun
  have hfin : CountPost vars w ns K n (2 ^ (k + 1) - 1) (cn vars ns f) (.returned (.int .i64 ((cn vars ns f : Nat) : Int))) w8 := ⟨n2 + 1, _, rfl, hg.trans hg8, hM8, hmm.upd f, by omega⟩
  clear hM hM8
  go_wp2_with fail
  go_ret
  exact hfin
theorem count_any (hKM : K ≠ M) : ∀ (k : Nat) (w : World) (n : Nat) (mk : Nat -> Option Nat) (f : Nat), Ar base a M vars most w ns -> MapIs intE w K n mk -> MemoN vars ns mk -> f < ns.length -> vars <= nv ns f + k -> n + 2 ^ k <= 1099511627776 ->
  Calls Tryz.prog 89 #[.pointer (some ⟨a, 0, none⟩), .int .i64 (f : Int), .map (some K)] w (CountPost vars w ns K n (2 ^ k - 1) (cn vars ns f)) := by
 intro k
 have small : ∀ (w : World) (n g : Nat) (mk : Nat -> Option Nat) (f : Nat), Ar base a M vars most w ns -> MapIs intE w K n mk -> MemoN vars ns mk -> f <= 1 -> Calls Tryz.prog 89 #[.pointer (some ⟨a, 0, none⟩), .int .i64 (f : Int), .map (some K)] w (CountPost vars w ns K n g (cn vars ns f)) := by
  intro w n g mk f h hm hmn h1
  refine (count_small w K h1).mono ?_
  rintro e w' ⟨rfl, rfl⟩
  refine ⟨n, mk, ?_, ⟨rfl, rfl, rfl, Nat.le_refl _, fun _ _ _ => rfl⟩, hm, hmn, by omega⟩
  match f, h1 with
  | 0, _ => rw [cn_0 h.wf]
  | 1, _ => rw [cn_1 h.wf]
  | f + 2, h1 => omega
 induction k with
 | zero =>
   intro w n mk f h hm hmn hf hk hN
   refine small w n _ mk f h hm hmn ?_
   by_cases f2 : 2 <= f
   ·have := h.wf.va f f2 hf; omega
   ·omega
 | succ k ih =>
   intro w n mk f h hm hmn hf hk hN
   by_cases f2 : 2 <= f
   ·cases hr : mk f with
    | none => exact count_miss h hm hKM hmn f2 hf hr hk hN ⟨ih⟩
    | some c =>
      have hl : ns.length <= 40000 := Nat.le_trans h.le h.most4
      refine (count_hit hm f2 (by omega) hr).mono ?_
      rintro e w' ⟨rfl, rfl⟩
      exact ⟨n, mk, by rw [hmn f c hr], ⟨rfl, rfl, rfl, Nat.le_refl _, fun _ _ _ => rfl⟩, hm, hmn, by omega⟩
   ·exact small w n _ mk f h hm hmn (by omega)
end
section
variable {base a M vars most : Nat} {w : World} {ns : List Nd}
end
section
variable {base a M vars most : Nat} {w : World} {ns : List Nd}
end
def APost (base a M most : Nat) (w : World) (ns : List Nd) (φ : Env -> Bool) (e : Ending) (w' : World) : Prop :=
 ∃ (ns' : List Nd) (v er : Int), e = .returned (.tuple #[.int .i64 v, .int .i64 er]) ∧ Ar base a M 14 most w' ns' ∧ Kp (ca base a M 14 most) w w' ∧ Ext ns ns' ∧ Hid ((er = 0 ∧ ∃ f : Nat, v = (f : Int) ∧ f < ns'.length ∧ ∀ x, ev ns' f x = φ x) ∨ (er = 6 ∧ v = 0))
section
variable {base a M most g i : Nat} {w w' : World} {ns : List Nd} {φ ψ : Env -> Bool} {e : Ending}
theorem OpPost.ap (h : OpPost base a M 14 most w ns g φ e w') : APost base a M most w ns φ e w' := by
 obtain ⟨ns', h1, h2, h3, _, ⟨f, rfl, h5, h6⟩ | ⟨rfl, _⟩⟩ := h
 ·exact ⟨ns', _, _, rfl, h1, h2, h3, Or.inl ⟨rfl, f, rfl, h5, h6⟩⟩
 ·exact ⟨ns', _, _, rfl, h1, h2, h3, Or.inr ⟨rfl, rfl⟩⟩
theorem MkPost.ap (h : MkPost base a M 14 most w ns g i φ e w') : APost base a M most w ns φ e w' := by
 obtain ⟨ns', h1, h2, h3, _, ⟨f, rfl, h5, _, h6⟩ | ⟨rfl, _⟩⟩ := h
 ·exact ⟨ns', _, _, rfl, h1, h2, h3, Or.inl ⟨rfl, f, rfl, h5, h6⟩⟩
 ·exact ⟨ns', _, _, rfl, h1, h2, h3, Or.inr ⟨rfl, rfl⟩⟩
theorem BPost.ap {xs : List Rl} (h : BPost True base a M w ns xs e w') : APost base a M 40000 w ns (letsF xs) e w' := by
 obtain ⟨ns', h1, h2, h3, ⟨f, rfl, h5, h6⟩ | ⟨rfl, _⟩⟩ := h
 ·exact ⟨ns', _, _, rfl, h1, h2, h3, Or.inl ⟨rfl, f, rfl, h5, h6⟩⟩
 ·exact ⟨ns', _, _, rfl, h1, h2, h3, Or.inr ⟨rfl, rfl⟩⟩
theorem APost.of (h : APost base a M most w ns φ e w') (hq : ∀ x, φ x = ψ x) : APost base a M most w ns ψ e w' := by
 obtain ⟨ns', v, er, h1, h2, h3, h4, h5⟩ := h
 refine ⟨ns', v, er, h1, h2, h3, h4, ?_⟩
 rcases h5.out with ⟨a1, f, a2, a3, a4⟩ | h
 ·exact Or.inl ⟨a1, f, a2, a3, fun x => (a4 x).trans (hq x)⟩
 ·exact Or.inr h
end
section
variable {base a M vars most : Nat} {w : World} {ns : List Nd}
theorem count_a (h : Ar base a M vars most w ns) {f : Nat} (hf : f < ns.length) :
  Calls Tryz.prog 49 #[.pointer (some ⟨a, 0, none⟩), .int .i64 (f : Int)] w fun e w' => e = .returned (.tuple #[.int .i64 ((cn vars ns f * 2 ^ nv ns f : Nat) : Int), .int .i64 0]) ∧ Below w.heap.size w w' := by
 have hmm := @run_makeMap Tryz.prog
 have la := h.lta
 have lM := h.ltM
 have v16 := h.vars16
 have wf := h.wf
 have hva := va_le wf hf
 have hcl := cn_le (vars := vars) (ns := ns) f
 have hl : ns.length <= 40000 := Nat.le_trans h.le h.most4
 have hA : Ar base a M vars most (w.alloc (.map #[] 0)).drew ns := (h.alloc _).same rfl rfl rfl
 have hm : MapIs intE (w.alloc (.map #[] 0)).drew w.heap.size 0 (fun _ => none) := (mapIs_made intE w).same rfl
 have hpw : 2 ^ vars <= 2 ^ 16 := Nat.pow_le_pow_right (by omega) v16
 have hc := Hq.mk (count_any (base := base) (a := a) (most := most) (ns := ns) (M := M) (K := w.heap.size) (by omega) vars _ 0 _ f hA hm (fun _ _ e => by cases e) hf (Nat.le_add_left _ _) (by omega))
 have hwr : IntKind.i64.wrap ((cn vars ns f : Int) * 2 ^ nv ns f) = ((cn vars ns f * 2 ^ nv ns f : Nat) : Int) := by
  have p1 : cn vars ns f * 2 ^ nv ns f <= 2 ^ (vars - nv ns f) * 2 ^ nv ns f := Nat.mul_le_mul_right _ hcl
  rw [<- Nat.pow_add, show vars - nv ns f + nv ns f = vars by omega] at p1
  have e : (cn vars ns f : Int) * 2 ^ nv ns f = ((cn vars ns f * 2 ^ nv ns f : Nat) : Int) := by simp
  rw [e, IntWalk.i64_in _ (by omega)]
 have hwr' := Hq.mk hwr
 have t1 : (decide ((0 : Int) <= (f : Int)) && decide ((f : Int) < (ns.length : Int))) = true := by simp; omega
 have hkeep : ∀ w1 : World, (w.alloc (.map #[] 0)).drew.grownBy w1 (some w.heap.size) -> Below w.heap.size w w1 := fun w1 hg => by
  refine ⟨hg.os, hg.tape, hg.output, ?_, fun i hi => ?_⟩
  ·have := hg.size; simp only [heap_drew, World.size_alloc] at this; omega
  ·rw [hg.block i (by simp; omega) (by simp; omega), heap_drew, Below.heap_alloc _ _ _ hi]
 obtain ⟨cap, a0, a1, a2, a3, af, an⟩ := h.reads
 obtain ⟨n0, n1, n2⟩ := an f hf
 have hcell : ∀ w1 : World, (w.alloc (.map #[] 0)).drew.grownBy w1 (some w.heap.size) -> w1.cell? ⟨a, 2, none⟩ = some (.slice (some ⟨rowOf w a, 0, none⟩) ns.length cap) ∧ w1.cell? ⟨rowOf w a, f * 3, none⟩ = some (.int .i64 (nv ns f : Int)) := fun w1 hg => by
  obtain ⟨_, _, _, rl⟩ := h.row
  refine ⟨?_, ?_⟩
  ·rw [hg.cell_far ⟨a, 2, none⟩ (by simp; omega) (by simp; omega)]
   simp [*, World.cell?_alloc_some]
  ·rw [hg.cell_far ⟨rowOf w a, f * 3, none⟩ (by simp; omega) (by simp; omega)]
   simp [*, World.cell?_alloc_some]
 have hch := Hq.mk hkeep
 have rl : rowOf w a < w.heap.size := by obtain ⟨_, _, _, rl⟩ := h.row; exact rl
 clear an hm hwr hA hkeep
 generalize rowOf w a = g at *
 go_enter Tryz.func49, Tryz.ntmps49
 go_wp2_with (go_at_call 82; refine (hasFunction_any h (f : Int)).mono ?_; rintro e w' ⟨rfl, rfl⟩; rw [t1])
 go_region_held3 (fun w1 => w1.cell? ⟨a, 2, none⟩ = some (.slice (some ⟨g, 0, none⟩) ns.length cap) ∧ w1.cell? ⟨g, f * 3, none⟩ = some (.int .i64 (nv ns f : Int))) (go_keep)
  (first | (go_at_call 89; refine hc.out.mono ?_; rintro e w1 ⟨n', mk', rfl, hg, hM, hmm, hn⟩; obtain ⟨q1, q2⟩ := hcell _ hg))
 have r2 := hch.out _ hg
 go_wp2_with fail
 go_ret2
 refine ⟨?_, r2⟩
 rw [<- hwr'.out]
 rfl
end
theorem narena_any (w : World) : Calls Tryz.prog 140 #[] w fun e w' => ∃ a M, e = .returned (.tuple #[.pointer (some ⟨a, 0, none⟩), .int .i64 0]) ∧ Hid (Ar w.heap.size a M 14 40000 w' [(14, 0, 0), (14, 1, 1)] ∧ Below w.heap.size w w') := by
 have NW : Hid (Calls Tryz.prog 30 #[.int .i64 14, .int .i64 40000] w fun e w' => ∃ a M, e = .returned (.tuple #[.pointer (some ⟨a, 0, none⟩), .int .i64 0]) ∧ Hid (Ar w.heap.size a M 14 40000 w' [(14, 0, 0), (14, 1, 1)] ∧ Below w.heap.size w w')) := (new_ok (v := 14) (m := 40000) w (by omega) (by omega) (by omega) (by omega)).mono fun e w' ⟨a, M, h1, h2, h3⟩ => ⟨a, M, h1, h2, h3⟩
 go_enter Tryz.func140, Tryz.ntmps140
 go_wp2_with fail
 refine NW.out.mono ?_
 rintro e w2 ⟨a, M, rfl, H⟩
 go_wp2_with fail
 go_ret2
 exact ⟨a, M, rfl, H⟩
structure SetsW (cs : Array Value) (a : Nat) (s : Nat -> Nat) : Prop where
 size : cs.size = 11
 p : cs[0]? = some (.pointer (some ⟨a, 0, none⟩))
 at' : ∀ i, i < 10 -> cs[1 + i]? = some (.int .i64 (s i : Int))
 one : cs.all (·.oneCell') = true
theorem SetsW.set {cs : Array Value} {a : Nat} {s : Nat -> Nat} (h : SetsW cs a s) {i : Nat} (hi : i < 10) (f : Nat) : SetsW (cs.setIfInBounds (1 + i) (.int .i64 (f : Int))) a (fun j => if j = i then f else s j) := by
 refine ⟨by simpa using h.size, ?_, fun j hj => ?_, ?_⟩
 ·rw [Array.getElem?_setIfInBounds, if_neg (by omega)]
  exact h.p
 ·rw [Array.getElem?_setIfInBounds]
  by_cases e : i = j
  ·subst e
   rw [if_pos rfl, if_pos (by rw [h.size]; omega), if_pos rfl]
  ·rw [if_neg (by omega), if_neg (fun x => e x.symm)]
   exact h.at' j hj
 ·have := h.one
  rw [Array.all_eq_true] at this ⊢
  intro j hj
  rw [Array.getElem_setIfInBounds]
  split
  ·rfl
  ·exact this j (by simpa using hj)
theorem uRing : Tryz.prog.underlying 118 = some (.struct (match Tryz.prog.underlying 118 with | some (.struct f) => f | _ => #[])) := by kernel_rfl
theorem iRing : (Tryz.prog.info? 118).map (·.size) = some 11 := by kernel_rfl
structure Rts (b1 a1 M1 : Nat) (ns1 : List Nd) (w : World) (cs nv dv : Array Value) (ns : List Nd) (W : World) : Prop where
 ar : Ar b1 a1 M1 14 40000 W ns
 ext : Ext ns1 ns
 kp : Kp (ca b1 a1 M1 14 40000) w W
 bS : Bz W w.heap.size cs 118
 bN : Bz W (w.heap.size + 1) nv 25
 bD : Bz W (w.heap.size + 1 + 1) dv 56
section
variable {b1 a1 M1 bq aq Mq most : Nat} {ns1 ns ns' nsS : List Nd} {w W W' : World} {cs nv dv : Array Value}
theorem Rts.below (h : Rts b1 a1 M1 ns1 w cs nv dv ns W) (hb : Below W.heap.size W W') : Rts b1 a1 M1 ns1 w cs nv dv ns W' :=
 ⟨h.ar.below hb, h.ext, h.kp.trans (h.ar.kbelow hb), (hb.block _ h.bS.lt).trans h.bS, (hb.block _ h.bN.lt).trans h.bN, (hb.block _ h.bD.lt).trans h.bD⟩
theorem Rts.step (h : Rts b1 a1 M1 ns1 w cs nv dv ns W) (A' : Ar b1 a1 M1 14 40000 W' ns') (k : Kp (ca b1 a1 M1 14 40000) W W') (X : Ext ns ns') : Rts b1 a1 M1 ns1 w cs nv dv ns' W' :=
 ⟨A', h.ext.trans X, h.kp.trans k, ((h.ar.outBox h.bS (by decide) (by decide)).kp k).blk, ((h.ar.outBox h.bN (by decide) (by decide)).kp k).blk, ((h.ar.outBox h.bD (by decide) (by decide)).kp k).blk⟩
theorem Ar.lowKp (hS : Ar bq aq Mq 14 40000 w nsS) (hA : Ar b1 a1 M1 14 most w ns) (ap : aq < b1 ∧ Mq < b1 ∧ rowOf w aq < b1) (k : Kp (ca b1 a1 M1 14 most) w W) : Ar bq aq Mq 14 40000 W nsS := by
 have hb := hA.kp_below k
 exact hS.same (hb.block _ ap.1) (hb.block _ ap.2.1) (hb.block _ ap.2.2)
theorem rowOf_low (hA : Ar b1 a1 M1 14 most w ns) (ap : aq < b1) (k : Kp (ca b1 a1 M1 14 most) w W) : rowOf W aq = rowOf w aq := rowOf_same ((hA.kp_below k).block _ ap)
end
theorem routed_any {b1 a1 M1 bq aq Mq : Nat} {ns1 nsS : List Nd} {w : World} (hS : Ar bq aq Mq 14 40000 w nsS) (hA : Ar b1 a1 M1 14 40000 w ns1) (ap : aq < b1 ∧ Mq < b1 ∧ rowOf w aq < b1) {cs : Array Value} {s : Nat -> Nat} (hW : SetsW cs aq s) (G : Nat -> Env -> Bool) (hG : ∀ j, j < 10 -> s j < nsS.length ∧ ∀ x, ev nsS (s j) x = G j x)
  (A B : Option Addr) (cap cap' : Nat) (ds : List Dv) (ls : List Lk) (hz : Hid (netV ds ls = 0)) (hdv : Hid (∀ d ∈ ds, devC d = 0)) (hD : Hid (Devs b1 w (.slice A ds.length cap) ds)) (hL : Hid (Links b1 w (.slice B ls.length cap') ls)) {i : Nat} {d : Dv} (hd : ds[i]? = some d) :
  Calls Tryz.prog 182 #[.agg cs, .pointer (some ⟨a1, 0, none⟩), .agg #[.slice A ds.length cap, .slice B ls.length cap'], .int .i64 (i : Int)] w (APost b1 a1 M1 40000 w ns1 (routedF ds ls G d i (portsV d.kind).toNat)) := by
 obtain ⟨b, o, vb, vr, vt, ea, hbb, s1, s2, s3, c0, c1, c2, c3, c4, c5, c6⟩ := hD.out.at hd
 obtain ⟨Ab, cb, rfl, q1⟩ := id s1
 obtain ⟨Ae, cr, rfl, q2⟩ := id s2
 obtain ⟨At, ct, rfl, q3⟩ := id s3
 subst ea
 obtain ⟨_, hcap, hcm⟩ := hD.out.len
 unfold maxLen at hcm
 have i0 : (0 : Int) <= (i : Int) := by omega
 have i1 : (i : Int) < (ds.length : Int) := by
  have := (List.getElem?_eq_some_iff.1 hd).1
  omega
 obtain ⟨dv, hdvE⟩ : ∃ dv : Array Value, dv = #[.string d.name, .int .i64 d.kind, .int .i64 d.addr, .int .u8 (d.pool : Int), .slice Ab d.backs.length cb, .slice Ae d.rules.length cr, .slice At d.routes.length ct] := ⟨_, rfl⟩
 have D3 : Below w.heap.size w (((w.alloc (.cells cs 118)).alloc (.cells #[.slice (some ⟨b, o, none⟩) ds.length cap, .slice B ls.length cap'] 25)).alloc (.cells #[.string d.name, .int .i64 d.kind, .int .i64 d.addr, .int .u8 (d.pool : Int), .slice Ab d.backs.length cb, .slice Ae d.rules.length cr, .slice At d.routes.length ct] 56)) := ((Below.refl _ w).alloc (Nat.le_refl _) _).alloc (by simp) _ |>.alloc (by simp; omega) _
 have hlo : b1 <= w.heap.size := Nat.le_trans hA.lowA (Nat.le_of_lt hA.lta)
 have DEV : ∀ {W : World}, Below w.heap.size w W -> W.cell? ⟨b, o + i * 7, none⟩ = some (.string d.name) ∧ W.cell? ⟨b, o + i * 7 + 1, none⟩ = some (.int .i64 d.kind) ∧ W.cell? ⟨b, o + i * 7 + 2, none⟩ = some (.int .i64 d.addr) ∧ W.cell? ⟨b, o + i * 7 + 3, none⟩ = some (.int .u8 (d.pool : Int)) ∧ W.cell? ⟨b, o + i * 7 + 4, none⟩ = some (.slice Ab d.backs.length cb) ∧ W.cell? ⟨b, o + i * 7 + 5, none⟩ = some (.slice Ae d.rules.length cr) ∧ W.cell? ⟨b, o + i * 7 + 6, none⟩ = some (.slice At d.routes.length ct) := fun {W} h => by
  have up : ∀ {j : Nat} {v : Value}, w.cell? ⟨b, j, none⟩ = some v -> W.cell? ⟨b, j, none⟩ = some v := fun {j v} hc => (h.cell (p := ⟨b, j, none⟩) (by show b < _; omega)).trans hc
  exact ⟨up c0, up c1, up c2, up c3, up c4, up c5, up c6⟩
 have G3 : Rts b1 a1 M1 ns1 w cs #[.slice (some ⟨b, o, none⟩) ds.length cap, .slice B ls.length cap'] dv ns1 (((w.alloc (.cells cs 118)).alloc (.cells #[.slice (some ⟨b, o, none⟩) ds.length cap, .slice B ls.length cap'] 25)).alloc (.cells #[.string d.name, .int .i64 d.kind, .int .i64 d.addr, .int .u8 (d.pool : Int), .slice Ab d.backs.length cb, .slice Ae d.rules.length cr, .slice At d.routes.length ct] 56)) := by
  rw [hdvE]
  exact ⟨hA.below D3, Ext.refl _, hA.kbelow D3, ((Bz.new w _ _ _ rfl).al _).al _, (Bz.new (w.alloc _) _ _ _ (by simp)).al _, Bz.new ((w.alloc _).alloc _) _ _ _ (by simp)⟩
 obtain ⟨V, hV⟩ : ∃ V : List Nd -> World -> Prop, V = fun ns W => Rts b1 a1 M1 ns1 w cs #[.slice (some ⟨b, o, none⟩) ds.length cap, .slice B ls.length cap'] dv ns W := ⟨_, rfl⟩
 have V3 : V ns1 (((w.alloc (.cells cs 118)).alloc (.cells #[.slice (some ⟨b, o, none⟩) ds.length cap, .slice B ls.length cap'] 25)).alloc (.cells #[.string d.name, .int .i64 d.kind, .int .i64 d.addr, .int .u8 (d.pool : Int), .slice Ab d.backs.length cb, .slice Ae d.rules.length cr, .slice At d.routes.length ct] 56)) := by rw [hV]; exact G3
 have VB : Hid (∀ {ns : List Nd} {W W' : World}, V ns W -> Below W.heap.size W W' -> V ns W') := fun {ns W W'} h hb => by rw [hV] at h ⊢; exact h.below hb
 have VC : Hid (∀ {ns : List Nd} {W : World}, V ns W -> W.cell? ⟨w.heap.size + 1, 0, none⟩ = some (.slice (some ⟨b, o, none⟩) ds.length cap) ∧ W.cell? ⟨w.heap.size + 1, 1, none⟩ = some (.slice B ls.length cap') ∧ w.heap.size + 1 + 1 < W.heap.size) := fun {ns W} h => by rw [hV] at h; exact ⟨h.bN.cell 0 _ rfl, h.bN.cell 1 _ rfl, h.bD.lt⟩
 have VK : Hid (∀ {ns : List Nd} {W : World}, V ns W -> W.cell? ⟨w.heap.size + 1 + 1, 1, none⟩ = some (.int .i64 d.kind) ∧ W.cell? ⟨w.heap.size + 1 + 1, 6, none⟩ = some (.slice At d.routes.length ct)) := fun {ns W} h => by
  rw [hV, hdvE] at h
  exact ⟨h.bD.cell 1 _ rfl, h.bD.cell 6 _ rfl⟩
 have VS : Hid (∀ {ns : List Nd} {W : World} (j : Nat), j < 10 -> V ns W -> W.cell? ⟨w.heap.size, 0, none⟩ = some (.pointer (some ⟨aq, 0, none⟩)) ∧ W.cell? ⟨w.heap.size, 1 + j, none⟩ = some (.int .i64 (s j : Int))) := fun {ns W} j hj h => by
  rw [hV] at h
  exact ⟨h.bS.cell 0 _ hW.p, h.bS.cell _ _ (hW.at' j hj)⟩
 have low : ∀ {ns : List Nd} {W : World}, V ns W -> Below b1 w W := fun {ns W} h => by rw [hV] at h; exact hA.kp_below h.kp
 have PE : Hid (∀ {ns : List Nd} {W : World} (k : Nat), V ns W -> Calls Tryz.prog 67 #[.agg #[.slice (some ⟨b, o, none⟩) ds.length cap, .slice B ls.length cap'], .agg #[.int .i64 (i : Int), .int .i64 (k : Int)]] W fun e w' => e = .returned (.tuple #[placeV (peerF ls i k), .bool (peerF ls i k).isSome]) ∧ V ns w') := fun {ns W} k h => by
  have hs := (low h).size
  exact (peer_any _ B _ cap' ls (i : Int) (k : Int) W ((hL.out.below (low h)).mono (Nat.le_trans hlo hs))).mono fun e w' ⟨h1, h2⟩ => ⟨h1, VB.out h h2⟩
 obtain ⟨AN, hAN⟩ : ∃ AN : List Nd -> World -> (Env -> Bool) -> Ending -> World -> Prop, AN = fun ns W φ e w' => ∃ (ns' : List Nd) (v er : Int), e = .returned (.tuple #[.int .i64 v, .int .i64 er]) ∧ V ns' w' ∧ Hid (Wf 14 ns ∧ Wf 14 ns' ∧ Ext ns ns') ∧ Hid (∀ q c t, Bz W q c t -> okT t -> Bz w' q c t) ∧ Hid ((er = 0 ∧ ∃ f : Nat, v = (f : Int) ∧ f < ns'.length ∧ ∀ x, ev ns' f x = φ x) ∨ (er = 6 ∧ v = 0)) := ⟨_, rfl⟩
 have mk : ∀ {ns : List Nd} {W : World} {φ : Env -> Bool} {e : Ending} {w' : World}, V ns W -> APost b1 a1 M1 40000 W ns φ e w' -> AN ns W φ e w' := fun {ns W φ e w'} h ⟨ns', v, er, h1, h2, h3, h4, h5⟩ => by
  have h' := h
  rw [hV] at h'
  rw [hAN]
  refine ⟨ns', v, er, h1, ?_, ⟨h'.ar.wf, h2.wf, h4⟩, fun q c t hb ht => ((h'.ar.outBox hb ht.1 ht.2.1).kp h3).blk, h5⟩
  rw [hV]
  exact h'.step h2 h3 h4
 have TK : Hid (∀ {ns : List Nd} {W : World} (j : Nat), j < 10 -> V ns W -> Calls Tryz.prog 94 #[.pointer (some ⟨a1, 0, none⟩), .pointer (some ⟨aq, 0, none⟩), .int .i64 (s j : Int)] W (AN ns W (G j))) := fun {ns W} j hj h => by
  have h' := h
  rw [hV] at h'
  have hS' := hS.lowKp hA ap h'.kp
  have er : rowOf W aq = rowOf w aq := rowOf_low hA ap.1 h'.kp
  obtain ⟨_, r2, _⟩ := h'.ar.row.choose_spec
  refine (take_fit (fun _ => true) h'.ar hS' (Nat.le_refl _) (fun x hx => ?_) (hG j hj).1 (fit1_all (Nat.le_add_left _ _)) (by omega)).mono fun e w' hp => mk h (hp.ap.of (hG j hj).2)
  have g1 := h'.ar.lowA
  have g2 := h'.ar.lowM
  obtain ⟨p1, p2, p3⟩ := ap
  rw [er] at hx
  rcases hx with rfl | rfl | rfl <;> exact ⟨by omega, by omega, by omega⟩
 have hcv : checkV (routesOf d) = 0 := (dev_right (hdv.out d (List.mem_of_getElem? hd))).2.2.2.2
 have FB : Hid (∀ {ns : List Nd} {W : World} (k : Nat), V ns W -> Calls Tryz.prog 207 #[.pointer (some ⟨a1, 0, none⟩), .slice At d.routes.length ct, .int .i64 (k : Int)] W (AN ns W (phi 65535 (sentN (routesOf d) (k : Int) 16) 255 255))) := fun {ns W} k h => by
  have h' := h
  rw [hV] at h'
  have hs := (low h).size
  have hR : Routes W.heap.size W (.slice At d.routes.length ct) (routesOf d) := routes_of ((s3.below (low h) (fun _ _ _ h => h)).mono (Nat.le_trans hlo hs) (fun _ _ _ h => h))
  refine (fbuild_ok h'.ar (k : Int) hR hcv).mono fun e w' ⟨z, ⟨hz1, hz2⟩, hp⟩ => mk h ?_
  rw [<- sent_eq hz1 hz2.out]
  exact hp.ap
 have IT : Hid (∀ {ns : List Nd} {W : World} (f g h0 : Nat), f < ns.length ∧ g < ns.length ∧ h0 < ns.length -> V ns W -> Calls Tryz.prog 181 #[.pointer (some ⟨a1, 0, none⟩), .int .i64 (f : Int), .int .i64 (g : Int), .int .i64 (h0 : Int)] W (AN ns W (fun x => if ev ns f x then ev ns g x else ev ns h0 x))) := fun {ns W} f g h0 hin h => by
  have h' := h
  rw [hV] at h'
  exact (ite_ok h'.ar (c := (f, g, h0)) hin).mono fun e w' hp => mk h hp.ap
 have FIN : Hid (∀ {ns : List Nd} {W : World} (v er : Int), V ns W -> ((er = 0 ∧ ∃ f : Nat, v = (f : Int) ∧ f < ns.length ∧ ∀ x, ev ns f x = routedF ds ls G d i (portsV d.kind).toNat x) ∨ (er = 6 ∧ v = 0)) -> APost b1 a1 M1 40000 w ns1 (routedF ds ls G d i (portsV d.kind).toNat) (.returned (.tuple #[.int .i64 v, .int .i64 er])) W) := fun {ns W} v er h hv => by
  rw [hV] at h
  exact ⟨ns, v, er, rfl, h.ar, h.kp, h.ext, hv⟩
 have VW : Hid (∀ {ns : List Nd} {W : World}, V ns W -> Wf 14 ns) := fun {ns W} h => by rw [hV] at h; exact h.ar.wf
 have PT : Hid (∀ W, Calls Tryz.prog 54 #[.int .i64 d.kind] W fun e w' => e = .returned (.int .i64 (portsV d.kind)) ∧ w' = W) := fun W => nports_any d.kind W
 obtain ⟨P, hP⟩ : ∃ P : Nat, portsV d.kind = (P : Int) := ⟨(portsV d.kind).toNat, by unfold portsV; split <;> (try split) <;> (try split) <;> omega⟩
 have hPl : P <= 4 := by have := portsV_le d.kind; omega
 have HZ : Hid (netV ds ls = 0) := hz
 rw [hP] at PT FIN ⊢
 simp only [Int.toNat_natCast] at FIN ⊢
 obtain ⟨e0, e1, e2, e3, e4, e5, e6⟩ := DEV (((Below.refl w.heap.size w).alloc (Nat.le_refl _) (.cells cs 118)).alloc (by simp) (.cells #[.slice (some ⟨b, o, none⟩) ds.length cap, .slice B ls.length cap'] 25))
 have lb1 : b < w.heap.size := by omega
 rw [hAN] at TK FB IT
 clear G3 D3 DEV hV hAN mk low hS hA hW hG hD hL hdv hd s1 s2 s3 q1 q2 q3 c0 c1 c2 c3 c4 c5 c6 hdvE hz hcv ap hP
 obtain ⟨n0, n1, _⟩ := VC.out V3
 obtain ⟨k1, _⟩ := VK.out V3
 have J0 : Hid (0 < ns1.length ∧ ∀ x, ev ns1 0 x = routedF ds ls G d i 0 x) := ⟨Nat.lt_of_lt_of_le (by omega) (VW.out V3).len, fun x => ev0 _ x⟩
 go_enter Tryz.func182, Tryz.ntmps182
 go_wp2_with fail
 refine (PT.out _).mono ?_
 rintro e w' ⟨rfl, rfl⟩
 go_wp2_with fail
 go_loopw [11, 26] (fun v11 v26 wr => ∃ (k : Nat) (ns : List Nd) (f : Nat), v11 = .int .i64 (f : Int) ∧ v26 = .int .i64 (k : Int) ∧ k <= P ∧ V ns wr ∧ Hid (f < ns.length ∧ ∀ x, ev ns f x = routedF ds ls G d i k x)) (fun _ v26 _ => P - (intOf v26).toNat)
 case atStart => exact ⟨0, ns1, 0, rfl, rfl, by omega, V3, J0⟩
 case round =>
  clear V3 J0 n0 n1 k1 e0 e1 e2 e3 e4 e5 e6
  obtain ⟨k, ns, f, rfl, rfl, hk, V1, J1⟩ := hrel
  by_cases hlt : k < P
  rotate_left
  ·obtain rfl : k = P := by omega
   have FF := FIN.out (f : Int) 0 V1 (Or.inl ⟨rfl, f, rfl, J1.out⟩)
   clear FIN J1 PE TK FB IT VS VK VC VB
   go_wp2_with fail
   go_ret2
   exact FF
  have l1 : (k : Int) < (P : Int) := by omega
  obtain ⟨n0, n1, lt1⟩ := VC.out V1
  go_wp2_with fail
  refine (PE.out k V1).mono ?_
  rintro e w5 ⟨rfl, V5⟩
  clear n0 n1 V1
  cases hp : peerF ls (i : Int) (k : Int) with
  | none =>
    have J2 : Hid (f < ns.length ∧ ∀ x, ev ns f x = routedF ds ls G d i (k + 1) x) := by
     refine ⟨J1.out.1, fun x => ?_⟩
     rw [J1.out.2 x]
     show _ = (match peerF ls (i : Int) (k : Int) with | none => _ | some t => _)
     rw [hp]
    have V6 := VB.out V5 (Below.alN (Below.refl _ _) (.cells #[.int .i64 0, .int .i64 0] 27))
    clear FIN J1 PE TK FB IT VS VK VC VB hp V5
    unfold placeV Option.isSome
    go_wp2_with fail
    go_roundw
    case rel => exact ⟨k + 1, ns, f, rfl, by go_num, by omega, V6, J2⟩
    case measure => simp [intOf]; omega
  | some t =>
    obtain ⟨ta, tb, rfl, hta, htb⟩ := peer_pl HZ.out hp
    have HP : Hid (peerF ls (i : Int) (k : Int) = some ((ta : Int), (tb : Int))) := hp
    clear hp htb
    unfold placeV Option.isSome
    dsimp only
    have V6 := VB.out V5 (Below.alN (Below.refl _ _) (.cells #[.int .i64 (ta : Int), .int .i64 (tb : Int)] 27)).drew
    have PB : Bz (w5.alloc (.cells #[.int .i64 (ta : Int), .int .i64 (tb : Int)] 27)).drew w5.heap.size #[.int .i64 (ta : Int), .int .i64 (tb : Int)] 27 := Bz.new w5 _ _ _ rfl
    obtain ⟨z0, z1⟩ := VS.out ta hta V6
    have a0 : (0 : Int) <= (ta : Int) := by omega
    have a10 : (ta : Int) < 10 := by omega
    have y0 : (w5.alloc (.cells #[.int .i64 (ta : Int), .int .i64 (tb : Int)] 27)).drew.cell? ⟨w5.heap.size, 0, none⟩ = some (.int .i64 (ta : Int)) := PB.cell 0 _ rfl
    obtain ⟨_, _, lt5⟩ := VC.out V5
    obtain ⟨KS, hKS⟩ : ∃ KS : List Nd -> World -> Prop, KS = fun ns W => V ns W ∧ Bz W w5.heap.size #[.int .i64 (ta : Int), .int .i64 (tb : Int)] 27 := ⟨_, rfl⟩
    have K6 : KS ns (w5.alloc (.cells #[.int .i64 (ta : Int), .int .i64 (tb : Int)] 27)).drew := by rw [hKS]; exact ⟨V6, PB⟩
    have KC : Hid (∀ {ns : List Nd} {W : World}, KS ns W -> W.cell? ⟨w.heap.size, 0, none⟩ = some (.pointer (some ⟨aq, 0, none⟩)) ∧ W.cell? ⟨w5.heap.size, 0, none⟩ = some (.int .i64 (ta : Int)) ∧ W.cell? ⟨w.heap.size, 1 + ta, none⟩ = some (.int .i64 (s ta : Int))) := fun {ns W} h => by
     rw [hKS] at h
     obtain ⟨u0, u1⟩ := VS.out ta hta h.1
     exact ⟨u0, h.2.cell 0 _ rfl, u1⟩
    have TK6 : Hid (Calls Tryz.prog 94 #[.pointer (some ⟨a1, 0, none⟩), .pointer (some ⟨aq, 0, none⟩), .int .i64 (s ta : Int)] (w5.alloc (.cells #[.int .i64 (ta : Int), .int .i64 (tb : Int)] 27)).drew fun e w' => ∃ (ns' : List Nd) (v er : Int), e = .returned (.tuple #[.int .i64 v, .int .i64 er]) ∧ KS ns' w' ∧ Hid (Wf 14 ns ∧ Wf 14 ns' ∧ Ext ns ns') ∧ Hid ((er = 0 ∧ ∃ f : Nat, v = (f : Int) ∧ f < ns'.length ∧ ∀ x, ev ns' f x = G ta x) ∨ (er = 6 ∧ v = 0))) := (TK.out ta hta V6).mono fun e w' ⟨ns', v, er, h1, h2, h3, h4, h5⟩ => ⟨ns', v, er, h1, by rw [hKS]; exact ⟨h2, h4.out _ _ _ PB (by decide)⟩, h3, h5⟩
    have KV : Hid (∀ {ns : List Nd} {W : World}, KS ns W -> V ns W) := fun {ns W} h => by rw [hKS] at h; exact h.1
    clear V5 V6 PB hKS TK PE
    go_wp2_with fail
    go_region_held3 (fun W => W.cell? ⟨w.heap.size, 0, none⟩ = some (.pointer (some ⟨aq, 0, none⟩)) ∧ W.cell? ⟨w5.heap.size, 0, none⟩ = some (.int .i64 (ta : Int)) ∧ W.cell? ⟨w.heap.size, 1 + ta, none⟩ = some (.int .i64 (s ta : Int))) (exact KC.out (by assumption))
     ((first
       | (go_at_call 94; (with_reducible refine TK6.out.mono ?_); rintro e w7 ⟨ns', v, er, rfl, K7, X7, hv7⟩; skip)))
    all_goals
     clear TK6 z0 z1 y0 KC K6
     have V7 := KV.out K7
     clear KV K7
     by_cases he : er = 0
     rotate_left
     ·have E6 : Hid (er = 6) := by
       rcases hv7.out with ⟨h, _⟩ | ⟨h, _⟩
       ·exact absurd h he
       ·exact h
      obtain rfl := E6.out
      have FF := FIN.out 0 6 V7 (Or.inr ⟨rfl, rfl⟩)
      clear FIN E6 hv7 X7 he FB IT VS VK VC VB J1 V7
      go_wp2_with fail
      go_ret2
      exact FF
     subst he
     obtain ⟨g, rfl, hg⟩ : ∃ g : Nat, v = (g : Int) ∧ Hid (g < ns'.length ∧ ∀ x, ev ns' g x = G ta x) := by
      rcases hv7.out with ⟨_, g, h1, h2⟩ | ⟨h, _⟩
      ·exact ⟨g, h1, h2⟩
      ·cases h
     clear hv7
     obtain ⟨_, k6⟩ := VK.out V7
     go_wp2_with fail
     refine (FB.out k V7).mono ?_
     rintro e w8 ⟨ns8, v8, er8, rfl, V8, X8, _, hv8⟩
     clear k6 V7 FB
     by_cases he : er8 = 0
     rotate_left
     ·have E6 : Hid (er8 = 6) := by
       rcases hv8.out with ⟨h, _⟩ | ⟨h, _⟩
       ·exact absurd h he
       ·exact h
      obtain rfl := E6.out
      have FF := FIN.out 0 6 V8 (Or.inr ⟨rfl, rfl⟩)
      clear FIN E6 hv8 X7 X8 he IT VS VK VC VB J1 V8 hg
      go_wp2_with fail
      go_ret2
      exact FF
     subst he
     obtain ⟨h, rfl, hh⟩ : ∃ h : Nat, v8 = (h : Int) ∧ Hid (h < ns8.length ∧ ∀ x, ev ns8 h x = phi 65535 (sentN (routesOf d) (k : Int) 16) 255 255 x) := by
      rcases hv8.out with ⟨_, g, h1, h2⟩ | ⟨h, _⟩
      ·exact ⟨g, h1, h2⟩
      ·cases h
     have IN : Hid (h < ns8.length ∧ g < ns8.length ∧ f < ns8.length) := by
      have l7 := X7.out.2.2.len
      have l8 := X8.out.2.2.len
      have := hg.out.1
      have := J1.out.1
      exact ⟨hh.out.1, by omega, by omega⟩
     have IT8 := IT.out h g f IN.out V8
     have IT8 : Hid (Calls Tryz.prog 181 _ _ _) := IT8
     clear hv8 IT
     go_wp2_with fail
     refine IT8.out.mono ?_
     rintro e w9 ⟨ns9, v9, er9, rfl, V9, X9, _, hv9⟩
     clear V8 IT8
     by_cases he : er9 = 0
     rotate_left
     ·have E6 : Hid (er9 = 6) := by
       rcases hv9.out with ⟨h, _⟩ | ⟨h, _⟩
       ·exact absurd h he
       ·exact h
      obtain rfl := E6.out
      have FF := FIN.out 0 6 V9 (Or.inr ⟨rfl, rfl⟩)
      clear FIN E6 hv9 X7 X8 X9 he VS VK VC VB J1 V9 hg hh IN
      go_wp2_with fail
      go_ret2
      exact FF
     subst he
     obtain ⟨r, rfl, hr⟩ : ∃ r : Nat, v9 = (r : Int) ∧ Hid (r < ns9.length ∧ ∀ x, ev ns9 r x = if ev ns8 h x then ev ns8 g x else ev ns8 f x) := by
      rcases hv9.out with ⟨_, g, h1, h2⟩ | ⟨h, _⟩
      ·exact ⟨g, h1, h2⟩
      ·cases h
     have J2 : Hid (r < ns9.length ∧ ∀ x, ev ns9 r x = routedF ds ls G d i (k + 1) x) := by
      refine ⟨hr.out.1, fun x => ?_⟩
      obtain ⟨a1, a2, a3⟩ := X7.out
      obtain ⟨b1, b2, b3⟩ := X8.out
      have l7 := a3.len
      have := J1.out.1
      rw [hr.out.2 x, hh.out.2 x, b3.ev b1 b2 g hg.out.1 x, hg.out.2 x, b3.ev b1 b2 f (by omega) x, a3.ev a1 a2 f J1.out.1 x, J1.out.2 x]
      show _ = (match peerF ls (i : Int) (k : Int) with | none => _ | some t => _)
      rw [HP.out]
      rfl
     clear hv9 hr hh hg IN X7 X8 X9 J1 FIN VS VK VC VB
     go_wp2_with fail
     go_roundw
     case rel => exact ⟨k + 1, ns9, r, rfl, by go_num, by omega, V9, J2⟩
     case measure => simp [intOf]; omega
theorem sent_anyR {b1 a1 M1 bq aq Mq : Nat} {ns1 nsS : List Nd} {w : World} (hS : Ar bq aq Mq 14 40000 w nsS) (hA : Ar b1 a1 M1 14 40000 w ns1) (ap : aq < b1 ∧ Mq < b1 ∧ rowOf w aq < b1) {cs : Array Value} {s : Nat -> Nat} (hW : SetsW cs aq s) (G : Nat -> Env -> Bool) (hG : ∀ j, j < 10 -> s j < nsS.length ∧ ∀ x, ev nsS (s j) x = G j x)
  (A B : Option Addr) (cap cap' : Nat) (ds : List Dv) (ls : List Lk) (hz : Hid (netV ds ls = 0)) (hdv : Hid (∀ d ∈ ds, devC d = 0)) (hD : Hid (Devs b1 w (.slice A ds.length cap) ds)) (hL : Hid (Links b1 w (.slice B ls.length cap') ls)) {i : Nat} {d : Dv} (hd : ds[i]? = some d) :
  Calls Tryz.prog 141 #[.agg cs, .pointer (some ⟨a1, 0, none⟩), .agg #[.slice A ds.length cap, .slice B ls.length cap'], .int .i64 (i : Int)] w (APost b1 a1 M1 40000 w ns1 (hopF ds ls G i)) := by
 obtain ⟨b, o, vb, vr, vt, ea, hbb, s1, s2, s3, c0, c1, c2, c3, c4, c5, c6⟩ := hD.out.at hd
 obtain ⟨Ae, cr, rfl, q2⟩ := id s2
 subst ea
 obtain ⟨_, hcap, hcm⟩ := hD.out.len
 unfold maxLen at hcm
 have i0 : (0 : Int) <= (i : Int) := by omega
 have i1 : (i : Int) < (ds.length : Int) := by
  have := (List.getElem?_eq_some_iff.1 hd).1
  omega
 have hlo : b1 <= w.heap.size := Nat.le_trans hA.lowA (Nat.le_of_lt hA.lta)
 obtain ⟨w1, hw1⟩ : ∃ w1, w1 = (w.alloc (.cells cs 118)).alloc (.cells #[.slice (some ⟨b, o, none⟩) ds.length cap, .slice B ls.length cap'] 25) := ⟨_, rfl⟩
 have D1 : Below w.heap.size w w1 := by rw [hw1]; exact ((Below.refl _ w).alloc (Nat.le_refl _) _).alloc (by simp) _
 have bS : Bz w1 w.heap.size cs 118 := by rw [hw1]; exact (Bz.new w _ _ _ rfl).al _
 have bN : Bz w1 (w.heap.size + 1) #[.slice (some ⟨b, o, none⟩) ds.length cap, .slice B ls.length cap'] 25 := by rw [hw1]; exact Bz.new _ _ _ _ (by simp)
 have NA : Hid (Calls Tryz.prog 140 #[] w1 fun e w' => ∃ a2 M2, e = .returned (.tuple #[.pointer (some ⟨a2, 0, none⟩), .int .i64 0]) ∧ Hid (Ar w1.heap.size a2 M2 14 40000 w' [(14, 0, 0), (14, 1, 1)] ∧ Below w1.heap.size w1 w')) := narena_any w1
 obtain ⟨U, hU⟩ : ∃ U : World -> Prop, U = fun W => Below w1.heap.size w1 W := ⟨_, rfl⟩
 have UC : Hid (∀ {W : World}, U W -> W.cell? ⟨w.heap.size + 1, 0, none⟩ = some (.slice (some ⟨b, o, none⟩) ds.length cap) ∧ W.cell? ⟨w.heap.size + 1, 1, none⟩ = some (.slice B ls.length cap') ∧ W.cell? ⟨b, o + i * 7 + 5, none⟩ = some (.slice Ae d.rules.length cr) ∧ w.heap.size + 1 < W.heap.size) := fun {W} h => by
  rw [hU] at h
  have hb : Bz W (w.heap.size + 1) _ _ := (h.block _ bN.lt).trans bN
  exact ⟨hb.cell 0 _ rfl, hb.cell 1 _ rfl, ((chain h D1).cell (p := ⟨b, o + i * 7 + 5, none⟩) (by show b < _; omega)).trans c5, hb.lt⟩
 have UB : Hid (∀ {W : World}, U W -> Bz W w.heap.size cs 118) := fun {W} h => by
  rw [hU] at h
  exact (h.block _ bS.lt).trans bS
 have hw1s : w.heap.size <= w1.heap.size := D1.size
 have UA : ∀ {W : World}, U W -> Below w.heap.size w W := fun {W} h => by rw [hU] at h; exact chain h D1
 obtain ⟨AN, hAN⟩ : ∃ AN : Nat -> Nat -> (Env -> Bool) -> Ending -> World -> Prop, AN = fun a2 M2 φ e w' => ∃ (ns' : List Nd) (v er : Int), e = .returned (.tuple #[.int .i64 v, .int .i64 er]) ∧ Hid (Ar w1.heap.size a2 M2 14 40000 w' ns') ∧ U w' ∧ Hid ((er = 0 ∧ ∃ f : Nat, v = (f : Int) ∧ f < ns'.length ∧ ∀ x, ev ns' f x = φ x) ∨ (er = 6 ∧ v = 0)) := ⟨_, rfl⟩
 have mk : ∀ {a2 M2 : Nat} {ns : List Nd} {W : World} {φ : Env -> Bool} {e : Ending} {w' : World}, Ar w1.heap.size a2 M2 14 40000 W ns -> U W -> APost w1.heap.size a2 M2 40000 W ns φ e w' -> AN a2 M2 φ e w' := fun {a2 M2 ns W φ e w'} hA2 h ⟨ns', v, er, h1, h2, h3, h4, h5⟩ => by
  rw [hAN]
  refine ⟨ns', v, er, h1, h2, ?_, h5⟩
  rw [hU] at h ⊢
  exact h.trans (hA2.kp_below h3)
 have RO : Hid (∀ {a2 M2 : Nat} {ns : List Nd} {W : World}, Ar w1.heap.size a2 M2 14 40000 W ns -> U W -> Calls Tryz.prog 182 #[.agg cs, .pointer (some ⟨a2, 0, none⟩), .agg #[.slice (some ⟨b, o, none⟩) ds.length cap, .slice B ls.length cap'], .int .i64 (i : Int)] W (AN a2 M2 (routedF ds ls G d i (portsV d.kind).toNat))) := fun {a2 M2 ns W} hA2 h => by
  have hb := UA h
  have hS' := hS.below hb
  have er : rowOf W aq = rowOf w aq := rowOf_same (hb.block _ hS.lta)
  obtain ⟨p1, p2, p3⟩ := ap
  refine (routed_any hS' hA2 ⟨by omega, by omega, by rw [er]; omega⟩ hW G hG _ B cap cap' ds ls hz hdv ((hD.out.below (hb.mono hlo)).mono (by omega)) ((hL.out.below (hb.mono hlo)).mono (by omega)) hd).mono fun e w' hp => mk hA2 h hp
 obtain ⟨_, _, _, hr8, _⟩ := dev_right (hdv.out d (List.mem_of_getElem? hd))
 have AB : Hid (∀ {a2 M2 : Nat} {ns : List Nd} {W : World}, Ar w1.heap.size a2 M2 14 40000 W ns -> U W -> Calls Tryz.prog 183 #[.pointer (some ⟨a2, 0, none⟩), .slice Ae d.rules.length cr] W fun e w' => ∃ (ns' : List Nd) (v er : Int), e = .returned (.tuple #[.int .i64 v, .int .i64 er]) ∧ Hid (Ar w1.heap.size a2 M2 14 40000 w' ns') ∧ U w' ∧ Hid (Wf 14 ns ∧ Wf 14 ns' ∧ Ext ns ns') ∧ Hid ((er = 0 ∧ ∃ f : Nat, v = (f : Int) ∧ f < ns'.length ∧ ∀ x, ev ns' f x = letsF (rulesOf d) x) ∨ (er = 6 ∧ v = 0))) := fun {a2 M2 ns W} hA2 h => by
  have hb := (UA h).mono hlo
  have hR : Rules W.heap.size W (.slice Ae d.rules.length cr) (rulesD d) := rules_ofD ((s2.below hb (fun _ _ _ h => h)).mono (Nat.le_trans hlo (UA h).size) (fun _ _ _ h => h))
  have := abuild_ok hA2 Ae d.rules.length cr (rulesD d) hR (by unfold rulesD; simpa using hr8)
  refine this.mono fun e w' hp => ?_
  obtain ⟨ns', v, er, h1, h2, h3, h4, h5⟩ := BPost.ap hp
  refine ⟨ns', v, er, h1, h2, ?_, ⟨hA2.wf, h2.wf, h4⟩, h5⟩
  rw [hU] at h ⊢
  exact h.trans (hA2.kp_below h3)
 have AD : Hid (∀ {a2 M2 : Nat} {ns : List Nd} {W : World} (f g : Nat), f < ns.length -> g < ns.length -> Ar w1.heap.size a2 M2 14 40000 W ns -> U W -> Calls Tryz.prog 138 #[.pointer (some ⟨a2, 0, none⟩), .int .i64 (f : Int), .int .i64 (g : Int)] W (AN a2 M2 (fun x => ev ns f x && ev ns g x))) := fun {a2 M2 ns W} f g hf hg hA2 h => (and_fit (fun _ => true) hA2 hf hg (DepS.all _) (DepS.all _)).mono fun e w' hp => mk hA2 h hp.ap
 have TK : Hid (∀ {a2 M2 : Nat} {ns : List Nd} {W : World} (f : Nat), f < ns.length -> Ar w1.heap.size a2 M2 14 40000 W ns -> U W -> Calls Tryz.prog 94 #[.pointer (some ⟨a1, 0, none⟩), .pointer (some ⟨a2, 0, none⟩), .int .i64 (f : Int)] W (APost b1 a1 M1 40000 w ns1 (fun x => ev ns f x))) := fun {a2 M2 ns W} f hf hA2 h => by
  have hb := UA h
  have hA' := hA.below hb
  have er : rowOf W a1 = rowOf w a1 := rowOf_same (hb.block _ hA.lta)
  have r3 := hA.row.choose_spec.2.2
  have l1 := hA.lta
  have l2 := hA.ltM
  have g1 := hA2.lowA
  have g2 := hA2.lowM
  have g3 := hA2.row.choose_spec.2.1
  refine (take_fit (fun _ => true) hA' hA2 (Nat.le_refl _) (fun x hx => ?_) hf (fit1_all (Nat.le_add_left _ _)) (by omega)).mono fun e w' hp => ?_
  ·rw [er]
   rcases hx with rfl | rfl | rfl <;> exact ⟨by omega, by omega, by omega⟩
  ·obtain ⟨ns', v, er', h1, h2, h3, h4, h5⟩ := hp.ap
   exact ⟨ns', v, er', h1, h2, (hA.kbelow hb).trans h3, h4, h5⟩
 have BAD : Hid (∀ {W : World}, U W -> APost b1 a1 M1 40000 w ns1 (hopF ds ls G i) (.returned (.tuple #[.int .i64 0, .int .i64 6])) W) := fun {W} h => ⟨ns1, 0, 6, rfl, hA.below (UA h), hA.kbelow (UA h), Ext.refl _, Or.inr ⟨rfl, rfl⟩⟩
 have HO : Hid (∀ {φ : Env -> Bool} {e : Ending} {w' : World}, APost b1 a1 M1 40000 w ns1 φ e w' -> (∀ x, φ x = (routedF ds ls G d i (portsV d.kind).toNat x && letsF (rulesOf d) x)) -> APost b1 a1 M1 40000 w ns1 (hopF ds ls G i) e w') := fun {φ e w'} h hq => h.of fun x => by
  rw [hq x]
  unfold hopF
  rw [hd]
 rw [hAN] at RO AD
 have U1 : ∀ {W : World}, Below w1.heap.size w1 W -> U W := fun {W} h => by rw [hU]; exact h
 have HN : Hid ((Tryz.prog.info? 118).map (·.size) = some cs.size) := by
  show _ = _
  rw [hW.size]
  exact iRing
 generalize routedF ds ls G d i (portsV d.kind).toNat = φ1 at *
 generalize letsF (rulesOf d) = φ2 at *
 generalize hopF ds ls G i = φ3 at *
 clear hAN mk UA hS hA hW hG hD hL hdv hz hd s1 s2 s3 q2 c0 c1 c2 c3 c4 c5 c6 ap hU hr8 D1 bS bN hw1s
 subst hw1
 go_enter Tryz.func141, Tryz.ntmps141
 go_wp2_with fail
 refine NA.out.mono ?_
 rintro e w2 ⟨a2, M2, rfl, H2⟩
 obtain ⟨A2, hb2⟩ := H2.out
 have V2 := U1 hb2
 have A2 : Hid (Ar _ _ _ _ _ _ _) := A2
 clear NA H2 hb2 U1
 obtain ⟨n0, n1, _, lt2⟩ := UC.out V2
 have BB := UB.out V2
 go_upto_region 4 with fail
 go_step
 refine wpList_load_row rfl 118 _ rfl _ rfl _ cs (0, 0) _ BB uRing rfl HN.out ?_
 simp only [Act.put, List.setIfInBounds_toArray, List.set_cons_zero, List.set_cons_succ]
 go_wp2_with fail
 refine (RO.out A2.out V2).mono ?_
 rintro e w3 ⟨ns3, v3, er3, rfl, A3, V3, hv3⟩
 clear n0 n1 lt2 A2 V2 RO BB HN
 by_cases he : er3 = 0
 rotate_left
 ·have E6 : Hid (er3 = 6) := by
   rcases hv3.out with ⟨h, _⟩ | ⟨h, _⟩
   ·exact absurd h he
   ·exact h
  obtain rfl := E6.out
  have FF := BAD.out V3
  clear BAD E6 hv3 he TK AB AD UC UB HO A3
  go_wp2_with fail
  go_ret2
  exact FF
 subst he
 obtain ⟨f3, rfl, hf3⟩ : ∃ g : Nat, v3 = (g : Int) ∧ Hid (g < ns3.length ∧ ∀ x, ev ns3 g x = φ1 x) := by
  rcases hv3.out with ⟨_, g, h1, h2⟩ | ⟨h, _⟩
  ·exact ⟨g, h1, h2⟩
  ·cases h
 clear hv3
 obtain ⟨n0, n1, n5, lt3⟩ := UC.out V3
 have HB : Hid (b + 0 = b) := rfl
 go_wp2_with fail
 refine (AB.out A3.out V3).mono ?_
 rintro e w4 ⟨ns4, v4, er4, rfl, A4, V4, X4, hv4⟩
 clear n0 n1 n5 lt3 A3 V3 AB HB
 by_cases he : er4 = 0
 rotate_left
 ·have E6 : Hid (er4 = 6) := by
   rcases hv4.out with ⟨h, _⟩ | ⟨h, _⟩
   ·exact absurd h he
   ·exact h
  obtain rfl := E6.out
  have FF := BAD.out V4
  clear BAD E6 hv4 he TK AD UC UB HO A4 X4
  go_wp2_with fail
  go_ret2
  exact FF
 subst he
 obtain ⟨f4, rfl, hf4⟩ : ∃ g : Nat, v4 = (g : Int) ∧ Hid (g < ns4.length ∧ ∀ x, ev ns4 g x = φ2 x) := by
  rcases hv4.out with ⟨_, g, h1, h2⟩ | ⟨h, _⟩
  ·exact ⟨g, h1, h2⟩
  ·cases h
 clear hv4
 have L3 : Hid (f3 < ns4.length) := by
  have := X4.out.2.2.len
  have := hf3.out.1
  show _ < _
  omega
 go_wp2_with fail
 refine (AD.out f3 f4 L3.out hf4.out.1 A4.out V4).mono ?_
 rintro e w5 ⟨ns5, v5, er5, rfl, A5, V5, hv5⟩
 clear A4 V4 AD
 by_cases he : er5 = 0
 rotate_left
 ·have E6 : Hid (er5 = 6) := by
   rcases hv5.out with ⟨h, _⟩ | ⟨h, _⟩
   ·exact absurd h he
   ·exact h
  obtain rfl := E6.out
  have FF := BAD.out V5
  clear BAD E6 hv5 he TK UC UB HO A5 X4 L3
  go_wp2_with fail
  go_ret2
  exact FF
 subst he
 obtain ⟨f5, rfl, hf5⟩ : ∃ g : Nat, v5 = (g : Int) ∧ Hid (g < ns5.length ∧ ∀ x, ev ns5 g x = (ev ns4 f3 x && ev ns4 f4 x)) := by
  rcases hv5.out with ⟨_, g, h1, h2⟩ | ⟨h, _⟩
  ·exact ⟨g, h1, h2⟩
  ·cases h
 clear hv5
 have Q : Hid (∀ x, ev ns5 f5 x = (φ1 x && φ2 x)) := fun x => by
  obtain ⟨a1, a2, a3⟩ := X4.out
  rw [hf5.out.2 x, hf4.out.2 x, a3.ev a1 a2 f3 hf3.out.1 x, hf3.out.2 x]
 have TK5 : Hid (Calls Tryz.prog 94 _ _ _) := TK.out f5 hf5.out.1 A5.out V5
 clear TK A5 V5 L3 X4 hf3 hf4
 go_wp2_with fail
 refine TK5.out.mono ?_
 intro e w6 hp
 have FF := HO.out hp Q.out
 obtain ⟨ns6, v6, er6, rfl, _⟩ := hp
 clear HO TK5 BAD UC UB Q hf5
 go_wp2_with fail
 go_ret2
 exact FF
abbrev zr11 : Array Value := #[.pointer none, .int .i64 0, .int .i64 0, .int .i64 0, .int .i64 0, .int .i64 0, .int .i64 0, .int .i64 0, .int .i64 0, .int .i64 0, .int .i64 0]
abbrev nw11 (a : Nat) : Array Value := #[.pointer (some ⟨a, 0, none⟩), .int .i64 0, .int .i64 0, .int .i64 0, .int .i64 0, .int .i64 0, .int .i64 0, .int .i64 0, .int .i64 0, .int .i64 0, .int .i64 0]
theorem setsW_new (a : Nat) : SetsW (nw11 a) a (fun _ => 0) := by
 refine ⟨rfl, rfl, fun i hi => ?_, by simp [Value.oneCell']⟩
 have : i = 0 ∨ i = 1 ∨ i = 2 ∨ i = 3 ∨ i = 4 ∨ i = 5 ∨ i = 6 ∨ i = 7 ∨ i = 8 ∨ i = 9 := by omega
 rcases this with rfl | rfl | rfl | rfl | rfl | rfl | rfl | rfl | rfl | rfl <;> rfl
def SOut (w : World) (G : Nat -> Env -> Bool) (e : Ending) (w' : World) : Prop :=
 ∃ (cs : Array Value) (er : Int), e = .returned (.tuple #[.agg cs, .int .i64 er]) ∧ Below w.heap.size w w' ∧ Hid (cs.size = 11 ∧ cs.all (·.oneCell') = true) ∧
   Hid ((er = 0 ∧ ∃ (bq aq Mq : Nat) (ns : List Nd) (s : Nat -> Nat), w.heap.size <= bq ∧ Ar bq aq Mq 14 40000 w' ns ∧ SetsW cs aq s ∧ ∀ j, j < 10 -> s j < ns.length ∧ ∀ x, ev ns (s j) x = G j x) ∨ er = 6)
theorem ev_one {ns : List Nd} (_hW : Wf 14 ns) (x : Env) : ev ns 1 x = true := by
 first | exact ev1 _ x | simp [ev]
theorem Bz.setRow {W : World} {g : Nat} {c c' : Array Value} {t : TypeId} (h : Bz W g c t) : Bz (W.setRow g c') g c' t := by
 show _ = _
 rw [setRow_heap' W g c c' t h, if_pos rfl]
theorem below_setRow {B : Nat} {w W : World} {g : Nat} {c c' : Array Value} {t : TypeId} (h : Below B w W) (hg : Bz W g c t) (hB : B <= g) : Below B w (W.setRow g c') := by
 refine ⟨h.os, h.tape, h.output, by simp [World.setRow]; exact h.size, fun k hk => ?_⟩
 rw [setRow_heap' W g c c' t hg, if_neg (by omega)]
 exact h.block k hk
theorem everything_any (w : World) : Calls Tryz.prog 92 #[] w (SOut w (fun _ _ => true)) := by
 have b0 : Bz (w.alloc (.cells zr11 118)) w.heap.size zr11 118 := Bz.new w _ _ _ rfl
 have NA : Hid (Calls Tryz.prog 140 #[] (w.alloc (.cells zr11 118)) fun e w' => ∃ a2 M2, e = .returned (.tuple #[.pointer (some ⟨a2, 0, none⟩), .int .i64 0]) ∧ Hid (Ar (w.alloc (.cells zr11 118)).heap.size a2 M2 14 40000 w' [(14, 0, 0), (14, 1, 1)] ∧ Below (w.alloc (.cells zr11 118)).heap.size (w.alloc (.cells zr11 118)) w')) := narena_any _
 have D0 : Below w.heap.size w (w.alloc (.cells zr11 118)) := Below.alloc' (Below.refl _ _) _
 go_enter Tryz.func92, Tryz.ntmps92
 go_wp2_with fail
 refine NA.out.mono ?_
 rintro e w2 ⟨a2, M2, rfl, H2⟩
 clear NA
 obtain ⟨A2, hb2⟩ := H2.out
 have D2 := chain hb2 D0
 have z2 : Bz w2 w.heap.size zr11 118 := (hb2.block _ b0.lt).trans b0
 obtain ⟨V, hV⟩ : ∃ V : Array Value -> World -> Prop, V = fun cs W => Below w.heap.size w W ∧ Bz W w.heap.size zr11 118 ∧ Bz W w2.heap.size cs 118 ∧ Ar (w.alloc (.cells zr11 118)).heap.size a2 M2 14 40000 W [(14, 0, 0), (14, 1, 1)] := ⟨_, rfl⟩
 have V0 : V (nw11 a2) (w2.alloc (.cells (nw11 a2) 118)) := by
  rw [hV]
  exact ⟨Below.alloc' D2 _, z2.al _, Bz.new _ _ _ _ rfl, A2.below (Below.alloc' (Below.refl _ _) _)⟩
 have VS : Hid (∀ {cs : Array Value} {W : World} (k : Nat), k < 10 -> SetsW cs a2 (fun j => if j < k then 1 else 0) -> V cs W -> (∃ v, W.cell? ⟨w2.heap.size, 1 + k, none⟩ = some v) ∧ W.frozen? ⟨w2.heap.size, 1 + k, none⟩ = false ∧ V (cs.setIfInBounds (1 + k) (.int .i64 1)) (W.setCell ⟨w2.heap.size, 1 + k, none⟩ (.int .i64 1)) ∧ SetsW (cs.setIfInBounds (1 + k) (.int .i64 1)) a2 (fun j => if j < k + 1 then 1 else 0)) := fun {cs W} k hk hs h => by
  rw [hV] at h ⊢
  obtain ⟨h1, h2, h3, h4⟩ := h
  have hF : ∀ i, i ≠ w2.heap.size -> (W.setCell ⟨w2.heap.size, 1 + k, none⟩ (.int .i64 1)).heap[i]? = W.heap[i]? := fun i hi => Below.heap_setCell W ⟨w2.heap.size, 1 + k, none⟩ _ i hi
  have L := (h4.outBox h3 (by decide) (by decide)).out
  have n1 : a2 ≠ w2.heap.size := fun e => L.not (Or.inl e.symm)
  have n2 : M2 ≠ w2.heap.size := fun e => L.not (Or.inr (Or.inr (Or.inl e.symm)))
  have n3 : rowOf W a2 ≠ w2.heap.size := fun e => L.ne e.symm
  have hlt := D2.size
  refine ⟨⟨_, h3.cell _ _ (hs.at' k hk)⟩, h3.free _, ⟨h1.setCell (p := ⟨w2.heap.size, 1 + k, none⟩) hlt _, (hF _ (by have := z2.lt; omega)).trans h2, h3.set (j := 1 + k) _, h4.same (hF _ n1) (hF _ n2) (hF _ n3)⟩, ?_⟩
  have := hs.set hk 1
  have e : (fun j => if j = k then 1 else if j < k then 1 else 0) = (fun j => if j < k + 1 then 1 else 0 : Nat -> Nat) := by
   funext j
   by_cases e : j = k
   ·subst e; simp
   ·rw [if_neg e]
    by_cases e2 : j < k
    ·rw [if_pos e2, if_pos (by omega)]
    ·rw [if_neg e2, if_neg (by omega)]
  rw [e] at this
  exact this
 have FIN : Hid (∀ {cs : Array Value} {W : World}, SetsW cs a2 (fun j => if j < 10 then 1 else 0) -> V cs W -> Hid (Bz W w.heap.size zr11 118) ∧ Hid (Bz W w2.heap.size cs 118) ∧ Hid (Bz (W.setRow w.heap.size cs) w.heap.size cs 118) ∧ Hid (SOut w (fun _ _ => true) (.returned (.tuple #[.agg cs, .int .i64 0])) (W.setRow w.heap.size cs)) ∧ Hid ((Tryz.prog.info? 118).map (·.size) = some cs.size) ∧ Hid (zr11.size = cs.size) ∧ Hid (cs.all (·.oneCell') = true)) := fun {cs W} hs h => by
  rw [hV] at h
  obtain ⟨h1, h2, h3, h4⟩ := h
  have hF : ∀ i, i ≠ w.heap.size -> (W.setRow w.heap.size cs).heap[i]? = W.heap[i]? := fun i hi => by rw [setRow_heap' W _ zr11 cs _ h2 i, if_neg (fun e => hi e.symm)]
  have L := (h4.outBox h2 (by decide) (by decide)).out
  have n1 : a2 ≠ w.heap.size := fun e => L.not (Or.inl e.symm)
  have n2 : M2 ≠ w.heap.size := fun e => L.not (Or.inr (Or.inr (Or.inl e.symm)))
  have n3 : rowOf W a2 ≠ w.heap.size := fun e => L.ne e.symm
  refine ⟨h2, h3, h2.setRow, ⟨cs, 0, rfl, below_setRow h1 h2 (Nat.le_refl _), ⟨hs.size, hs.one⟩, Or.inl ⟨rfl, _, a2, M2, _, _, ?_, h4.same (hF _ n1) (hF _ n2) (hF _ n3), hs, fun j hj => ?_⟩⟩, ?_, ?_, hs.one⟩
  ·simp
  ·dsimp only
   rw [if_pos hj]
   exact ⟨by simp, fun x => ev_one h4.wf x⟩
  ·show _ = _
   rw [hs.size]
   exact iRing
  ·show _ = _
   rw [hs.size]
   rfl
 have S0 : Hid (SetsW (nw11 a2) a2 (fun j => if j < 0 then 1 else 0)) := setsW_new a2
 clear hV D0 D2 z2 b0 H2 A2 hb2
 go_wp2_with fail
 go_loopw [16] (fun v16 wr => ∃ (k : Nat) (cs : Array Value), v16 = .int .i64 (k : Int) ∧ k <= 10 ∧ V cs wr ∧ Hid (SetsW cs a2 (fun j => if j < k then 1 else 0))) (fun v16 _ => 10 - (intOf v16).toNat)
 case atStart => exact ⟨0, _, rfl, by omega, V0, S0⟩
 case round =>
  clear V0 S0
  obtain ⟨k, cs, rfl, hk, V1, S1⟩ := hrel
  by_cases hlt : k < 10
  ·have l1 : (k : Int) < 10 := by omega
   have l0 : (0 : Int) <= (k : Int) := by omega
   obtain ⟨⟨v, c1⟩, f1, V2, S2⟩ := VS.out k hlt S1.out V1
   have S2 : Hid _ := S2
   clear VS FIN
   go_wp2_with fail
   go_roundw
   case rel => exact ⟨k + 1, _, by go_num, by omega, V2, S2⟩
   case measure => simp [intOf]; omega
  ·obtain rfl : k = 10 := by omega
   obtain ⟨BZ, BX, BR, FF, HN, HZ, HO⟩ := FIN.out S1.out V1
   clear VS FIN S1 V1
   go_upto_region 10 with fail
   go_step
   refine wpList_load_row rfl 118 _ rfl _ rfl _ cs (0, 0) _ BX.out uRing rfl HN.out ?_
   simp only [Act.put, List.setIfInBounds_toArray, List.set_cons_zero, List.set_cons_succ]
   go_step
   refine wp_store_row 118 _ _ rfl _ cs rfl rfl _ _ BZ.out HN.out HZ.out HO.out ?_
   simp only [Act.put]
   go_wp2_with fail
   exact bodyPost_ret (v := .tuple #[.agg cs, .int .i64 0]) (by simp [results, Tryz.results92, asAddr, run_loadVar_row (wr.setRow w.heap.size cs) w.heap.size 118 118 cs (0, 0) _ BR.out uRing rfl HN.out]) rfl FF.out
structure Hps (b1 a1 M1 : Nat) (ns1 : List Nd) (w w2 : World) (cs nv cx : Array Value) (N : Nat) (ns : List Nd) (W : World) : Prop where
 ar : Ar b1 a1 M1 14 40000 W ns
 kp : Kp (ca b1 a1 M1 14 40000) w2 W
 bel : Below w.heap.size w W
 bS : Bz W w.heap.size cs 118
 bN : Bz W (w.heap.size + 1) nv 25
 bR : Bz W (w.heap.size + 1 + 1) zr11 118
 bX : Bz W N cx 118
section
variable {b1 a1 M1 N : Nat} {ns1 ns ns' : List Nd} {w w2 W W' : World} {cs nv cx : Array Value}
theorem Hps.step (h : Hps b1 a1 M1 ns1 w w2 cs nv cx N ns W) (hlo : w.heap.size <= b1) (A' : Ar b1 a1 M1 14 40000 W' ns') (k : Kp (ca b1 a1 M1 14 40000) W W') : Hps b1 a1 M1 ns1 w w2 cs nv cx N ns' W' :=
 ⟨A', h.kp.trans k, h.bel.trans ((h.ar.kp_below k).mono hlo), ((h.ar.outBox h.bS (by decide) (by decide)).kp k).blk, ((h.ar.outBox h.bN (by decide) (by decide)).kp k).blk, ((h.ar.outBox h.bR (by decide) (by decide)).kp k).blk, ((h.ar.outBox h.bX (by decide) (by decide)).kp k).blk⟩
theorem Ar.farSet (h : Ar b1 a1 M1 14 40000 W ns) {g : Nat} {c : Array Value} (hb : Bz W g c 118) {W' : World} (hF : ∀ i, i ≠ g -> W'.heap[i]? = W.heap[i]?) : Ar b1 a1 M1 14 40000 W' ns := by
 have L := (h.outBox hb (by decide) (by decide)).out
 exact h.same (hF _ (fun e => L.not (Or.inl e.symm))) (hF _ (fun e => L.not (Or.inr (Or.inr (Or.inl e.symm))))) (hF _ (fun e => L.ne e.symm))
theorem Hps.setX (h : Hps b1 a1 M1 ns1 w w2 cs nv cx N ns W) (hN : w.heap.size + 1 + 1 < N ∧ w2.heap.size <= N) (j : Nat) (u : Value) : Hps b1 a1 M1 ns1 w w2 cs nv (cx.setIfInBounds j u) N ns (W.setCell ⟨N, j, none⟩ u) := by
 have hF : ∀ i, i ≠ N -> (W.setCell ⟨N, j, none⟩ u).heap[i]? = W.heap[i]? := fun i hi => Below.heap_setCell W ⟨N, j, none⟩ u i hi
 have L := (h.ar.outBox h.bX (by decide) (by decide)).out
 have n1 : a1 ≠ N := fun e => L.not (Or.inl e.symm)
 have er : rowOf (W.setCell ⟨N, j, none⟩ u) a1 = rowOf W a1 := rowOf_same (hF a1 n1)
 refine ⟨h.ar.farSet h.bX hF, ⟨h.kp.os, h.kp.tape, h.kp.output, by simp [World.setCell]; exact h.kp.size, fun i hi hm hr => (hF i (by omega)).trans (h.kp.blk i hi hm hr), ?_, fun k hk => ?_⟩, h.bel.setCell (p := ⟨N, j, none⟩) (by show _ <= N; omega) u, (hF _ (by omega)).trans h.bS, (hF _ (by omega)).trans h.bN, (hF _ (by omega)).trans h.bR, h.bX.set (j := j) u⟩
 ·rw [show rowOf (W.setCell ⟨N, j, none⟩ u) (ca b1 a1 M1 14 40000).a = rowOf W (ca b1 a1 M1 14 40000).a from er]
  exact h.kp.row
 ·rw [<- h.kp.post k hk]
  exact cellB (hF a1 n1)
end
theorem hop_any {bq aq Mq : Nat} {nsS : List Nd} {w : World} (hS : Ar bq aq Mq 14 40000 w nsS) {cs : Array Value} {s : Nat -> Nat} (hW : SetsW cs aq s) (G : Nat -> Env -> Bool) (hG : ∀ j, j < 10 -> s j < nsS.length ∧ ∀ x, ev nsS (s j) x = G j x)
  (A B : Option Addr) (cap cap' : Nat) (ds : List Dv) (ls : List Lk) (hz : Hid (netV ds ls = 0)) (hdv : Hid (∀ d ∈ ds, devC d = 0)) (hD : Hid (Devs w.heap.size w (.slice A ds.length cap) ds)) (hL : Hid (Links w.heap.size w (.slice B ls.length cap') ls)) :
  Calls Tryz.prog 93 #[.agg cs, .agg #[.slice A ds.length cap, .slice B ls.length cap']] w (SOut w (hopF ds ls G)) := by
 obtain ⟨w1, hw1⟩ : ∃ w1, w1 = ((w.alloc (.cells cs 118)).alloc (.cells #[.slice A ds.length cap, .slice B ls.length cap'] 25)).alloc (.cells zr11 118) := ⟨_, rfl⟩
 have D1 : Below w.heap.size w w1 := by rw [hw1]; exact Below.alloc' (Below.alloc' (Below.alloc' (Below.refl _ _) _) _) _
 have bS : Bz w1 w.heap.size cs 118 := by rw [hw1]; exact ((Bz.new w _ _ _ rfl).al _).al _
 have bN : Bz w1 (w.heap.size + 1) #[.slice A ds.length cap, .slice B ls.length cap'] 25 := by rw [hw1]; exact (Bz.new _ _ _ _ (by simp)).al _
 have bR : Bz w1 (w.heap.size + 1 + 1) zr11 118 := by rw [hw1]; exact Bz.new _ _ _ _ (by simp)
 have hs1 : w1.heap.size = w.heap.size + 1 + 1 + 1 := by rw [hw1]; simp
 have NA : Hid (Calls Tryz.prog 140 #[] w1 fun e w' => ∃ a2 M2, e = .returned (.tuple #[.pointer (some ⟨a2, 0, none⟩), .int .i64 0]) ∧ Hid (Ar w1.heap.size a2 M2 14 40000 w' [(14, 0, 0), (14, 1, 1)] ∧ Below w1.heap.size w1 w')) := narena_any w1
 have hd10 : ds.length <= 10 := (netV_links hz.out).1
 subst hw1
 go_enter Tryz.func93, Tryz.ntmps93
 go_wp2_with fail
 refine NA.out.mono ?_
 rintro e w2 ⟨a1, M1, rfl, H2⟩
 clear NA
 obtain ⟨A2, hb2⟩ := H2.out
 rw [hs1] at A2 hb2
 obtain ⟨V, hV⟩ : ∃ V : Array Value -> List Nd -> World -> Prop, V = fun cx ns W => Hps (w.heap.size + 1 + 1 + 1) a1 M1 [(14, 0, 0), (14, 1, 1)] w w2 cs #[.slice A ds.length cap, .slice B ls.length cap'] cx w2.heap.size ns W := ⟨_, rfl⟩
 have l2 : w.heap.size + 1 + 1 + 1 <= w2.heap.size := by have := hb2.size; omega
 have V0 : V (nw11 a1) [(14, 0, 0), (14, 1, 1)] (w2.alloc (.cells (nw11 a1) 118)) := by
  rw [hV]
  have q0 := ((hb2.block _ (show w.heap.size < w.heap.size + 1 + 1 + 1 by omega)).trans bS)
  have q1 := ((hb2.block _ (show w.heap.size + 1 < w.heap.size + 1 + 1 + 1 by omega)).trans bN)
  have q2 := ((hb2.block _ (show w.heap.size + 1 + 1 < w.heap.size + 1 + 1 + 1 by omega)).trans bR)
  exact ⟨A2.below (Below.alloc' (Below.refl _ _) _), A2.kbelow (Below.alloc' (Below.refl _ _) _), Below.alloc' (D1.trans (hb2.mono (by omega))) _, Bz.al q0 _, Bz.al q1 _, Bz.al q2 _, Bz.new _ _ _ _ rfl⟩
 have VC : Hid (∀ {cx : Array Value} {ns : List Nd} {W : World}, V cx ns W -> W.cell? ⟨w.heap.size + 1, 0, none⟩ = some (.slice A ds.length cap) ∧ W.cell? ⟨w.heap.size + 1, 1, none⟩ = some (.slice B ls.length cap') ∧ w2.heap.size < W.heap.size ∧ Hid (Bz W w.heap.size cs 118)) := fun {cx ns W} h => by
  rw [hV] at h
  exact ⟨h.bN.cell 0 _ rfl, h.bN.cell 1 _ rfl, h.bX.lt, h.bS⟩
 have SN : Hid (∀ {cx : Array Value} {ns : List Nd} {W : World} (k : Nat), k < ds.length -> V cx ns W -> Calls Tryz.prog 141 #[.agg cs, .pointer (some ⟨a1, 0, none⟩), .agg #[.slice A ds.length cap, .slice B ls.length cap'], .int .i64 (k : Int)] W fun e w' => ∃ (ns' : List Nd) (v er : Int), e = .returned (.tuple #[.int .i64 v, .int .i64 er]) ∧ V cx ns' w' ∧ Hid (Wf 14 ns ∧ Wf 14 ns' ∧ Ext ns ns') ∧ Hid ((er = 0 ∧ ∃ f : Nat, v = (f : Int) ∧ f < ns'.length ∧ ∀ x, ev ns' f x = hopF ds ls G k x) ∨ (er = 6 ∧ v = 0))) := fun {cx ns W} k hk h => by
  rw [hV] at h ⊢
  have hb := h.bel
  have er : rowOf W aq = rowOf w aq := rowOf_same (hb.block _ hS.lta)
  have r1 := hS.lta
  have r2 := hS.ltM
  have r3 := hS.row.choose_spec.2.2
  have hsz := hb.size
  have hD' : Devs (w.heap.size + 1 + 1 + 1) W (.slice A ds.length cap) ds := (hD.out.below hb).mono (by omega)
  have hL' : Links (w.heap.size + 1 + 1 + 1) W (.slice B ls.length cap') ls := (hL.out.below hb).mono (by omega)
  refine (sent_anyR (hS.below hb) h.ar ⟨by omega, by omega, by rw [er]; omega⟩ hW G hG A B cap cap' ds ls hz hdv hD' hL' (List.getElem?_eq_getElem hk)).mono fun e w' ⟨ns', v, er, h1, h2, h3, h4, h5⟩ => ⟨ns', v, er, h1, h.step (by omega) h2 h3, ⟨h.ar.wf, h2.wf, h4⟩, h5⟩
 have VX : Hid (∀ {cx : Array Value} {ns : List Nd} {W : World} (j : Nat) (u : Value), j < cx.size -> V cx ns W -> (∃ v, W.cell? ⟨w2.heap.size, j, none⟩ = some v) ∧ W.frozen? ⟨w2.heap.size, j, none⟩ = false ∧ V (cx.setIfInBounds j u) ns (W.setCell ⟨w2.heap.size, j, none⟩ u)) := fun {cx ns W} j u hj h => by
  rw [hV] at h ⊢
  exact ⟨⟨_, h.bX.cell j _ (Array.getElem?_eq_getElem hj)⟩, h.bX.free j, h.setX ⟨by omega, Nat.le_refl _⟩ j u⟩
 have FIN : Hid (∀ {cx : Array Value} {ns : List Nd} {W : World} (er : Int) (co : Array Value), (co.size = 11 ∧ co.all (·.oneCell') = true) -> ((er = 0 ∧ ∃ s, SetsW co a1 s ∧ ∀ j, j < 10 -> s j < ns.length ∧ ∀ x, ev ns (s j) x = hopF ds ls G j x) ∨ er = 6) -> V cx ns W -> Hid (Bz W (w.heap.size + 1 + 1) zr11 118) ∧ Hid (Bz W w2.heap.size cx 118) ∧ Hid (Bz (W.setRow (w.heap.size + 1 + 1) co) (w.heap.size + 1 + 1) co 118) ∧ Hid (SOut w (hopF ds ls G) (.returned (.tuple #[.agg co, .int .i64 er])) (W.setRow (w.heap.size + 1 + 1) co)) ∧ Hid ((Tryz.prog.info? 118).map (·.size) = some co.size) ∧ Hid (zr11.size = co.size) ∧ Hid (co.all (·.oneCell') = true)) := fun {cx ns W} er co hco hq h => by
  rw [hV] at h
  have hF : ∀ i, i ≠ w.heap.size + 1 + 1 -> (W.setRow (w.heap.size + 1 + 1) co).heap[i]? = W.heap[i]? := fun i hi => by rw [setRow_heap' W _ zr11 co _ h.bR i, if_neg (fun e => hi e.symm)]
  refine ⟨h.bR, h.bX, h.bR.setRow, ⟨co, er, rfl, below_setRow h.bel h.bR (by omega), hco, ?_⟩, ?_, ?_, hco.2⟩
  ·rcases hq with ⟨h1, s, h2, h3⟩ | h1
   ·exact Or.inl ⟨h1, _, a1, M1, ns, s, by omega, h.ar.farSet h.bR hF, h2, h3⟩
   ·exact Or.inr h1
  ·show _ = _
   rw [hco.1]
   exact iRing
  ·show _ = _
   rw [hco.1]
   rfl
 have HN : Hid ((Tryz.prog.info? 118).map (·.size) = some cs.size) := by
  show _ = _
  rw [hW.size]
  exact iRing
 have NO : Hid (∀ j, ds.length <= j -> ∀ x, hopF ds ls G j x = false) := fun j hj x => by
  unfold hopF
  rw [List.getElem?_eq_none hj]
 have W0 : Hid (∀ ns, Wf 14 ns -> 0 < ns.length) := fun ns h => Nat.lt_of_lt_of_le (by omega) h.len
 have S0 : Hid (∃ s, SetsW (nw11 a1) a1 s ∧ ∀ j, j < 10 -> s j < [((14 : Nat), (0 : Nat), (0 : Nat)), (14, 1, 1)].length ∧ ∀ x, ev [(14, 0, 0), (14, 1, 1)] (s j) x = if j < 0 then hopF ds ls G j x else false) := ⟨_, setsW_new a1, fun j _ => ⟨by simp, fun x => by rw [ev0]; rfl⟩⟩
 clear hV D1 bS bN bR H2 A2 hb2 hS hW hG hD hL hz hdv hs1
 obtain ⟨n0, n1, _, _⟩ := VC.out V0
 go_wp2_with fail
 go_loopw [23] (fun v23 wr => ∃ (k : Nat) (cx : Array Value) (ns : List Nd), v23 = .int .i64 (k : Int) ∧ k <= ds.length ∧ V cx ns wr ∧ Hid (∃ s, SetsW cx a1 s ∧ ∀ j, j < 10 -> s j < ns.length ∧ ∀ x, ev ns (s j) x = if j < k then hopF ds ls G j x else false)) (fun v23 _ => ds.length - (intOf v23).toNat)
 case atStart => exact ⟨0, _, _, rfl, by omega, V0, S0⟩
 case round =>
  clear V0 S0 n0 n1
  obtain ⟨k, cx, ns, rfl, hk, V1, S1⟩ := hrel
  by_cases hlt : k < ds.length
  ·have l1 : (k : Int) < (ds.length : Int) := by omega
   have l0 : (0 : Int) <= (k : Int) := by omega
   have l10 : (k : Int) < 10 := by omega
   obtain ⟨n0, n1, lt1, BS⟩ := VC.out V1
   go_upto_region 8 with fail
   go_step
   go_step
   go_step
   go_step
   refine wpList_load_row rfl 118 _ rfl _ rfl _ cs (0, 0) _ BS.out uRing rfl HN.out ?_
   simp only [Act.put, List.setIfInBounds_toArray, List.set_cons_zero, List.set_cons_succ]
   go_wp2_with fail
   refine (SN.out k hlt V1).mono ?_
   rintro e w3 ⟨ns3, v3, er3, rfl, V3, X3, hv3⟩
   obtain ⟨s, S2, S3⟩ := S1.out
   obtain ⟨⟨v, c1⟩, f1, V4⟩ := VX.out (1 + k) (.int .i64 v3) (by rw [S2.size]; omega) V3
   obtain ⟨_, _, lt3, _⟩ := VC.out V3
   clear n0 n1 lt1 BS V1 V3 SN VX VC HN
   by_cases he : er3 = 0
   rotate_left
   ·have E6 : Hid (er3 = 6) := by
     rcases hv3.out with ⟨h, _⟩ | ⟨h, _⟩
     ·exact absurd h he
     ·exact h
    obtain rfl := E6.out
    obtain ⟨BZ, _, BR, FF, HM, HZ, HO⟩ := FIN.out 6 zr11 ⟨rfl, by simp [Value.oneCell']⟩ (Or.inr rfl) V4
    clear FIN E6 hv3 he V4 S1 S2 S3 NO W0 X3
    go_upto_region 10 with fail
    go_step
    go_step
    go_step
    go_step
    go_step
    go_step
    go_step
    go_step
    refine wp_store_row 118 _ _ rfl _ zr11 rfl rfl _ _ BZ.out HM.out rfl (by simp [Value.oneCell']) ?_
    simp only [Act.put]
    go_wp2_with fail
    exact bodyPost_ret (v := .tuple #[.agg zr11, .int .i64 6]) (by simp [results, Tryz.results93, asAddr, run_loadVar_row ((w3.setCell ⟨w2.heap.size, 1 + k, none⟩ (.int .i64 v3)).setRow (w.heap.size + 1 + 1) zr11) (w.heap.size + 1 + 1) 118 118 zr11 (0, 0) _ BR.out uRing rfl HM.out]) rfl FF.out
   subst he
   obtain ⟨f3, rfl, hf3⟩ : ∃ g : Nat, v3 = (g : Int) ∧ Hid (g < ns3.length ∧ ∀ x, ev ns3 g x = hopF ds ls G k x) := by
    rcases hv3.out with ⟨_, g, h1, h2⟩ | ⟨h, _⟩
    ·exact ⟨g, h1, h2⟩
    ·cases h
   have J : Hid (∃ s, SetsW (cx.setIfInBounds (1 + k) (.int .i64 (f3 : Int))) a1 s ∧ ∀ j, j < 10 -> s j < ns3.length ∧ ∀ x, ev ns3 (s j) x = if j < k + 1 then hopF ds ls G j x else false) := by
    refine ⟨_, S2.set (by omega) f3, fun j hj => ?_⟩
    obtain ⟨x1, x2, x3⟩ := X3.out
    by_cases e : j = k
    ·subst e
     rw [if_pos rfl]
     exact ⟨hf3.out.1, fun x => by rw [hf3.out.2 x, if_pos (by omega)]⟩
    ·rw [if_neg e]
     have l3 := x3.len
     obtain ⟨y1, y2⟩ := S3 j hj
     refine ⟨by omega, fun x => ?_⟩
     rw [x3.ev x1 x2 (s j) y1 x, y2 x]
     by_cases e2 : j < k
     ·rw [if_pos e2, if_pos (by omega)]
     ·rw [if_neg e2, if_neg (by omega)]
   clear hv3 hf3 X3 S1 S2 S3 FIN NO W0
   go_wp2_with fail
   go_roundw
   case rel => exact ⟨k + 1, _, ns3, by go_num, by omega, V4, J⟩
   case measure => simp [intOf]; omega
  ·obtain rfl : k = ds.length := by omega
   obtain ⟨s, S2, S3⟩ := S1.out
   obtain ⟨BZ, BX, BR, FF, HM, HZ, HO⟩ := FIN.out 0 cx ⟨S2.size, S2.one⟩ (Or.inl ⟨rfl, s, S2, fun j hj => ⟨(S3 j hj).1, fun x => by
    rw [(S3 j hj).2 x]
    by_cases e : j < ds.length
    ·rw [if_pos e]
    ·rw [if_neg e, NO.out j (by omega) x]⟩⟩) V1
   clear FIN S1 V1 VX SN VC S2 S3 NO W0 HN
   go_upto_region 12 with fail
   go_step
   refine wpList_load_row rfl 118 _ rfl _ rfl _ cx (0, 0) _ BX.out uRing rfl HM.out ?_
   simp only [Act.put, List.setIfInBounds_toArray, List.set_cons_zero, List.set_cons_succ]
   go_step
   refine wp_store_row 118 _ _ rfl _ cx rfl rfl _ _ BZ.out HM.out HZ.out HO.out ?_
   simp only [Act.put]
   go_wp2_with fail
   exact bodyPost_ret (v := .tuple #[.agg cx, .int .i64 0]) (by simp [results, Tryz.results93, asAddr, run_loadVar_row (wr.setRow (w.heap.size + 1 + 1) cx) (w.heap.size + 1 + 1) 118 118 cx (0, 0) _ BR.out uRing rfl HM.out]) rfl FF.out
end Go.Proofs.YtppbfikimalojaaGreat
