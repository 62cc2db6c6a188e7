/-
  Differ of package bdd.
-/
import Derived.Test.YtnjfckbpmilhnaaXAC
import Derived.Deep.RegionHeld3
import Derived.Test.YtnjfckbpmilhnaaXAB
import Derived.ProofKit
import Derived.OpenShut
import Derived.Deep.Slices
namespace Go.Proofs.Ytnjfckbpmilhnaa
open Go.RowKit Go.Maps

theorem run_min2 (x y : Nat) (ts : Array TypeId) (t : TypeId) (W : World) : (Builtin.min_ ts t #[.int .i64 (x : Int), .int .i64 (y : Int)]).run Try.prog W = .ok (.int .i64 ((min x y : Nat) : Int)) W := by
  have e : ((min x y : Nat) : Int) = if (y : Int) < (x : Int) then (y : Int) else (x : Int) := by split <;> omega
  rw [e]
  simp [Builtin.min_, Builtin.min2]

theorem intBits_orD (a b : Nat) (ha : a < 9223372036854775808) (hb : b < 9223372036854775808) : Go.bits .or .i64 (a : Int) (b : Int) = ((a ||| b : Nat) : Int) := by
  have e1 : BitVec.ofInt 64 (a : Int) = BitVec.ofNat 64 a := by simp
  have e2 : BitVec.ofInt 64 (b : Int) = BitVec.ofNat 64 b := by simp
  have hle : a ||| b < 2 ^ 63 := Nat.or_lt_two_pow ha hb
  have hm : (BitVec.ofNat 64 a ||| BitVec.ofNat 64 b).toNat = a ||| b := by
    simp [BitVec.toNat_or, Nat.mod_eq_of_lt (show a < 18446744073709551616 by omega), Nat.mod_eq_of_lt (show b < 18446744073709551616 by omega)]
  show IntKind.i64.wrap ((BitVec.ofInt 64 (a : Int) ||| BitVec.ofInt 64 (b : Int)).toNat : Int) = _
  rw [e1, e2, hm, IntWalk.i64_in _ (by omega)]
section
variable {base a M vars most : Nat} {w : World} {ns : List Nd}

set_option maxHeartbeats 1000000 in
theorem apart_ok (h : Ar base a M vars most w ns) {f v : Nat} (val : Bool) (hf : f < ns.length) (hv : v ≤ 16) :
    Calls Try.prog 25 #[.pointer (some ⟨a, 0, none⟩), .int .i64 (f : Int), .int .i64 (v : Int), .bool val] w fun e w' => e = .returned (.int .i64 (partOf ns f v val : Int)) ∧ Ar base a M vars most w' ns ∧ Kp (ca base a M vars most) w w' := by
  obtain ⟨cap, a0, a1, a2, a3, af, an⟩ := h.reads
  obtain ⟨n0, n1, n2⟩ := an f hf
  have hl : ns.length ≤ 40000 := Nat.le_trans h.le h.most4
  have hA1 := h.alloc (.cells #[.int .i64 (nv ns f : Int), .int .i64 (nl ns f : Int), .int .i64 (nh ns f : Int)] 59)
  have hK1 := Ar.kalloc' h (.cells #[.int .i64 (nv ns f : Int), .int .i64 (nl ns f : Int), .int .i64 (nh ns f : Int)] 59)
  unfold partOf
  clear h an
  generalize rowOf w a = g at *
  by_cases he : nv ns f = v
  · subst he
    cases val
    · go_enter Try.func25, Try.ntmps25
      go_wp2_with fail
      go_ret
      exact ⟨by simp, hA1, hK1⟩
    · go_enter Try.func25, Try.ntmps25
      go_wp2_with fail
      go_ret
      exact ⟨by simp, hA1, hK1⟩
  · have he' : ((nv ns f : Int) != (v : Int)) = true := by simp; omega
    go_enter Try.func25, Try.ntmps25
    go_wp2_with fail
    go_ret
    exact ⟨by simp, hA1, hK1⟩

/-- What Differ tells of two functions. -/
def DTold (vars : Nat) (ns : List Nd) (f g : Nat) (c : Nat) (ok : Bool) : Prop :=
  (f = g ∧ c = 0 ∧ ok = false) ∨ (f ≠ g ∧ ok = true ∧ LeastD (2 ^ vars) (fun c => ev ns f (envOf vars c)) (fun c => ev ns g (envOf vars c)) c)

set_option maxHeartbeats 4000000 in
theorem differ_ok (h : Ar base a M vars most w ns) {f g : Nat} (hf : f < ns.length) (hg : g < ns.length) :
    Calls Try.prog 18 #[.pointer (some ⟨a, 0, none⟩), .int .i64 (f : Int), .int .i64 (g : Int)] w fun e w' => ∃ (c : Nat) (ok : Bool), e = .returned (.tuple #[.int .i64 (c : Int), .bool ok, .int .i64 0]) ∧ Hd (DTold vars ns f g c ok) ∧ Ar base a M vars most w' ns ∧ Kp (ca base a M vars most) w w' := by
  have v16 := h.vars16
  have wf := h.wf
  have hl4 : ns.length ≤ 40000 := Nat.le_trans h.le h.most4
  have t1 : (decide ((0 : Int) ≤ (f : Int)) && decide ((f : Int) < (ns.length : Int))) = true := by simp; omega
  have t2 : (decide ((0 : Int) ≤ (g : Int)) && decide ((g : Int) < (ns.length : Int))) = true := by simp; omega
  have hpw : 2 ^ vars ≤ 2 ^ 16 := Nat.pow_le_pow_right (by omega) v16
  by_cases hfg : f = g
  · subst hfg
    go_enter Try.func18, Try.ntmps18
    go_wp2_with (go_at_call 24; refine (hasFunction_any h (f : Int)).mono ?_; rintro e w' ⟨rfl, rfl⟩; rw [t1])
    go_ret3
    exact ⟨0, false, rfl, ⟨.inl ⟨rfl, rfl, rfl⟩⟩, h, Kp.refl _ _⟩
  · have tn : ((f : Int) == (g : Int)) = false := by simp; omega
    go_enter Try.func18, Try.ntmps18
    go_wp2_with (go_at_call 24; first | ((with_reducible refine (hasFunction_any h (f : Int)).mono ?_); rintro e w' ⟨rfl, rfl⟩; rw [t1]) | ((with_reducible refine (hasFunction_any h (g : Int)).mono ?_); rintro e w' ⟨rfl, rfl⟩; rw [t2]))
    go_loopw [1, 2, 9] (fun v1 v2 v9 wr => ∃ F G b : Nat, v1 = .int .i64 (F : Int) ∧ v2 = .int .i64 (G : Int) ∧ v9 = .int .i64 (b : Int) ∧ Hd (Dif vars ns f g F G b) ∧ Ar base a M vars most wr ns ∧ Kp (ca base a M vars most) w' wr) (fun v1 v2 _ _ => (intOf v1).toNat + (intOf v2).toNat)
    case atStart => exact ⟨f, g, 0, rfl, rfl, rfl, ⟨Dif.start hf hg hfg⟩, h, Kp.refl _ _⟩
    case round =>
      obtain ⟨F, G, b, rfl, rfl, rfl, hD, hA, hK⟩ := hrel
      have lF := hD.out.lF
      have lG := hD.out.lG
      by_cases hend : F ≤ 1 ∧ G ≤ 1
      · have t5 : decide ((1 : Int) < (F : Int)) = false := by simp; omega
        have t6 : decide ((1 : Int) < (G : Int)) = false := by simp; omega
        have fin : Hd (DTold vars ns f g b true) := ⟨.inr ⟨hfg, rfl, hD.out.fin hend.1 hend.2⟩⟩
        go_wp2_with fail
        go_ret3
        exact ⟨b, true, rfl, fin, hA, hK⟩
      · obtain ⟨cap, c0, c1, c2, c3, cf, cn⟩ := hA.reads
        obtain ⟨n0, n1, n2⟩ := cn F lF
        obtain ⟨m0, m1, m2⟩ := cn G lG
        have hvm : min (nv ns F) (nv ns G) < vars := by
          by_cases q : 2 ≤ F
          · have := wf.va F q lF; omega
          · have := wf.va G (by omega) lG; omega
        have hmn : ∀ (ts : Array TypeId) (t : TypeId) (W : World), (Builtin.min_ ts t #[.int .i64 (nv ns F : Int), .int .i64 (nv ns G : Int)]).run Try.prog W = .ok (.int .i64 ((min (nv ns F) (nv ns G) : Nat) : Int)) W := fun ts t W => run_min2 _ _ ts t W
        obtain ⟨v, hv⟩ : ∃ v, min (nv ns F) (nv ns G) = v := ⟨_, rfl⟩
        rw [hv] at hvm
        simp only [hv] at hmn
        have hv' := Hd.mk hv
        have tw : (decide ((1 : Int) < (F : Int)) = true) ∨ (decide ((1 : Int) < (F : Int)) = false ∧ decide ((1 : Int) < (G : Int)) = true) := by simp; omega
        clear hv n1 n2 m1 m2 cn
        have v16' : v ≤ 16 := by omega
        have P1 : Hd (∀ {W : World}, Ar base a M vars most W ns → Calls Try.prog 25 #[.pointer (some ⟨a, 0, none⟩), .int .i64 (F : Int), .int .i64 (v : Int), .bool false] W fun e w' => e = .returned (.int .i64 (partOf ns F v false : Int)) ∧ Ar base a M vars most w' ns ∧ Kp (ca base a M vars most) W w') := ⟨fun h => apart_ok h false lF v16'⟩
        have P2 : Hd (∀ {W : World}, Ar base a M vars most W ns → Calls Try.prog 25 #[.pointer (some ⟨a, 0, none⟩), .int .i64 (G : Int), .int .i64 (v : Int), .bool false] W fun e w' => e = .returned (.int .i64 (partOf ns G v false : Int)) ∧ Ar base a M vars most w' ns ∧ Kp (ca base a M vars most) W w') := ⟨fun h => apart_ok h false lG v16'⟩
        have P3 : Hd (∀ {W : World}, Ar base a M vars most W ns → Calls Try.prog 25 #[.pointer (some ⟨a, 0, none⟩), .int .i64 (F : Int), .int .i64 (v : Int), .bool true] W fun e w' => e = .returned (.int .i64 (partOf ns F v true : Int)) ∧ Ar base a M vars most w' ns ∧ Kp (ca base a M vars most) W w') := ⟨fun h => apart_ok h true lF v16'⟩
        have P4 : Hd (∀ {W : World}, Ar base a M vars most W ns → Calls Try.prog 25 #[.pointer (some ⟨a, 0, none⟩), .int .i64 (G : Int), .int .i64 (v : Int), .bool true] W fun e w' => e = .returned (.int .i64 (partOf ns G v true : Int)) ∧ Ar base a M vars most w' ns ∧ Kp (ca base a M vars most) W w') := ⟨fun h => apart_ok h true lG v16'⟩
        have D1 : Hd (partOf ns F v false ≠ partOf ns G v false → Dif vars ns f g (partOf ns F v false) (partOf ns G v false) b) := ⟨fun q => hD.out.low wf hvm hv'.out.symm q⟩
        have D2 : Hd (partOf ns F v false = partOf ns G v false → Dif vars ns f g (partOf ns F v true) (partOf ns G v true) (b + 2 ^ (vars - 1 - v))) := ⟨fun q => hD.out.high wf hvm hv'.out.symm q⟩
        have O1 : Hd (∀ q : Nat, q = 2 ^ (vars - 1 - v) → Go.bits .or .i64 (b : Int) (q : Int) = ((b + 2 ^ (vars - 1 - v) : Nat) : Int)) := ⟨fun q hq => by
          have hm := hD.out.mul
          rw [hv'.out] at hm
          have h16 : 2 ^ (vars - 1 - v) ≤ 2 ^ 16 := Nat.pow_le_pow_right (by omega) (by omega)
          have hb := hD.out.lt
          rw [intBits_orD b q (by omega) (by omega), hq, or_add hvm hm]⟩
        have MS : Hd (∀ val, partOf ns F v val + partOf ns G v val < F + G) := ⟨fun val => by
          have a1 := partOf_le wf lF hvm val
          have a2 := partOf_le wf lG hvm val
          have a3 := hv'.out
          omega⟩
        have lo : Hd (partOf ns F v false + partOf ns G v false < F + G) := ⟨MS.out false⟩
        have up : Hd (partOf ns F v true + partOf ns G v true < F + G) := ⟨MS.out true⟩
        clear MS
        generalize partOf ns F v false = lf at *
        generalize partOf ns G v false = lg at *
        generalize partOf ns F v true = uf at *
        generalize partOf ns G v true = ug at *
        generalize b + 2 ^ (vars - 1 - v) = b2 at *
        generalize rowOf wr a = gr at *
        have hAd : Ar base a M vars most wr.drew ns := hA.same rfl rfl rfl
        have hKd : Kp (ca base a M vars most) w' wr.drew := hK.drew
        clear hK hA
        by_cases hlg : lf = lg
        · subst hlg
          rcases tw with t5 | ⟨t5, t6⟩
          all_goals
            go_wp2_with fail
            go_region
            go_wp2_with fail
            refine (P1.out hAd).mono ?_
            rintro e w1 ⟨rfl, A1, K1⟩
            go_wp2_with fail
            refine (P2.out A1).mono ?_
            rintro e w2 ⟨rfl, A2, K2⟩
            go_wp2_with fail
            refine (P3.out A2).mono ?_
            rintro e w3 ⟨rfl, A3, K3⟩
            go_wp2_with fail
            refine (P4.out A3).mono ?_
            rintro e w4 ⟨rfl, A4, K4⟩
            go_wp2_with fail
            refine (bit_q A4 hvm).mono ?_
            rintro e w5 ⟨q, rfl, hq, rfl⟩
            have hor := O1.out q hq.out
            go_wp2_with fail
            go_roundw
            case rel => exact ⟨uf, ug, b2, rfl, rfl, rfl, ⟨D2.out (by first | trivial | rfl)⟩, A4, (((hKd.trans K1).trans K2).trans K3).trans K4⟩
            case measure => have := up.out; simp [intOf]; omega
        · have tne : ((lf : Int) != (lg : Int)) = true := by simp; omega
          rcases tw with t5 | ⟨t5, t6⟩
          all_goals
            go_wp2_with fail
            go_region
            go_wp2_with fail
            refine (P1.out hAd).mono ?_
            rintro e w1 ⟨rfl, A1, K1⟩
            go_wp2_with fail
            refine (P2.out A1).mono ?_
            rintro e w2 ⟨rfl, A2, K2⟩
            go_wp2_with fail
            go_roundw
            case rel => exact ⟨lf, lg, b, rfl, rfl, rfl, ⟨D1.out hlg⟩, A2, (hKd.trans K1).trans K2⟩
            case measure => have := lo.out; simp [intOf]; omega
end
end Go.Proofs.Ytnjfckbpmilhnaa



namespace Go.Proofs.Ytnjfckbpmilhnaa
open Go.RowKit Go.Maps

/-- What Build leaves. -/
def BPm (base a M most : Nat) (w : World) (ns : List Nd) (xs : List Rl) (e : Ending) (w' : World) : Prop :=
  ∃ ns', Ar base a M 14 most w' ns' ∧ Kp (ca base a M 14 most) w w' ∧ Ext ns ns' ∧
    ((∃ f : Nat, e = .returned (.tuple #[.int .i64 (f : Int), .int .i64 0]) ∧ f < ns'.length ∧ ∀ x, ev ns' f x = letsF xs x) ∨ e = .returned (.tuple #[.int .i64 0, .int .i64 6]))

set_option maxHeartbeats 4000000 in
set_option maxRecDepth 100000 in
theorem abuild_m {base a M most : Nat} {w : World} {ns : List Nd} (h : Ar base a M 14 most w ns) (A : Option Addr) (n cap : Nat) (xs : List Rl) (hR : Rules w.heap.size w (.slice A n cap) xs) (hlen : xs.length ≤ 8) :
    Calls Try.prog 13 #[.pointer (some ⟨a, 0, none⟩), .slice A n cap] w (BPm base a M most w ns xs) := by
  have hn : n = xs.length := by
    obtain ⟨_, _, e, _⟩ := hR
    cases e
    rfl
  have CK : Hid (∀ w, Calls Try.prog 10 #[.slice A n cap] w fun e w' => e = .returned (.int .i64 0) ∧ w' = w) := fun w => by
    have := check_ok A n cap w
    rw [if_neg (by omega)] at this
    exact this
  have NW : Hid (Calls Try.prog 17 #[.int .i64 14, .int .i64 40000] w fun e w' => ∃ a2 M2, e = .returned (.tuple #[.pointer (some ⟨a2, 0, none⟩), .int .i64 0]) ∧ Ar w.heap.size a2 M2 14 40000 w' [(14, 0, 0), (14, 1, 1)] ∧ Below w.heap.size w w') := new_ok (v := 14) (m := 40000) w (by omega) (by omega) (by omega) (by omega)
  clear hn
  go_enter Try.func13, Try.ntmps13
  go_wp2_with (go_at_call 10; refine (CK.out _).mono ?_; rintro e w' ⟨rfl, rfl⟩)
  refine NW.out.mono ?_
  rintro e w2 ⟨a2, M2, rfl, A2, hb2⟩
  have JO : Hid (Calls Try.prog 21 #[.pointer (some ⟨a2, 0, none⟩), .slice A n cap] w2 fun e w' => ∃ ns', Ar _ a2 M2 14 40000 w' ns' ∧ Below _ w2 w' ∧
      ((∃ f : Nat, e = .returned (.tuple #[.int .i64 (f : Int), .int .i64 0]) ∧ f < ns'.length ∧ ∀ x, ev ns' f x = letsF xs x) ∨ (e = .returned (.tuple #[.int .i64 0, .int .i64 6]) ∧ _))) := join_ok A2 A n cap xs (hR.below hb2) hlen
  clear CK NW
  go_wp2_with fail
  refine JO.out.mono ?_
  rintro e w3 ⟨ns3, A3, hb3, hres⟩
  have D3 := hb2.trans hb3
  have H3 := h.below D3
  have K3 := h.kbelow D3
  clear JO hb2 hb3 A2
  rcases hres with ⟨f, rfl, lf, ef⟩ | ⟨rfl, _⟩
  · obtain ⟨_, _, _, rl⟩ := h.row
    have hrow := rowOf_same (D3.block a h.lta)
    have TK : Hid (Calls Try.prog 22 #[.pointer (some ⟨a, 0, none⟩), .pointer (some ⟨a2, 0, none⟩), .int .i64 (f : Int)] w3 (OpPost base a M 14 most w3 ns (2 ^ 14 - 1) fun q => ev ns3 f q)) := take_ok H3 A3 (Nat.le_refl _) h.lta h.ltM (by rw [hrow]; exact rl) lf
    clear hrow rl A3
    go_wp2_with fail
    refine TK.out.mono ?_
    rintro e w4 hp
    obtain ⟨ns4, v4, er4, rfl, A4, K4, X4, _, d4⟩ := hp.pair
    have KK := K3.trans K4
    clear hp TK H3 K3 K4 D3
    have fin : Hid (BPm base a M most w' ns xs (.returned (.tuple #[.int .i64 v4, .int .i64 er4])) w4) := by
      rcases d4.out with ⟨rfl, f4, rfl, l4, e4⟩ | ⟨rfl, rfl, _⟩
      · exact ⟨ns4, A4, KK, X4, .inl ⟨f4, rfl, l4, fun x => (e4 x).trans (ef x)⟩⟩
      · exact ⟨ns4, A4, KK, X4, .inr rfl⟩
    clear d4 A4 KK X4 ef
    go_wp2_with fail
    go_ret2
    exact fin.out
  · have fin : Hid (BPm base a M most w' ns xs (.returned (.tuple #[.int .i64 0, .int .i64 6])) w3) := ⟨ns, H3, K3, Ext.refl _, .inr rfl⟩
    clear H3 K3 D3 A3
    go_wp2_with fail
    go_ret2
    exact fin.out

/-- What a maker of a set leaves: the set's number, or no room. -/
def SPost (base a M most : Nat) (φ : Env → Bool) (w : World) (ns : List Nd) (e : Ending) (w' : World) : Prop :=
  ∃ (ns' : List Nd) (v er : Int), e = .returned (.tuple #[.int .i64 v, .int .i64 er]) ∧ Ar base a M 14 most w' ns' ∧ Kp (ca base a M 14 most) w w' ∧ Ext ns ns' ∧
    Hd ((er = 0 ∧ ∃ f : Nat, v = (f : Int) ∧ f < ns'.length ∧ ∀ x, ev ns' f x = φ x) ∨ (er = 6 ∧ v = 0))
theorem BPm.set {base a M most : Nat} {w w' : World} {ns : List Nd} {xs : List Rl} {e : Ending} (h : BPm base a M most w ns xs e w') : SPost base a M most (letsF xs) w ns e w' := by
  obtain ⟨ns', r1, r2, r3, ⟨f, e1, e2, e3⟩ | e1⟩ := h
  · exact ⟨ns', f, 0, e1, r1, r2, r3, ⟨Or.inl ⟨rfl, f, rfl, e2, e3⟩⟩⟩
  · exact ⟨ns', 0, 6, e1, r1, r2, r3, ⟨Or.inr ⟨rfl, rfl⟩⟩⟩

/-- packet.Of. -/
theorem of_any (c : Nat) (w : World) (hc : c < 16384) :
    Calls Try.prog 19 #[.int .i64 (c : Int)] w fun e w' => e = .returned (.tuple #[pk ((c / 1024 : Nat) : Int) ((c / 64 % 16 : Nat) : Int) ((c / 8 % 8 : Nat) : Int) ((c % 8 : Nat) : Int), .int .i64 0]) ∧ Below w.heap.size w w' := by
  have t1 : decide ((c : Int) < 0) = false := by simp
  have t2 : decide ((16384 : Int) ≤ (c : Int)) = false := by simp; omega
  go_enter Try.func19, Try.ntmps19
  go_wp2_with fail
  exact bodyPost_ret (v := .tuple #[pk ((c / 1024 : Nat) : Int) ((c / 64 % 16 : Nat) : Int) ((c / 8 % 8 : Nat) : Int) ((c % 8 : Nat) : Int), .int .i64 0]) (by simp [results, Try.results19, go_sem]) rfl ⟨rfl, by go_grown⟩

theorem Ar.locOld {base a M vars most : Nat} {w : World} {ns : List Nd} (h : Ar base a M vars most w ns) {i : Nat} {cs : Array Value} {t : TypeId} (hi : i < base) (hb : w.heap[i]? = some (.cells cs t)) : Loc (ca base a M vars most) w i cs t := by
  obtain ⟨_, _, rb, _⟩ := h.row
  refine ⟨⟨(Array.getElem?_eq_some_iff.1 hb).1, ?_, by show i ≠ rowOf w a; omega⟩, hb⟩
  exact h.notMine hi
theorem Loc.four' {C : Cfg} {w : World} {i : Nat} {x y z u : Value} {t : TypeId} (h : Loc C w i #[x, y, z, u] t) : (w.cell? ⟨i, 0, none⟩ = some x ∧ w.cell? ⟨i, 1, none⟩ = some y ∧ w.cell? ⟨i, 2, none⟩ = some z ∧ w.cell? ⟨i, 3, none⟩ = some u) ∧ (∀ j, w.frozen? ⟨i, j, none⟩ = false) ∧ i < w.heap.size := by
  have hb := h.blk
  refine ⟨⟨?_, ?_, ?_, ?_⟩, fun j => by simp [World.frozen?, hb], h.out.lt⟩
  · rw [cell_of_row w i 0 _ _ _ hb]; rfl
  · rw [cell_of_row w i 1 _ _ _ hb]; rfl
  · rw [cell_of_row w i 2 _ _ _ hb]; rfl
  · rw [cell_of_row w i 3 _ _ _ hb]; rfl
abbrev zp : Value := .agg #[.int .i64 0, .int .i64 0, .int .i64 0, .int .i64 0]
abbrev zc : Obj := .cells #[.int .i64 0, .int .i64 0, .int .i64 0, .int .i64 0] 24
/-- What two sets that are held against each other tell. -/
def BtPost (φ ψ : Env → Bool) (e : Ending) : Prop :=
  e = .returned (.tuple #[zp, .int .i64 0, .int .i64 6]) ∨
  (e = .returned (.tuple #[zp, .int .i64 0, .int .i64 0]) ∧ ∀ x, φ x = ψ x) ∨
  ∃ c : Nat, e = .returned (.tuple #[pk ((c / 1024 : Nat) : Int) ((c / 64 % 16 : Nat) : Int) ((c / 8 % 8 : Nat) : Int) ((c % 8 : Nat) : Int), .int .i64 (if φ (envOf 14 c) then 1 else 2), .int .i64 0]) ∧ LeastD 16384 (fun c => φ (envOf 14 c)) (fun c => ψ (envOf 14 c)) c
end Go.Proofs.Ytnjfckbpmilhnaa



namespace Go.Proofs.Ytnjfckbpmilhnaa
open Go.RowKit Go.Maps

set_option maxHeartbeats 4000000 in
set_option maxRecDepth 100000 in
theorem between_rules {most n0 n1 : Nat} (w : World) (hm1 : 2 ≤ most) (hm2 : most ≤ 40000) (φ ψ : Env → Bool)
    (CA : Hd (∀ base a M W ns, w.heap.size ≤ base → Below w.heap.size w W → Ar base a M 14 most W ns → Calls Try.prog 12 #[.pointer (some ⟨a, 0, none⟩), .pointer (some ⟨n0, 0, none⟩)] W (SPost base a M most φ W ns)))
    (CB : Hd (∀ base a M W ns, w.heap.size ≤ base → Below w.heap.size w W → Ar base a M 14 most W ns → Calls Try.prog 14 #[.pointer (some ⟨a, 0, none⟩), .pointer (some ⟨n1, 0, none⟩)] W (SPost base a M most ψ W ns))) :
    Calls Try.prog 11 #[.int .i64 (most : Int), .func (.func 12) #[] #[.pointer (some ⟨n0, 0, none⟩)], .func (.func 14) #[] #[.pointer (some ⟨n1, 0, none⟩)]] w fun e w' => BtPost φ ψ e ∧ Below w.heap.size w w' := by
  have NW : Hd (Calls Try.prog 17 #[.int .i64 14, .int .i64 (most : Int)] (w.alloc zc) fun e w' => ∃ a M, e = .returned (.tuple #[.pointer (some ⟨a, 0, none⟩), .int .i64 0]) ∧ Ar (w.alloc zc).heap.size a M 14 most w' [(14, 0, 0), (14, 1, 1)] ∧ Below (w.alloc zc).heap.size (w.alloc zc) w') := ⟨new_ok (v := 14) (m := most) _ (by omega) (by omega) hm1 hm2⟩
  have D1 := Below.alloc' (Below.refl w.heap.size w) zc
  go_enter Try.func11, Try.ntmps11
  go_wp2_with fail
  refine NW.out.mono ?_
  rintro e w2 ⟨a, M, rfl, A2, hb2⟩
  have Q2 : Loc (ca _ a M 14 most) w2 w.heap.size #[.int .i64 0, .int .i64 0, .int .i64 0, .int .i64 0] 24 := A2.locOld (by simp) ((hb2.block _ (by simp)).trans (Go.heap_alloc_new _ _))
  have D2 := chain hb2 D1
  have hbs : w.heap.size ≤ (w.alloc zc).heap.size := by simp
  clear hb2 D1 NW
  generalize (w.alloc zc).heap.size = base at *
  go_wp2_with fail
  refine (CA.out base a M w2 _ hbs D2 A2).mono ?_
  rintro e w3 ⟨ns3, v3, er3, rfl, A3, K3, X3, R3⟩
  have Q3 := Q2.kp K3
  have D3 := D2.trans ((A2.kp_below K3).mono hbs)
  clear Q2 D2 A2 K3 X3 CA
  rcases R3.out.symm with ⟨rfl, rfl⟩ | ⟨rfl, f, rfl, lf, ef⟩
  · obtain ⟨⟨q0, q1, q2, q3⟩, qf, ql⟩ := Q3.four'
    clear R3 Q3 A3
    go_wp2_with fail
    refine bodyPost_ret (v := .tuple #[zp, .int .i64 0, .int .i64 6]) (by simp [results, Try.results11, go_sem, q0, q1, q2, q3]) rfl ⟨Or.inl rfl, ?_⟩
    go_grown
  clear R3
  go_wp2_with fail
  refine (CB.out base a M w3 _ hbs D3 A3).mono ?_
  rintro e w4 ⟨ns4, v4, er4, rfl, A4, K4, X4, R4⟩
  have Q4 := Q3.kp K4
  have D4 := D3.trans ((A3.kp_below K4).mono hbs)
  have lf4 : f < ns4.length := Nat.lt_of_lt_of_le lf X4.len
  have ef4 : Hd (∀ x, ev ns4 f x = φ x) := ⟨fun x => (X4.ev A3.wf A4.wf f lf x).trans (ef x)⟩
  clear Q3 D3 A3 K4 X4 CB lf ef
  rcases R4.out.symm with ⟨rfl, rfl⟩ | ⟨rfl, g, rfl, lg, eg⟩
  · obtain ⟨⟨q0, q1, q2, q3⟩, qf, ql⟩ := Q4.four'
    clear R4 Q4 A4
    go_wp2_with fail
    refine bodyPost_ret (v := .tuple #[zp, .int .i64 0, .int .i64 6]) (by simp [results, Try.results11, go_sem, q0, q1, q2, q3]) rfl ⟨Or.inl rfl, ?_⟩
    go_grown
  have eg4 : Hd (∀ x, ev ns4 g x = ψ x) := ⟨eg⟩
  clear R4 eg
  go_wp2_with fail
  refine (differ_ok A4 lf4 lg).mono ?_
  rintro e w5 ⟨c, ok, rfl, T5, A5, K5⟩
  have Q5 := Q4.kp K5
  have D5 := D4.trans ((A4.kp_below K5).mono hbs)
  clear Q4 D4 A4 K5
  cases ok
  · have fin : Hd (BtPost φ ψ (.returned (.tuple #[zp, .int .i64 0, .int .i64 0]))) := ⟨Or.inr (Or.inl ⟨rfl, fun x => by
      rcases T5.out with ⟨rfl, _⟩ | ⟨_, h, _⟩
      · rw [← ef4.out, ← eg4.out]
      · cases h⟩)⟩
    obtain ⟨⟨q0, q1, q2, q3⟩, qf, ql⟩ := Q5.four'
    clear T5 Q5 A5
    go_wp2_with fail
    refine bodyPost_ret (v := .tuple #[zp, .int .i64 0, .int .i64 0]) (by simp [results, Try.results11, go_sem, q0, q1, q2, q3]) rfl ⟨fin.out, ?_⟩
    go_grown
  have least : Hd (LeastD 16384 (fun c => φ (envOf 14 c)) (fun c => ψ (envOf 14 c)) c) := ⟨by
    rcases T5.out with ⟨_, _, h⟩ | ⟨_, _, h⟩
    · cases h
    · obtain ⟨h1, h2, h3⟩ := h
      refine ⟨h1, ?_, fun d hd => ?_⟩
      · show φ _ ≠ ψ _
        rw [← ef4.out, ← eg4.out]
        exact h2
      · show φ _ = ψ _
        rw [← ef4.out, ← eg4.out]
        exact h3 d hd⟩
  have hc : c < 16384 := least.out.1
  have EV : Hd (Calls Try.prog 20 #[.pointer (some ⟨a, 0, none⟩), .int .i64 (f : Int), .int .i64 (c : Int)] _ _) := ⟨eval_ok A5 lf4 (b := c) hc⟩
  clear EV
  clear T5
  have OF : Hd (∀ w, Calls Try.prog 19 #[.int .i64 (c : Int)] w fun e w' => e = .returned (.tuple #[pk ((c / 1024 : Nat) : Int) ((c / 64 % 16 : Nat) : Int) ((c / 8 % 8 : Nat) : Int) ((c % 8 : Nat) : Int), .int .i64 0]) ∧ Below w.heap.size w w') := ⟨fun w => of_any c w hc⟩
  have FIN : Hd (∀ k : Int, k = (if φ (envOf 14 c) then 1 else 2) → BtPost φ ψ (.returned (.tuple #[pk ((c / 1024 : Nat) : Int) ((c / 64 % 16 : Nat) : Int) ((c / 8 % 8 : Nat) : Int) ((c % 8 : Nat) : Int), .int .i64 k, .int .i64 0]))) := ⟨fun k hk => Or.inr (Or.inr ⟨c, by rw [hk], least.out⟩)⟩
  clear least
  generalize c / 1024 = p0 at *
  generalize c / 64 % 16 = p1 at *
  generalize c / 8 % 8 = p2 at *
  generalize c % 8 = p3 at *
  go_wp2_with fail
  refine (OF.out _).mono ?_
  rintro e w6 ⟨rfl, hb6⟩
  have D6 := chain hb6 D5
  have Q6 := Q5.below A5 hb6
  have A6 := A5.below hb6
  have A7 := A6.alloc (.cells #[.int .i64 (p0 : Int), .int .i64 (p1 : Int), .int .i64 (p2 : Int), .int .i64 (p3 : Int)] 24)
  have L7 := A6.loc #[.int .i64 (p0 : Int), .int .i64 (p1 : Int), .int .i64 (p2 : Int), .int .i64 (p3 : Int)] 24
  have Q7 := Q6.kp (Ar.kalloc' A6 (.cells #[.int .i64 (p0 : Int), .int .i64 (p1 : Int), .int .i64 (p2 : Int), .int .i64 (p3 : Int)] 24))
  have D7 := Below.alloc' D6 (.cells #[.int .i64 (p0 : Int), .int .i64 (p1 : Int), .int .i64 (p2 : Int), .int .i64 (p3 : Int)] 24)
  have EV : Hd (Calls Try.prog 20 #[.pointer (some ⟨a, 0, none⟩), .int .i64 (f : Int), .int .i64 (c : Int)] (w6.alloc (.cells #[.int .i64 (p0 : Int), .int .i64 (p1 : Int), .int .i64 (p2 : Int), .int .i64 (p3 : Int)] 24)) fun e w' => e = .returned (.tuple #[.bool (ev ns4 f (envOf 14 c)), .int .i64 0]) ∧ Ar base a M 14 most w' ns4 ∧ Kp (ca base a M 14 most) (w6.alloc (.cells #[.int .i64 (p0 : Int), .int .i64 (p1 : Int), .int .i64 (p2 : Int), .int .i64 (p3 : Int)] 24)) w') := ⟨eval_ok A7 lf4 (b := c) hc⟩
  have ev7 := ef4.out (envOf 14 c)
  rw [ev7] at EV
  clear hb6 D5 Q5 A5 Q6 A6 D6 ev7 OF
  go_wp2_with fail
  refine EV.out.mono ?_
  rintro e w8 ⟨rfl, A8, K8⟩
  have Q8 := Q7.kp K8
  have L8 := L7.kp K8
  have D8 := D7.trans ((A7.kp_below K8).mono hbs)
  obtain ⟨⟨q0, q1, q2, q3⟩, qf, ql⟩ := Q8.four'
  obtain ⟨⟨l0, l1, l2, l3⟩, lf', ll⟩ := L8.four'
  clear EV A7 A8 K8 Q7 L7 D7 Q8 L8
  cases hphi : φ (envOf 14 c)
  · have fin := FIN.out 2 (by rw [hphi]; rfl)
    clear FIN
    go_wp2_with fail
    refine bodyPost_ret (v := .tuple #[pk (p0 : Int) (p1 : Int) (p2 : Int) (p3 : Int), .int .i64 2, .int .i64 0]) (by simp [results, Try.results11, go_sem, q0, q1, q2, q3]) rfl ⟨fin, ?_⟩
    go_grown
  · have fin := FIN.out 1 (by rw [hphi]; rfl)
    clear FIN
    go_wp2_with fail
    refine bodyPost_ret (v := .tuple #[pk (p0 : Int) (p1 : Int) (p2 : Int) (p3 : Int), .int .i64 1, .int .i64 0]) (by simp [results, Try.results11, go_sem, q0, q1, q2, q3]) rfl ⟨fin, ?_⟩
    go_grown
end Go.Proofs.Ytnjfckbpmilhnaa



namespace Go.Proofs.Ytnjfckbpmilhnaa
open Go.RowKit Go.Maps

set_option maxHeartbeats 1000000 in
theorem rules_set1 {most n0 : Nat} (A : Option Addr) (n cap : Nat) (xs : List Rl) (w : World) (hn : n0 < w.heap.size) (q0 : w.cell? ⟨n0, 0, none⟩ = some (.slice A n cap)) (hR : Rules w.heap.size w (.slice A n cap) xs) (hlen : xs.length ≤ 8) :
    Hd (∀ base a M W ns, w.heap.size ≤ base → Below w.heap.size w W → Ar base a M 14 most W ns → Calls Try.prog 12 #[.pointer (some ⟨a, 0, none⟩), .pointer (some ⟨n0, 0, none⟩)] W (SPost base a M most (letsF xs) W ns)) := ⟨fun base a M W ns _ hb hA => by
  have q1 : W.cell? ⟨n0, 0, none⟩ = some (.slice A n cap) := (hb.cell hn).trans q0
  have hlt : n0 < W.heap.size := Nat.lt_of_lt_of_le hn hb.size
  have BU : Hd (Calls Try.prog 13 #[.pointer (some ⟨a, 0, none⟩), .slice A n cap] W (BPm base a M most W ns xs)) := ⟨abuild_m hA A n cap xs ((hR.below hb).mono hb.size) hlen⟩
  clear hR hlen q0 hn hb hA
  go_enter Try.func12, Try.ntmps12
  go_wp2_with fail
  refine BU.out.mono ?_
  rintro e w2 hp
  obtain ⟨ns', v, er, rfl, r1, r2, r3, r4⟩ := hp.set
  clear BU hp
  have fin : Hd (SPost base a M most (letsF xs) W ns (.returned (.tuple #[.int .i64 v, .int .i64 er])) w2) := ⟨⟨ns', v, er, rfl, r1, r2, r3, r4⟩⟩
  clear r1 r2 r3 r4
  go_wp2_with fail
  go_ret2
  exact fin.out⟩

set_option maxHeartbeats 1000000 in
theorem rules_set2 {most n0 : Nat} (A : Option Addr) (n cap : Nat) (xs : List Rl) (w : World) (hn : n0 < w.heap.size) (q0 : w.cell? ⟨n0, 0, none⟩ = some (.slice A n cap)) (hR : Rules w.heap.size w (.slice A n cap) xs) (hlen : xs.length ≤ 8) :
    Hd (∀ base a M W ns, w.heap.size ≤ base → Below w.heap.size w W → Ar base a M 14 most W ns → Calls Try.prog 14 #[.pointer (some ⟨a, 0, none⟩), .pointer (some ⟨n0, 0, none⟩)] W (SPost base a M most (letsF xs) W ns)) := ⟨fun base a M W ns _ hb hA => by
  have q1 : W.cell? ⟨n0, 0, none⟩ = some (.slice A n cap) := (hb.cell hn).trans q0
  have hlt : n0 < W.heap.size := Nat.lt_of_lt_of_le hn hb.size
  have BU : Hd (Calls Try.prog 13 #[.pointer (some ⟨a, 0, none⟩), .slice A n cap] W (BPm base a M most W ns xs)) := ⟨abuild_m hA A n cap xs ((hR.below hb).mono hb.size) hlen⟩
  clear hR hlen q0 hn hb hA
  go_enter Try.func14, Try.ntmps14
  go_wp2_with fail
  refine BU.out.mono ?_
  rintro e w2 hp
  obtain ⟨ns', v, er, rfl, r1, r2, r3, r4⟩ := hp.set
  clear BU hp
  have fin : Hd (SPost base a M most (letsF xs) W ns (.returned (.tuple #[.int .i64 v, .int .i64 er])) w2) := ⟨⟨ns', v, er, rfl, r1, r2, r3, r4⟩⟩
  clear r1 r2 r3 r4
  go_wp2_with fail
  go_ret2
  exact fin.out⟩

/-- New, where there is no such room. -/
theorem new_badD (m : Int) (w : World) (hm : m < 2 ∨ 40000 < m) :
    Calls Try.prog 17 #[.int .i64 14, .int .i64 m] w fun e w' => e = .returned (.tuple #[.pointer none, .int .i64 1]) ∧ w' = w := by
  rcases hm with hm | hm
  · have t1 : decide (m < 2) = true := by simp; omega
    go_enter Try.func17, Try.ntmps17
    go_wp2_with fail
    go_ret2
    exact ⟨rfl, rfl⟩
  · have t1 : decide (m < 2) = false := by simp; omega
    have t2 : decide (40000 < m) = true := by simp; omega
    go_enter Try.func17, Try.ntmps17
    go_wp2_with fail
    go_ret2
    exact ⟨rfl, rfl⟩
set_option maxHeartbeats 1000000 in
theorem between_bad (m : Int) (f g : Value) (w : World) (hm : m < 2 ∨ 40000 < m) :
    Calls Try.prog 11 #[.int .i64 m, f, g] w fun e w' => e = .returned (.tuple #[zp, .int .i64 0, .int .i64 1]) ∧ Below w.heap.size w w' := by
  have NW : Hd (∀ w, Calls Try.prog 17 #[.int .i64 14, .int .i64 m] w fun e w' => e = .returned (.tuple #[.pointer none, .int .i64 1]) ∧ w' = w) := ⟨fun w => new_badD m w hm⟩
  clear hm
  have D1 := Below.alloc' (Below.refl w.heap.size w) zc
  go_enter Try.func11, Try.ntmps11
  go_wp2_with fail
  refine (NW.out _).mono ?_
  rintro e w2 ⟨rfl, rfl⟩
  go_wp2_with fail
  refine bodyPost_ret (v := .tuple #[zp, .int .i64 0, .int .i64 1]) (by simp [results, Try.results11, go_sem]) rfl ⟨rfl, ?_⟩
  go_grown

theorem box_four {w : World} {i : Nat} {x y z u : Value} {t : TypeId} (hb : w.heap[i]? = some (.cells #[x, y, z, u] t)) : (w.cell? ⟨i, 0, none⟩ = some x ∧ w.cell? ⟨i, 1, none⟩ = some y ∧ w.cell? ⟨i, 2, none⟩ = some z ∧ w.cell? ⟨i, 3, none⟩ = some u) ∧ (∀ j, w.frozen? ⟨i, j, none⟩ = false) ∧ i < w.heap.size := by
  refine ⟨⟨?_, ?_, ?_, ?_⟩, fun j => by simp [World.frozen?, hb], (Array.getElem?_eq_some_iff.1 hb).1⟩
  · rw [cell_of_row w i 0 _ _ _ hb]; rfl
  · rw [cell_of_row w i 1 _ _ _ hb]; rfl
  · rw [cell_of_row w i 2 _ _ _ hb]; rfl
  · rw [cell_of_row w i 3 _ _ _ hb]; rfl
/-- What Rules tells. -/
def RuPost (n m : Nat) (most : Int) (φ ψ : Env → Bool) (e : Ending) : Prop :=
  if 8 < n ∨ 8 < m then e = .returned (.tuple #[zp, .int .i64 0, .int .i64 2])
  else if most < 2 ∨ 40000 < most then e = .returned (.tuple #[zp, .int .i64 0, .int .i64 1])
  else BtPost φ ψ e
theorem BtPost.parts {φ ψ : Env → Bool} {e : Ending} (h : BtPost φ ψ e) : ∃ x0 x1 x2 x3 k er : Int, e = .returned (.tuple #[pk x0 x1 x2 x3, .int .i64 k, .int .i64 er]) := by
  rcases h with rfl | ⟨rfl, _⟩ | ⟨c, rfl, _⟩
  · exact ⟨0, 0, 0, 0, 0, 6, rfl⟩
  · exact ⟨0, 0, 0, 0, 0, 0, rfl⟩
  · exact ⟨_, _, _, _, _, _, rfl⟩

abbrev slC (A : Option Addr) (n cap : Nat) : Obj := .cells #[.slice A n cap] 22
set_option maxHeartbeats 4000000 in
set_option maxRecDepth 100000 in
theorem rules_any (A B : Option Addr) (n cap m cap2 : Nat) (xs ys : List Rl) (most : Int) (w : World) (hR : Rules w.heap.size w (.slice A n cap) xs) (hS : Rules w.heap.size w (.slice B m cap2) ys) :
    Calls Try.prog 4 #[.slice A n cap, .slice B m cap2, .int .i64 most] w fun e w' => RuPost n m most (letsF xs) (letsF ys) e ∧ Below w.heap.size w w' := by
  have hn : n = xs.length := by
    obtain ⟨_, _, e, _⟩ := hR
    cases e
    rfl
  have hm : m = ys.length := by
    obtain ⟨_, _, e, _⟩ := hS
    cases e
    rfl
  have W1 := Below.alloc' (Below.refl w.heap.size w) (slC A n cap)
  have W2 := Below.alloc' W1 (slC B m cap2)
  have W3 := Below.alloc' W2 zc
  by_cases h1 : 8 < n
  · have C1 : Hd (∀ w, Calls Try.prog 10 #[.slice A n cap] w fun e w' => e = .returned (.int .i64 2) ∧ w' = w) := ⟨fun w => by have := check_ok A n cap w; rw [if_pos h1] at this; exact this⟩
    have fin : Hd (RuPost n m most (letsF xs) (letsF ys) (.returned (.tuple #[zp, .int .i64 0, .int .i64 2]))) := ⟨by unfold RuPost; rw [if_pos (Or.inl h1)]⟩
    clear h1 hR hS hn hm
    go_enter Try.func4, Try.ntmps4
    go_wp2_with (go_at_call 10; refine (C1.out _).mono ?_; rintro e w' ⟨rfl, rfl⟩)
    exact bodyPost_ret (v := .tuple #[zp, .int .i64 0, .int .i64 2]) (by simp [results, Try.results4, go_sem]) rfl ⟨fin.out, by go_grown⟩
  have C1 : Hd (∀ w, Calls Try.prog 10 #[.slice A n cap] w fun e w' => e = .returned (.int .i64 0) ∧ w' = w) := ⟨fun w => by have := check_ok A n cap w; rw [if_neg h1] at this; exact this⟩
  by_cases h2 : 8 < m
  · have C2 : Hd (∀ w, Calls Try.prog 10 #[.slice B m cap2] w fun e w' => e = .returned (.int .i64 2) ∧ w' = w) := ⟨fun w => by have := check_ok B m cap2 w; rw [if_pos h2] at this; exact this⟩
    have fin : Hd (RuPost n m most (letsF xs) (letsF ys) (.returned (.tuple #[zp, .int .i64 0, .int .i64 2]))) := ⟨by unfold RuPost; rw [if_pos (Or.inr h2)]⟩
    clear h1 h2 hR hS hn hm
    go_enter Try.func4, Try.ntmps4
    go_wp2_with fail
    refine (C1.out _).mono ?_
    rintro e w' ⟨rfl, rfl⟩
    go_wp2_with fail
    refine (C2.out _).mono ?_
    rintro e w' ⟨rfl, rfl⟩
    go_wp2_with fail
    exact bodyPost_ret (v := .tuple #[zp, .int .i64 0, .int .i64 2]) (by simp [results, Try.results4, go_sem]) rfl ⟨fin.out, by go_grown⟩
  have C2 : Hd (∀ w, Calls Try.prog 10 #[.slice B m cap2] w fun e w' => e = .returned (.int .i64 0) ∧ w' = w) := ⟨fun w => by have := check_ok B m cap2 w; rw [if_neg h2] at this; exact this⟩
  have R0 : Hd (∀ e, RuPost n m most (letsF xs) (letsF ys) e = if most < 2 ∨ 40000 < most then e = .returned (.tuple #[zp, .int .i64 0, .int .i64 1]) else BtPost (letsF xs) (letsF ys) e) := ⟨fun e => by unfold RuPost; rw [if_neg (by omega)]⟩
  have l1 : xs.length ≤ 8 := by omega
  have l2 : ys.length ≤ 8 := by omega
  clear h1 h2 hn hm
  by_cases h3 : most < 2 ∨ 40000 < most
  · have BT : Hd (∀ f g w, Calls Try.prog 11 #[.int .i64 most, f, g] w fun e w' => e = .returned (.tuple #[zp, .int .i64 0, .int .i64 1]) ∧ Below w.heap.size w w') := ⟨fun f g w => between_bad most f g w h3⟩
    have fin : Hd (RuPost n m most (letsF xs) (letsF ys) (.returned (.tuple #[zp, .int .i64 0, .int .i64 1]))) := ⟨by rw [R0.out, if_pos h3]⟩
    clear h3 hR hS
    go_enter Try.func4, Try.ntmps4
    go_wp2_with fail
    refine (C1.out _).mono ?_
    rintro e w' ⟨rfl, rfl⟩
    go_wp2_with fail
    refine (C2.out _).mono ?_
    rintro e w' ⟨rfl, rfl⟩
    go_wp2_with fail
    refine (BT.out _ _ _).mono ?_
    rintro e w4 ⟨rfl, hb4⟩
    have W4 := chain hb4 W3
    have Z4 : w4.heap[w.heap.size + 1 + 1]? = some zc := (hb4.block _ (by simp)).trans (by rw [show w.heap.size + 1 + 1 = ((w.alloc (slC A n cap)).alloc (slC B m cap2)).heap.size by simp]; exact Go.heap_alloc_new _ _)
    obtain ⟨⟨q0, q1, q2, q3⟩, qf, ql⟩ := box_four Z4
    clear hb4 W1 W2 W3 Z4 C1 C2 BT
    go_wp2_with fail
    exact bodyPost_ret (v := .tuple #[zp, .int .i64 0, .int .i64 1]) (by simp [results, Try.results4, go_sem, q0, q1, q2, q3]) rfl ⟨fin.out, by go_grown⟩
  have R1 : Hd (∀ e, BtPost (letsF xs) (letsF ys) e → RuPost n m most (letsF xs) (letsF ys) e) := ⟨fun e he => by rw [R0.out, if_neg h3]; exact he⟩
  clear R0
  obtain ⟨mo, rfl⟩ : ∃ mo : Nat, most = (mo : Int) := ⟨most.toNat, by omega⟩
  have BT : Hd (Calls Try.prog 11 #[.int .i64 (mo : Int), .func (.func 12) #[] #[.pointer (some ⟨w.heap.size, 0, none⟩)], .func (.func 14) #[] #[.pointer (some ⟨w.heap.size + 1, 0, none⟩)]] (((w.alloc (slC A n cap)).alloc (slC B m cap2)).alloc zc) fun e w' => BtPost (letsF xs) (letsF ys) e ∧ Below (((w.alloc (slC A n cap)).alloc (slC B m cap2)).alloc zc).heap.size (((w.alloc (slC A n cap)).alloc (slC B m cap2)).alloc zc) w') := ⟨by
    refine between_rules _ (by omega) (by omega) _ _ (rules_set1 A n cap xs _ (by simp; omega) ?_ ((hR.below W3).mono W3.size) l1) (rules_set2 B m cap2 ys _ (by simp) ?_ ((hS.below W3).mono W3.size) l2)
    · have h0 : (((w.alloc (slC A n cap)).alloc (slC B m cap2)).alloc zc).heap[w.heap.size]? = some (slC A n cap) := by
        rw [Below.heap_alloc _ _ _ (by simp; omega), Below.heap_alloc _ _ _ (by simp)]
        exact Go.heap_alloc_new _ _
      rw [cell_of_row _ _ 0 _ _ _ h0]
      rfl
    · have h0 : (((w.alloc (slC A n cap)).alloc (slC B m cap2)).alloc zc).heap[w.heap.size + 1]? = some (slC B m cap2) := by
        rw [Below.heap_alloc _ _ _ (by simp), show w.heap.size + 1 = (w.alloc (slC A n cap)).heap.size by simp]
        exact Go.heap_alloc_new _ _
      rw [cell_of_row _ _ 0 _ _ _ h0]
      rfl⟩
  clear h3 hR hS l1 l2
  generalize letsF xs = φ at *
  generalize letsF ys = ψ at *
  go_enter Try.func4, Try.ntmps4
  go_wp2_with fail
  refine (C1.out _).mono ?_
  rintro e w' ⟨rfl, rfl⟩
  go_wp2_with fail
  refine (C2.out _).mono ?_
  rintro e w' ⟨rfl, rfl⟩
  go_wp2_with fail
  refine BT.out.mono ?_
  rintro e w4 ⟨hp, hb4⟩
  obtain ⟨x0, x1, x2, x3, k, er, rfl⟩ := hp.parts
  have fin := Hd.mk (R1.out _ hp)
  have W4 := chain hb4 W3
  have Z4 : w4.heap[w.heap.size + 1 + 1]? = some zc := (hb4.block _ (by simp)).trans (by rw [show w.heap.size + 1 + 1 = ((w.alloc (slC A n cap)).alloc (slC B m cap2)).heap.size by simp]; exact Go.heap_alloc_new _ _)
  obtain ⟨⟨q0, q1, q2, q3⟩, qf, ql⟩ := box_four Z4
  clear hb4 W1 W2 W3 Z4 C1 C2 BT hp R1
  go_wp2_with fail
  exact bodyPost_ret (v := .tuple #[pk x0 x1 x2 x3, .int .i64 k, .int .i64 er]) (by simp [results, Try.results4, go_sem, q0, q1, q2, q3]) rfl ⟨fin.out, by go_grown⟩
end Go.Proofs.Ytnjfckbpmilhnaa



namespace Go.Proofs.Ytnjfckbpmilhnaa
open Go.RowKit

theorem rin_any (n : Int) (w : World) : Calls Try.prog 5 #[.int .i64 n, .int .i64 0, .int .i64 15] w fun e w' => e = .returned (.bool (decide (0 ≤ n) && decide (n ≤ 15))) ∧ w' = w := by
  by_cases h0 : 0 ≤ n
  · have t : decide (0 ≤ n) = true := by simp [h0]
    go_enter Try.func5, Try.ntmps5
    go_wp2_with fail
    go_ret
    exact ⟨by simp [h0], rfl⟩
  · have t : decide (0 ≤ n) = false := by simp; omega
    go_enter Try.func5, Try.ntmps5
    go_wp2_with fail
    go_ret
    exact ⟨by simp, rfl⟩

set_option maxHeartbeats 400000 in
theorem rhas_nat (b : Nat) (n : Nat) (w : World) (hn : n < 16) :
    Calls Try.prog 23 #[.int .i64 (b : Int), .int .i64 (n : Int)] w fun e w' => e = .returned (.bool (b.testBit n)) ∧ w' = w := by
  have t : (decide ((0 : Int) ≤ (n : Int)) && decide ((n : Int) ≤ 15)) = true := by simp; omega
  have he : Hid ((((b : Int) / 2 ^ n).tmod 2 == 1) = b.testBit n) := by
    show _ = _
    rw [Nat.testBit, Nat.one_and_eq_mod_two, show ((b : Int) / 2 ^ n) = ((b >>> n : Nat) : Int) by rw [Nat.shiftRight_eq_div_pow]; simp]
    have e : (((b >>> n : Nat) : Int).tmod 2) = (((b >>> n) % 2 : Nat) : Int) := rfl
    rw [e]
    have : (b >>> n) % 2 = 0 ∨ (b >>> n) % 2 = 1 := by omega
    rcases this with h | h <;> rw [h] <;> rfl
  go_enter Try.func23, Try.ntmps23
  go_wp2_with (go_at_call 5; refine (rin_any _ _).mono ?_; rintro e w' ⟨rfl, rfl⟩; rw [t])
  go_ret
  refine ⟨?_, rfl⟩
  rw [← he.out]
  simp
set_option maxHeartbeats 400000 in
theorem rhas_int (b : Nat) (n : Int) (w : World) (h1 : b < 65536) :
    Calls Try.prog 23 #[.int .i64 (b : Int), .int .i64 n] w fun e w' => e = .returned (.bool (hasB b n)) ∧ w' = w := by
  by_cases hn : 0 ≤ n ∧ n ≤ 15
  · obtain ⟨k, rfl⟩ : ∃ k : Nat, n = k := ⟨n.toNat, by omega⟩
    have e : hasB b (k : Int) = b.testBit k := by simp [hasB]
    rw [e]
    exact rhas_nat b k w (by omega)
  · have t : (decide ((0 : Int) ≤ n) && decide (n ≤ 15)) = false := by
      by_cases h : 0 ≤ n
      · simp; omega
      · simp; omega
    have e : hasB b n = false := by
      unfold hasB
      by_cases h : 0 ≤ n
      · rw [Nat.testBit_lt_two_pow (Nat.lt_of_lt_of_le h1 (Nat.pow_le_pow_right (n := 2) (by omega) (show 16 ≤ n.toNat by omega)))]
        simp
      · simp; omega
    rw [e]
    clear hn e
    go_enter Try.func23, Try.ntmps23
    go_wp2_with (go_at_call 5; refine (rin_any _ _).mono ?_; rintro e w' ⟨rfl, rfl⟩; rw [t])
    go_ret
    exact ⟨rfl, rfl⟩

set_option maxHeartbeats 400000 in
theorem rpacket_any (c : Nat) (w : World) (hc : c < 16384) :
    Calls Try.prog 15 #[.int .i64 (c : Int)] w fun e w' => e = .returned (pk ((c / 1024 : Nat) : Int) ((c / 64 % 16 : Nat) : Int) ((c / 8 % 8 : Nat) : Int) ((c % 8 : Nat) : Int)) ∧ Below w.heap.size w w' := by
  go_enter Try.func15, Try.ntmps15
  go_wp2_with fail
  exact bodyPost_ret (v := pk ((c / 1024 : Nat) : Int) ((c / 64 % 16 : Nat) : Int) ((c / 8 % 8 : Nat) : Int) ((c % 8 : Nat) : Int)) (by simp [results, Try.results15, go_sem]) rfl ⟨rfl, by go_grown⟩

set_option maxHeartbeats 1000000 in
theorem rHas_case (a b c d : Nat) (p q r s : Int) (w : World) (x0 x1 x2 x3 : Bool) (ha : a < 65536) (hb : b < 65536) (hc : c < 256) (hd : d < 256)
    (k0 : Hid (∀ w, Calls Try.prog 23 #[.int .i64 (a : Int), .int .i64 p] w fun e w' => e = .returned (.bool x0) ∧ w' = w))
    (k1 : Hid (∀ w, Calls Try.prog 23 #[.int .i64 (b : Int), .int .i64 q] w fun e w' => e = .returned (.bool x1) ∧ w' = w))
    (k2 : Hid (∀ w, Calls Try.prog 23 #[.int .i64 (c : Int), .int .i64 r] w fun e w' => e = .returned (.bool x2) ∧ w' = w))
    (k3 : Hid (∀ w, Calls Try.prog 23 #[.int .i64 (d : Int), .int .i64 s] w fun e w' => e = .returned (.bool x3) ∧ w' = w)) :
    Calls Try.prog 16 #[mt a b c d, pk p q r s] w fun e w' => e = .returned (.bool (x0 && x1 && x2 && x3)) ∧ Below w.heap.size w w' := by
  cases x0
  · go_enter Try.func16, Try.ntmps16
    go_wp2_with fail
    refine (k0.out _).mono ?_
    rintro e w1 ⟨rfl, rfl⟩
    go_wp2_with fail
    go_ret
    exact ⟨by simp, by go_grown⟩
  cases x1
  · go_enter Try.func16, Try.ntmps16
    go_wp2_with fail
    refine (k0.out _).mono ?_
    rintro e w1 ⟨rfl, rfl⟩
    go_wp2_with fail
    refine (k1.out _).mono ?_
    rintro e w1 ⟨rfl, rfl⟩
    go_wp2_with fail
    go_ret
    exact ⟨by simp, by go_grown⟩
  cases x2
  · go_enter Try.func16, Try.ntmps16
    go_wp2_with fail
    refine (k0.out _).mono ?_
    rintro e w1 ⟨rfl, rfl⟩
    go_wp2_with fail
    refine (k1.out _).mono ?_
    rintro e w1 ⟨rfl, rfl⟩
    go_wp2_with fail
    refine (k2.out _).mono ?_
    rintro e w1 ⟨rfl, rfl⟩
    go_wp2_with fail
    go_ret
    exact ⟨by simp, by go_grown⟩
  · go_enter Try.func16, Try.ntmps16
    go_wp2_with fail
    refine (k0.out _).mono ?_
    rintro e w1 ⟨rfl, rfl⟩
    go_wp2_with fail
    refine (k1.out _).mono ?_
    rintro e w1 ⟨rfl, rfl⟩
    go_wp2_with fail
    refine (k2.out _).mono ?_
    rintro e w1 ⟨rfl, rfl⟩
    go_wp2_with fail
    refine (k3.out _).mono ?_
    rintro e w1 ⟨rfl, rfl⟩
    go_wp2_with fail
    go_ret
    exact ⟨by simp, by go_grown⟩
theorem rHas_in (a b c d : Nat) (p q r s : Int) (w : World) (ha : a < 65536) (hb : b < 65536) (hc : c < 256) (hd : d < 256) :
    Calls Try.prog 16 #[mt a b c d, pk p q r s] w fun e w' => e = .returned (.bool (inB a b c d p q r s)) ∧ Below w.heap.size w w' :=
  rHas_case a b c d p q r s w _ _ _ _ ha hb hc hd (fun w => rhas_int a p w ha) (fun w => rhas_int b q w hb) (fun w => rhas_int c r w (by omega)) (fun w => rhas_int d s w (by omega))


set_option maxHeartbeats 4000000 in
set_option maxRecDepth 100000 in
theorem rlets_row (b o cap : Nat) (xs : List Rl) (p q s t : Int) (w : World) (hb : b < w.heap.size) (hn : xs.length ≤ cap) (hcap : cap ≤ maxLen) (hr : RAt w b o xs) :
    Calls Try.prog 8 #[.slice (some ⟨b, o, none⟩) xs.length cap, pk p q s t] w fun e w' => e = .returned (.bool (letsB xs p q s t)) ∧ Below w.heap.size w w' := by
  unfold maxLen at hcap
  have D0 := Below.alloc' (Below.refl w.heap.size w) (.cells #[.int .i64 p, .int .i64 q, .int .i64 s, .int .i64 t] 24)
  have F0 := four_new w (.int .i64 p) (.int .i64 q) (.int .i64 s) (.int .i64 t) 24
  go_enter Try.func8, Try.ntmps8
  go_wp2_with fail
  go_loopw [5] (fun i wr => ∃ k : Nat, i = .int .i64 (k : Int) ∧ k ≤ xs.length ∧ Below w.heap.size w wr ∧ Four wr w.heap.size (.int .i64 p) (.int .i64 q) (.int .i64 s) (.int .i64 t) ∧ letsB xs p q s t = letsB (xs.drop k) p q s t) (fun i _ => xs.length - (intOf i).toNat)
  case atStart => exact ⟨0, rfl, by omega, D0, F0, rfl⟩
  case round =>
    obtain ⟨k, rfl, hk, D1, F1, hl⟩ := hrel
    have Hl : Hid (letsB xs p q s t = letsB (xs.drop k) p q s t) := hl
    clear hl
    by_cases hlt : k < xs.length
    · obtain ⟨r, hxk⟩ : ∃ r, xs[k]? = some r := ⟨_, List.getElem?_eq_getElem hlt⟩
      have RA := hr.below D1 hb
      obtain ⟨c0, c1, c2, c3, c4⟩ := RA.at hxk
      have Hd : Hid (letsB (xs.drop k) p q s t = if inR r p q s t then r.ok else letsB (xs.drop (k + 1)) p q s t) := letsB_drop hxk p q s t
      have IN : Hid (∀ w', Below wr.heap.size wr w' → Calls Try.prog 16 #[mt r.a r.b r.c r.d, pk p q s t] w' fun e w'' => e = .returned (.bool (inR r p q s t)) ∧ Hid (Below w.heap.size w w'') ∧ Hid (Four w'' w.heap.size (.int .i64 p) (.int .i64 q) (.int .i64 s) (.int .i64 t)) ∧ w''.cell? ⟨b, o + k * 5, none⟩ = some (.bool r.ok) ∧ w''.cell? ⟨b, o + k * 5 + 1, none⟩ = some (.int .u16 (r.a : Int)) ∧ w''.cell? ⟨b, o + k * 5 + 2, none⟩ = some (.int .u16 (r.b : Int)) ∧ w''.cell? ⟨b, o + k * 5 + 3, none⟩ = some (.int .u8 (r.c : Int)) ∧ w''.cell? ⟨b, o + k * 5 + 4, none⟩ = some (.int .u8 (r.d : Int)) ∧ w''.cell? ⟨w.heap.size, 0, none⟩ = some (.int .i64 p) ∧ w''.cell? ⟨w.heap.size, 1, none⟩ = some (.int .i64 q) ∧ w''.cell? ⟨w.heap.size, 2, none⟩ = some (.int .i64 s) ∧ w''.cell? ⟨w.heap.size, 3, none⟩ = some (.int .i64 t)) := fun w' hw' =>
        (rHas_in r.a r.b r.c r.d p q s t w' r.ha r.hb r.hc r.hd).mono fun e w'' ⟨h1, h2⟩ => by
          have hB := hw'.trans (h2.mono hw'.size)
          have F2 := keepFour hB F1
          have hb' : b < wr.heap.size := Nat.lt_of_lt_of_le hb D1.size
          obtain ⟨y0, y1, y2, y3, y4⟩ := (RA.below hB hb').at hxk
          exact ⟨h1, chain hB D1, F2, y0, y1, y2, y3, y4, F2.2.1, F2.2.2.1, F2.2.2.2.1, F2.2.2.2.2⟩
      obtain ⟨l0, g0, g1, g2, g3⟩ := id F1
      have lw := D1.size
      have R0 : Below wr.heap.size wr wr.drew := (Below.refl _ _).drew
      have k1 : (0 : Int) ≤ (k : Int) := by omega
      have k2 : (k : Int) < (xs.length : Int) := by omega
      clear hr hxk RA
      generalize inR r p q s t = v at *
      generalize r.ok = ok at *
      generalize r.a = ra at *
      generalize r.b = rb at *
      generalize r.c = rc at *
      generalize r.d = rd at *
      go_wp2_with fail
      go_region_held3 (fun w' => w'.cell? ⟨b, o + k * 5, none⟩ = some (.bool ok) ∧ w'.cell? ⟨b, o + k * 5 + 1, none⟩ = some (.int .u16 (ra : Int)) ∧ w'.cell? ⟨b, o + k * 5 + 2, none⟩ = some (.int .u16 (rb : Int)) ∧ w'.cell? ⟨b, o + k * 5 + 3, none⟩ = some (.int .u8 (rc : Int)) ∧ w'.cell? ⟨b, o + k * 5 + 4, none⟩ = some (.int .u8 (rd : Int)) ∧ w'.cell? ⟨w.heap.size, 0, none⟩ = some (.int .i64 p) ∧ w'.cell? ⟨w.heap.size, 1, none⟩ = some (.int .i64 q) ∧ w'.cell? ⟨w.heap.size, 2, none⟩ = some (.int .i64 s) ∧ w'.cell? ⟨w.heap.size, 3, none⟩ = some (.int .i64 t)) (exact ⟨by assumption, by assumption, by assumption, by assumption, by assumption, by assumption, by assumption, by assumption, by assumption⟩)
        (first | (go_at_call 16; refine (IN.out _ (by assumption)).mono ?_; rintro e wn ⟨rfl, D3, F3, z0, z1, z2, z3, z4, z5, z6, z7, z8⟩))
      cases v
      · go_wp2_with fail
        go_roundw
        case rel => exact ⟨k + 1, by go_num, by omega, D3.out, F3.out, by rw [Hl.out, Hd.out]; simp⟩
        case measure => simp [intOf]; omega
      · go_wp2_with fail
        go_ret
        exact ⟨by rw [Hl.out, Hd.out]; simp, D3.out⟩
    · go_wp2_with fail
      go_ret
      exact ⟨by rw [Hl.out, List.drop_eq_nil_of_le (by omega)]; rfl, D1⟩

set_option maxHeartbeats 1000000 in
theorem rlets_none (A : Option Addr) (cap : Nat) (p q s t : Int) (w : World) :
    Calls Try.prog 8 #[.slice A 0 cap, pk p q s t] w fun e w' => e = .returned (.bool false) ∧ Below w.heap.size w w' := by
  have D0 := Below.alloc' (Below.refl w.heap.size w) (.cells #[.int .i64 p, .int .i64 q, .int .i64 s, .int .i64 t] 24)
  go_enter Try.func8, Try.ntmps8
  go_wp2_with fail
  go_loopw [5] (fun i wr => i = .int .i64 0 ∧ Below w.heap.size w wr) (fun i _ => 0)
  case atStart => exact ⟨rfl, D0⟩
  case round =>
    obtain ⟨rfl, D1⟩ := hrel
    go_wp2_with fail
    go_ret
    exact ⟨rfl, D1⟩
theorem rlets_any {v : Value} {xs : List Rl} (p q s t : Int) (w : World) (h : Rules w.heap.size w v xs) :
    Calls Try.prog 8 #[v, pk p q s t] w fun e w' => e = .returned (.bool (letsB xs p q s t)) ∧ Below w.heap.size w w' := by
  obtain ⟨A, cap, rfl, _, h1, h2, h3⟩ := h
  by_cases hx : xs = []
  · subst hx
    exact rlets_none A cap p q s t w
  · obtain ⟨b, o, rfl, hb, hr⟩ := h3 hx
    exact rlets_row b o cap xs p q s t w hb h1 h2 hr
end Go.Proofs.Ytnjfckbpmilhnaa



namespace Go.Proofs.Ytnjfckbpmilhnaa
open Go.RowKit Go.Maps

theorem mod_bit (x k : Nat) : (if x.testBit k then 2 ^ k else 0) + x % 2 ^ k = x % 2 ^ (k + 1) := by
  rw [Nat.mod_pow_succ, Nat.testBit_eq_decide_div_mod_eq]
  have : x / 2 ^ k % 2 = 0 ∨ x / 2 ^ k % 2 = 1 := by omega
  rcases this with h | h
  · rw [h]; simp
  · rw [h]; simp [Nat.add_comm]
theorem val_env (n c : Nat) : ∀ (k first : Nat), first + k ≤ n → val k first (envOf n c) = c / 2 ^ (n - first - k) % 2 ^ k := by
  intro k
  induction k with
  | zero => intro first _; simp [val, Nat.mod_one]
  | succ k ih =>
    intro first h
    rw [val, ih (first + 1) (by omega), envOf, show n - (first + 1) - k = n - first - (k + 1) by omega, ← mod_bit]
    have e : c.testBit (n - 1 - first) = (c / 2 ^ (n - first - (k + 1))).testBit k := by
      rw [Nat.testBit_div_two_pow]
      congr 1
      omega
    rw [e]
theorem phi_env (sa sb sc sd c : Nat) (hc : c < 16384) : phi sa sb sc sd (envOf 14 c) = (sa.testBit (c / 1024) && sb.testBit (c / 64 % 16) && sc.testBit (c / 8 % 8) && sd.testBit (c % 8)) := by
  unfold phi
  simp only [sel_val, val_env 14 c _ _ (show 0 + 4 ≤ 14 by decide), val_env 14 c _ _ (show 4 + 4 ≤ 14 by decide), val_env 14 c _ _ (show 8 + 3 ≤ 14 by decide), val_env 14 c _ _ (show 11 + 3 ≤ 14 by decide)]
  have h1 : c / 2 ^ (14 - 0 - 4) % 2 ^ 4 = c / 1024 := by
    have : c / 1024 < 16 := by omega
    exact Nat.mod_eq_of_lt this
  rw [h1, Bool.and_true, Bool.and_assoc, Bool.and_assoc]
  have h2 : c / 2 ^ (14 - 4 - 4) % 2 ^ 4 = c / 64 % 16 := rfl
  have h3 : c / 2 ^ (14 - 8 - 3) % 2 ^ 3 = c / 8 % 8 := rfl
  have h4 : c / 2 ^ (14 - 11 - 3) % 2 ^ 3 = c % 8 := by simp
  rw [h2, h3, h4]

/-- What a list says of the packet of a code. -/
def letsC (xs : List Rl) (c : Nat) : Bool := letsB xs ((c / 1024 : Nat) : Int) ((c / 64 % 16 : Nat) : Int) ((c / 8 % 8 : Nat) : Int) ((c % 8 : Nat) : Int)
theorem inR_env (r : Rl) (c : Nat) (hc : c < 16384) : inR r ((c / 1024 : Nat) : Int) ((c / 64 % 16 : Nat) : Int) ((c / 8 % 8 : Nat) : Int) ((c % 8 : Nat) : Int) = phi r.a r.b r.c r.d (envOf 14 c) := by
  rw [phi_env _ _ _ _ c hc]
  have h : ∀ (b n : Nat), hasB b (n : Int) = b.testBit n := fun b n => by simp [hasB]
  unfold inR inB
  rw [h, h, h, h]
theorem letsF_env : ∀ (xs : List Rl) (c : Nat), c < 16384 → letsF xs (envOf 14 c) = letsC xs c
  | [], _, _ => rfl
  | r :: l, c, hc => by
    have ih := letsF_env l c hc
    unfold letsC at ih ⊢
    rw [letsF, letsB, ih, inR_env r c hc]

theorem val_test : ∀ (k first : Nat) (x : Env) (j : Nat), j < k → (val k first x).testBit (k - 1 - j) = x (first + j) := by
  intro k
  induction k with
  | zero => intro first x j h; omega
  | succ k ih =>
    intro first x j h
    have hlt := val_lt k (first + 1) x
    have e : val (k + 1) first x = (if x first then 2 ^ k else 0) + val k (first + 1) x := rfl
    rw [e]
    by_cases h0 : j = 0
    · subst h0
      rw [show k + 1 - 1 - 0 = k by omega, Nat.add_zero]
      cases x first
      · simp [Nat.testBit_lt_two_pow hlt]
      · simp only [if_true]
        rw [Nat.testBit_two_pow_add_eq, Nat.testBit_lt_two_pow hlt]
        rfl
    · have e2 : k + 1 - 1 - j = k - 1 - (j - 1) := by omega
      have e3 := ih (first + 1) x (j - 1) (by omega)
      rw [show first + 1 + (j - 1) = first + j by omega] at e3
      rw [e2]
      cases x first
      · simpa using e3
      · simp only [if_true]
        rw [Nat.testBit_two_pow_add_gt (by omega)]
        exact e3
theorem sel_dep : ∀ (k bits first : Nat) (x y : Env), (∀ i, first ≤ i → i < first + k → x i = y i) → sel k bits first x = sel k bits first y := by
  intro k bits first x y h
  have v : ∀ (k first : Nat), (∀ i, first ≤ i → i < first + k → x i = y i) → val k first x = val k first y := by
    intro k
    induction k with
    | zero => intro first _; rfl
    | succ k ih =>
      intro first h
      show (if x first then 2 ^ k else 0) + val k (first + 1) x = (if y first then 2 ^ k else 0) + val k (first + 1) y
      rw [h first (by omega) (by omega), ih (first + 1) (fun i h1 h2 => h i (by omega) (by omega))]
  rw [sel_val, sel_val, v k first h]
theorem letsF_dep : ∀ (xs : List Rl) (x y : Env), (∀ i, i < 14 → x i = y i) → letsF xs x = letsF xs y
  | [], _, _, _ => rfl
  | r :: l, x, y, h => by
    have e : phi r.a r.b r.c r.d x = phi r.a r.b r.c r.d y := by
      unfold phi
      rw [sel_dep 4 r.a 0 x y (fun i h1 h2 => h i (by omega)), sel_dep 4 r.b 4 x y (fun i h1 h2 => h i (by omega)), sel_dep 3 r.c 8 x y (fun i h1 h2 => h i (by omega)), sel_dep 3 r.d 11 x y (fun i h1 h2 => h i (by omega))]
    rw [letsF, letsF, e, letsF_dep l x y h]
/-- Every setting is, in the variables of packets, that of a code. -/
theorem letsF_code (xs : List Rl) (x : Env) : letsF xs x = letsC xs (val 14 0 x) := by
  have hlt : val 14 0 x < 16384 := val_lt 14 0 x
  rw [← letsF_env xs _ hlt]
  refine letsF_dep xs _ _ (fun i hi => ?_)
  have := val_test 14 0 x i hi
  rw [Nat.zero_add] at this
  rw [envOf, ← this]
end Go.Proofs.Ytnjfckbpmilhnaa



namespace Go.Proofs.Ytnjfckbpmilhnaa
open Go.RowKit Go.Maps

def pkc (c : Nat) : Value := pk ((c / 1024 : Nat) : Int) ((c / 64 % 16 : Nat) : Int) ((c / 8 % 8 : Nat) : Int) ((c % 8 : Nat) : Int)
/-- What least tells. -/
def LPost (P Q : Nat → Bool) (e : Ending) : Prop :=
  (e = .returned (.tuple #[zp, .int .i64 0]) ∧ ∀ c, c < 16384 → P c = Q c) ∨
  ∃ c : Nat, e = .returned (.tuple #[pkc c, .int .i64 (if P c then 1 else 2)]) ∧ LeastD 16384 P Q c
theorem LeastD.uniq {n : Nat} {P Q : Nat → Bool} {c d : Nat} (h : LeastD n P Q c) (k : LeastD n P Q d) : c = d := by
  rcases Nat.lt_trichotomy c d with l | l | l
  · exact absurd (k.2.2 c l) h.2.1
  · exact l
  · exact absurd (h.2.2 d l) k.2.1
/-- A result's cells and a packet's, while sets are asked. -/
structure LS (w : World) (b : Nat) (x0 x1 x2 x3 : Nat) (W : World) : Prop where
  be : Below (w.alloc zc).heap.size (w.alloc zc) W
  bx : W.heap[b]? = some (.cells #[.int .i64 (x0 : Int), .int .i64 (x1 : Int), .int .i64 (x2 : Int), .int .i64 (x3 : Int)] 24)
theorem LS.be' {w W : World} {b x0 x1 x2 x3 : Nat} (h : LS w b x0 x1 x2 x3 W) : Below w.heap.size w W := chain h.be (Below.alloc' (Below.refl _ _) zc)
theorem LS.rs {w W : World} {b x0 x1 x2 x3 : Nat} (h : LS w b x0 x1 x2 x3 W) : W.heap[w.heap.size]? = some zc := (h.be.block _ (by simp)).trans (Go.heap_alloc_new _ _)
theorem LS.start {w W : World} {x0 x1 x2 x3 : Nat} (h : Below (w.alloc zc).heap.size (w.alloc zc) W) : LS w W.heap.size x0 x1 x2 x3 (W.alloc (.cells #[.int .i64 (x0 : Int), .int .i64 (x1 : Int), .int .i64 (x2 : Int), .int .i64 (x3 : Int)] 24)) :=
  ⟨Below.alloc' h _, Go.heap_alloc_new _ _⟩
theorem LS.step {w W W' : World} {b x0 x1 x2 x3 : Nat} (h : LS w b x0 x1 x2 x3 W) (hb : Below W.heap.size W W') : LS w b x0 x1 x2 x3 W' :=
  ⟨chain hb h.be, (hb.block _ (Array.getElem?_eq_some_iff.1 h.bx).1).trans h.bx⟩

set_option maxHeartbeats 1000000 in
theorem lets_1 (A : Option Addr) (n cap n0 : Nat) (xs : List Rl) (w : World) (hn : n0 < w.heap.size) (q0 : w.cell? ⟨n0, 0, none⟩ = some (.slice A n cap)) (hR : Rules w.heap.size w (.slice A n cap) xs) :
    Hd (∀ c W, Below w.heap.size w W → Calls Try.prog 7 #[pkc c, .pointer (some ⟨n0, 0, none⟩)] W fun e w' => e = .returned (.bool (letsC xs c)) ∧ Below W.heap.size W w') := ⟨fun c W hb => by
  have q1 : W.cell? ⟨n0, 0, none⟩ = some (.slice A n cap) := (hb.cell hn).trans q0
  have hlt : n0 < W.heap.size := Nat.lt_of_lt_of_le hn hb.size
  have hR1 := (hR.below hb).mono hb.size
  clear hR q0 hn hb
  unfold pkc letsC
  generalize c / 1024 = p at *
  generalize c / 64 % 16 = q at *
  generalize c / 8 % 8 = s at *
  generalize c % 8 = t at *
  have D := Below.alloc' (Below.refl W.heap.size W) (.cells #[.int .i64 (p : Int), .int .i64 (q : Int), .int .i64 (s : Int), .int .i64 (t : Int)] 24)
  have K : Hd (Calls Try.prog 8 #[.slice A n cap, pk (p : Int) (q : Int) (s : Int) (t : Int)] (W.alloc (.cells #[.int .i64 (p : Int), .int .i64 (q : Int), .int .i64 (s : Int), .int .i64 (t : Int)] 24)) fun e w' => e = .returned (.bool (letsB xs p q s t)) ∧ Below (W.alloc (.cells #[.int .i64 (p : Int), .int .i64 (q : Int), .int .i64 (s : Int), .int .i64 (t : Int)] 24)).heap.size (W.alloc (.cells #[.int .i64 (p : Int), .int .i64 (q : Int), .int .i64 (s : Int), .int .i64 (t : Int)] 24)) w') :=
    ⟨rlets_any p q s t _ ((hR1.below D).mono (by simp))⟩
  clear hR1
  generalize letsB xs p q s t = r at *
  go_enter Try.func7, Try.ntmps7
  go_wp2_with fail
  refine K.out.mono ?_
  rintro e w1 ⟨rfl, hb1⟩
  have D1 := chain hb1 D
  clear D hb1 K
  go_wp2_with fail
  go_ret
  exact ⟨rfl, D1⟩⟩

set_option maxHeartbeats 1000000 in
theorem lets_2 (A : Option Addr) (n cap n0 : Nat) (xs : List Rl) (w : World) (hn : n0 < w.heap.size) (q0 : w.cell? ⟨n0, 0, none⟩ = some (.slice A n cap)) (hR : Rules w.heap.size w (.slice A n cap) xs) :
    Hd (∀ c W, Below w.heap.size w W → Calls Try.prog 9 #[pkc c, .pointer (some ⟨n0, 0, none⟩)] W fun e w' => e = .returned (.bool (letsC xs c)) ∧ Below W.heap.size W w') := ⟨fun c W hb => by
  have q1 : W.cell? ⟨n0, 0, none⟩ = some (.slice A n cap) := (hb.cell hn).trans q0
  have hlt : n0 < W.heap.size := Nat.lt_of_lt_of_le hn hb.size
  have hR1 := (hR.below hb).mono hb.size
  clear hR q0 hn hb
  unfold pkc letsC
  generalize c / 1024 = p at *
  generalize c / 64 % 16 = q at *
  generalize c / 8 % 8 = s at *
  generalize c % 8 = t at *
  have D := Below.alloc' (Below.refl W.heap.size W) (.cells #[.int .i64 (p : Int), .int .i64 (q : Int), .int .i64 (s : Int), .int .i64 (t : Int)] 24)
  have K : Hd (Calls Try.prog 8 #[.slice A n cap, pk (p : Int) (q : Int) (s : Int) (t : Int)] (W.alloc (.cells #[.int .i64 (p : Int), .int .i64 (q : Int), .int .i64 (s : Int), .int .i64 (t : Int)] 24)) fun e w' => e = .returned (.bool (letsB xs p q s t)) ∧ Below (W.alloc (.cells #[.int .i64 (p : Int), .int .i64 (q : Int), .int .i64 (s : Int), .int .i64 (t : Int)] 24)).heap.size (W.alloc (.cells #[.int .i64 (p : Int), .int .i64 (q : Int), .int .i64 (s : Int), .int .i64 (t : Int)] 24)) w') :=
    ⟨rlets_any p q s t _ ((hR1.below D).mono (by simp))⟩
  clear hR1
  generalize letsB xs p q s t = r at *
  go_enter Try.func9, Try.ntmps9
  go_wp2_with fail
  refine K.out.mono ?_
  rintro e w1 ⟨rfl, hb1⟩
  have D1 := chain hb1 D
  clear D hb1 K
  go_wp2_with fail
  go_ret
  exact ⟨rfl, D1⟩⟩

set_option maxHeartbeats 4000000 in
set_option maxRecDepth 100000 in
theorem least_rules {n0 n1 : Nat} (w : World) (P Q : Nat → Bool)
    (CA : Hd (∀ c W, Below w.heap.size w W → Calls Try.prog 7 #[pkc c, .pointer (some ⟨n0, 0, none⟩)] W fun e w' => e = .returned (.bool (P c)) ∧ Below W.heap.size W w'))
    (CB : Hd (∀ c W, Below w.heap.size w W → Calls Try.prog 9 #[pkc c, .pointer (some ⟨n1, 0, none⟩)] W fun e w' => e = .returned (.bool (Q c)) ∧ Below W.heap.size W w')) :
    Calls Try.prog 6 #[.func (.func 7) #[] #[.pointer (some ⟨n0, 0, none⟩)], .func (.func 9) #[] #[.pointer (some ⟨n1, 0, none⟩)]] w fun e w' => LPost P Q e ∧ Below w.heap.size w w' := by
  have B0 : Hd (Below (w.alloc zc).heap.size (w.alloc zc) (w.alloc zc)) := ⟨Below.refl _ _⟩
  go_enter Try.func6, Try.ntmps6
  go_wp2_with fail
  go_loopw [8] (fun i wr => ∃ c : Nat, i = .int .i64 (c : Int) ∧ c ≤ 16384 ∧ Hd (∀ d, d < c → P d = Q d) ∧ Below (w.alloc zc).heap.size (w.alloc zc) wr) (fun i _ => 16384 - (intOf i).toNat)
  case atStart => exact ⟨0, rfl, by omega, ⟨fun d hd => by omega⟩, B0.out⟩
  case round =>
    obtain ⟨c, rfl, hcc, HS, hW⟩ := hrel
    clear B0
    by_cases hlt : c < 16384
    · have PK : Hd (∀ w, Calls Try.prog 15 #[.int .i64 (c : Int)] w fun e w' => e = .returned (pkc c) ∧ Below w.heap.size w w') := ⟨fun w => rpacket_any c w hlt⟩
      have FI : Hd (P c ≠ Q c → LPost P Q (.returned (.tuple #[pkc c, .int .i64 (if P c then 1 else 2)]))) := ⟨fun hne => Or.inr ⟨c, rfl, hlt, hne, HS.out⟩⟩
      have SM : Hd (P c = Q c → ∀ d, d < c + 1 → P d = Q d) := ⟨fun he d hd => by
        by_cases h : d = c
        · rw [h]; exact he
        · exact HS.out d (by omega)⟩
      have C1 : Hd (∀ (c' : Nat) W, Below w.heap.size w W → Calls Try.prog 7 #[pkc c, .pointer (some ⟨n0, 0, none⟩)] W fun e w' => e = .returned (.bool (P c)) ∧ Below W.heap.size W w') := ⟨fun _ => CA.out c⟩
      have C2 : Hd (∀ (c' : Nat) W, Below w.heap.size w W → Calls Try.prog 9 #[pkc c, .pointer (some ⟨n1, 0, none⟩)] W fun e w' => e = .returned (.bool (Q c)) ∧ Below W.heap.size W w') := ⟨fun _ => CB.out c⟩
      unfold pkc at PK FI C1 C2
      clear HS CA CB
      generalize P c = pc' at *
      generalize Q c = qc' at *
      generalize c / 1024 = x0 at *
      generalize c / 64 % 16 = x1 at *
      generalize c / 8 % 8 = x2 at *
      generalize c % 8 = x3 at *
      go_wp2_with fail
      refine (PK.out _).mono ?_
      rintro e w2 ⟨rfl, hb2⟩
      have L3 : LS w w2.heap.size x0 x1 x2 x3 (w2.alloc (.cells #[.int .i64 (x0 : Int), .int .i64 (x1 : Int), .int .i64 (x2 : Int), .int .i64 (x3 : Int)] 24)) := LS.start (chain hb2 hW)
      obtain ⟨⟨z0, z1, z2, z3⟩, zf, zl⟩ := box_four L3.bx
      clear hb2 hW PK
      cases pc' <;> cases qc'
      · have SM2 := Hd.mk (SM.out rfl)
        clear FI SM
        go_wp2_with fail
        refine (C1.out c _ L3.be').mono ?_
        rintro e w4 ⟨rfl, hb⟩
        have L4 := L3.step hb
        obtain ⟨⟨z0, z1, z2, z3⟩, zf, zl⟩ := box_four L4.bx
        clear hb L3
        go_wp2_with fail
        refine (C2.out c _ L4.be').mono ?_
        rintro e w5 ⟨rfl, hb⟩
        have L5 := L4.step hb
        obtain ⟨⟨z0, z1, z2, z3⟩, zf, zl⟩ := box_four L5.bx
        clear hb L4
        go_wp2_with fail
        go_roundw
        case rel => exact ⟨c + 1, congrArg (Value.int .i64) (by omega), by omega, ⟨SM2.out⟩, L5.be⟩
        case measure => simp [intOf]; omega
      · have fin := Hd.mk (FI.out (by decide))
        clear FI SM
        go_wp2_with fail
        refine (C1.out c _ L3.be').mono ?_
        rintro e w4 ⟨rfl, hb⟩
        have L4 := L3.step hb
        obtain ⟨⟨z0, z1, z2, z3⟩, zf, zl⟩ := box_four L4.bx
        clear hb L3
        go_wp2_with fail
        refine (C2.out c _ L4.be').mono ?_
        rintro e w5 ⟨rfl, hb⟩
        have L5 := L4.step hb
        obtain ⟨⟨z0, z1, z2, z3⟩, zf, zl⟩ := box_four L5.bx
        clear hb L4
        go_wp2_with fail
        refine (C1.out c _ L5.be').mono ?_
        rintro e w6 ⟨rfl, hb⟩
        have L6 := L5.step hb
        obtain ⟨⟨z0, z1, z2, z3⟩, zf, zl⟩ := box_four L6.bx
        clear hb L5
        obtain ⟨⟨q0, q1, q2, q3⟩, qf, ql⟩ := box_four L6.rs
        have D9 := L6.be'
        clear L6
        go_wp2_with fail
        refine bodyPost_ret (v := .tuple #[pk (x0 : Int) (x1 : Int) (x2 : Int) (x3 : Int), .int .i64 2]) (by simp [results, Try.results6, go_sem, q0, q1, q2, q3]) rfl ⟨fin.out, ?_⟩
        go_grown
      · have fin := Hd.mk (FI.out (by decide))
        clear FI SM
        go_wp2_with fail
        refine (C1.out c _ L3.be').mono ?_
        rintro e w4 ⟨rfl, hb⟩
        have L4 := L3.step hb
        obtain ⟨⟨z0, z1, z2, z3⟩, zf, zl⟩ := box_four L4.bx
        clear hb L3
        go_wp2_with fail
        refine (C2.out c _ L4.be').mono ?_
        rintro e w5 ⟨rfl, hb⟩
        have L5 := L4.step hb
        obtain ⟨⟨z0, z1, z2, z3⟩, zf, zl⟩ := box_four L5.bx
        clear hb L4
        obtain ⟨⟨q0, q1, q2, q3⟩, qf, ql⟩ := box_four L5.rs
        have D9 := L5.be'
        clear L5
        go_wp2_with fail
        refine bodyPost_ret (v := .tuple #[pk (x0 : Int) (x1 : Int) (x2 : Int) (x3 : Int), .int .i64 1]) (by simp [results, Try.results6, go_sem, q0, q1, q2, q3]) rfl ⟨fin.out, ?_⟩
        go_grown
      · have SM2 := Hd.mk (SM.out rfl)
        clear FI SM
        go_wp2_with fail
        refine (C1.out c _ L3.be').mono ?_
        rintro e w4 ⟨rfl, hb⟩
        have L4 := L3.step hb
        obtain ⟨⟨z0, z1, z2, z3⟩, zf, zl⟩ := box_four L4.bx
        clear hb L3
        go_wp2_with fail
        refine (C2.out c _ L4.be').mono ?_
        rintro e w5 ⟨rfl, hb⟩
        have L5 := L4.step hb
        obtain ⟨⟨z0, z1, z2, z3⟩, zf, zl⟩ := box_four L5.bx
        clear hb L4
        go_wp2_with fail
        refine (C2.out c _ L5.be').mono ?_
        rintro e w6 ⟨rfl, hb⟩
        have L6 := L5.step hb
        obtain ⟨⟨z0, z1, z2, z3⟩, zf, zl⟩ := box_four L6.bx
        clear hb L5
        go_wp2_with fail
        refine (C1.out c _ L6.be').mono ?_
        rintro e w7 ⟨rfl, hb⟩
        have L7 := L6.step hb
        obtain ⟨⟨z0, z1, z2, z3⟩, zf, zl⟩ := box_four L7.bx
        clear hb L6
        go_wp2_with fail
        go_roundw
        case rel => exact ⟨c + 1, congrArg (Value.int .i64) (by omega), by omega, ⟨SM2.out⟩, L7.be⟩
        case measure => simp [intOf]; omega
    · have fin : Hd (LPost P Q (.returned (.tuple #[zp, .int .i64 0]))) := ⟨Or.inl ⟨rfl, fun d hd => HS.out d (by omega)⟩⟩
      have Z1 : wr.heap[w.heap.size]? = some zc := (hW.block _ (by simp)).trans (Go.heap_alloc_new _ _)
      obtain ⟨⟨q0, q1, q2, q3⟩, qf, ql⟩ := box_four Z1
      have D9 : Below w.heap.size w wr := chain hW (Below.alloc' (Below.refl _ _) zc)
      clear hW Z1 HS CA CB
      go_wp2_with fail
      refine bodyPost_ret (v := .tuple #[zp, .int .i64 0]) (by simp [results, Try.results6, go_sem, q0, q1, q2, q3]) rfl ⟨fin.out, ?_⟩
      go_grown
end Go.Proofs.Ytnjfckbpmilhnaa



namespace Go.Proofs.Ytnjfckbpmilhnaa
open Go.RowKit Go.Maps

theorem rin2_any (n : Int) (w : World) : Calls Try.prog 5 #[.int .i64 n, .int .i64 2, .int .i64 40000] w fun e w' => e = .returned (.bool (decide (2 ≤ n) && decide (n ≤ 40000))) ∧ w' = w := by
  by_cases h0 : 2 ≤ n
  · have h0' : decide (2 ≤ n) = true := by simp; omega
    go_enter Try.func5, Try.ntmps5
    go_wp2_with fail
    go_ret
    exact ⟨by simp [h0], rfl⟩
  · have h0' : decide (2 ≤ n) = false := by simp; omega
    go_enter Try.func5, Try.ntmps5
    go_wp2_with fail
    go_ret
    exact ⟨by simp, rfl⟩

abbrev pkC (x0 x1 x2 x3 : Int) : Obj := .cells #[.int .i64 x0, .int .i64 x1, .int .i64 x2, .int .i64 x3] 24
/-- Where the law stands behind the call of Rules: its two lists' variables, the packet that was told. -/
structure DS (w : World) (A B : Option Addr) (n cap m cap2 : Nat) (W : World) : Prop where
  be : Below ((w.alloc (slC A n cap)).alloc (slC B m cap2)).heap.size ((w.alloc (slC A n cap)).alloc (slC B m cap2)) W
theorem DS.be' {w W : World} {A B : Option Addr} {n cap m cap2 : Nat} (h : DS w A B n cap m cap2 W) : Below w.heap.size w W := chain h.be (Below.alloc' (Below.alloc' (Below.refl _ _) _) _)
theorem DS.one {w W : World} {A B : Option Addr} {n cap m cap2 : Nat} (h : DS w A B n cap m cap2 W) : w.heap.size < W.heap.size ∧ w.heap.size + 1 < W.heap.size ∧ W.cell? ⟨w.heap.size, 0, none⟩ = some (.slice A n cap) ∧ W.cell? ⟨w.heap.size + 1, 0, none⟩ = some (.slice B m cap2) := by
  have h0 : W.heap[w.heap.size]? = some (slC A n cap) := by
    rw [h.be.block _ (by simp; omega), Below.heap_alloc _ _ _ (by simp)]
    exact Go.heap_alloc_new _ _
  have h1 : W.heap[w.heap.size + 1]? = some (slC B m cap2) := by
    rw [h.be.block _ (by simp), show w.heap.size + 1 = (w.alloc (slC A n cap)).heap.size by simp]
    exact Go.heap_alloc_new _ _
  refine ⟨(Array.getElem?_eq_some_iff.1 h0).1, (Array.getElem?_eq_some_iff.1 h1).1, ?_, ?_⟩
  · rw [cell_of_row _ _ 0 _ _ _ h0]; rfl
  · rw [cell_of_row _ _ 0 _ _ _ h1]; rfl
theorem DS.step {w W W' : World} {A B : Option Addr} {n cap m cap2 : Nat} (h : DS w A B n cap m cap2 W) (hb : Below W.heap.size W W') : DS w A B n cap m cap2 W' := ⟨chain hb h.be⟩
theorem bt_least {xs ys : List Rl} {e e' : Ending} (h : BtPost (letsF xs) (letsF ys) e) (k : LPost (letsC xs) (letsC ys) e') :
    e = .returned (.tuple #[zp, .int .i64 0, .int .i64 6]) ∨ ∃ x0 x1 x2 x3 d : Int, e = .returned (.tuple #[pk x0 x1 x2 x3, .int .i64 d, .int .i64 0]) ∧ e' = .returned (.tuple #[pk x0 x1 x2 x3, .int .i64 d]) := by
  rcases h with h | ⟨h, h2⟩ | ⟨c, h, h2⟩
  · exact .inl h
  · rcases k with ⟨k, _⟩ | ⟨d, k, k2⟩
    · exact .inr ⟨0, 0, 0, 0, 0, h, k⟩
    · refine absurd ?_ k2.2.1
      rw [← letsF_env xs d k2.1, ← letsF_env ys d k2.1, h2]
  · have h3 : LeastD 16384 (letsC xs) (letsC ys) c := by
      refine ⟨h2.1, ?_, fun d hd => ?_⟩
      · rw [← letsF_env xs c h2.1, ← letsF_env ys c h2.1]; exact h2.2.1
      · rw [← letsF_env xs d (by have := h2.1; omega), ← letsF_env ys d (by have := h2.1; omega)]; exact h2.2.2 d hd
    rcases k with ⟨_, k⟩ | ⟨d, k, k2⟩
    · exact absurd (k c h3.1) h3.2.1
    · obtain rfl := h3.uniq k2
      refine .inr ⟨_, _, _, _, _, h, ?_⟩
      rw [k, letsF_env xs c h3.1]
      rfl

set_option maxHeartbeats 4000000 in
set_option maxRecDepth 100000 in
theorem says_any (A B : Option Addr) (cap cap2 : Nat) (xs ys : List Rl) (most : Int) (w : World) (hR : Rules w.heap.size w (.slice A xs.length cap) xs) (hS : Rules w.heap.size w (.slice B ys.length cap2) ys) :
    Calls Try.prog 3 #[.slice A xs.length cap, .slice B ys.length cap2, .int .i64 most] w fun e w' => e = .returned (.bool true) ∧ Below w.heap.size w w' := by
  have S0 : DS w A B xs.length cap ys.length cap2 ((w.alloc (slC A xs.length cap)).alloc (slC B ys.length cap2)) := ⟨Below.refl _ _⟩
  have RU : Hd (Calls Try.prog 4 #[.slice A xs.length cap, .slice B ys.length cap2, .int .i64 most] ((w.alloc (slC A xs.length cap)).alloc (slC B ys.length cap2)) fun e w' => RuPost xs.length ys.length most (letsF xs) (letsF ys) e ∧ Below ((w.alloc (slC A xs.length cap)).alloc (slC B ys.length cap2)).heap.size ((w.alloc (slC A xs.length cap)).alloc (slC B ys.length cap2)) w') :=
    ⟨rules_any A B xs.length cap ys.length cap2 xs ys most _ ((hR.below S0.be').mono S0.be'.size) ((hS.below S0.be').mono S0.be'.size)⟩
  have LE : Hd (∀ W, DS w A B xs.length cap ys.length cap2 W → Calls Try.prog 6 #[.func (.func 7) #[] #[.pointer (some ⟨w.heap.size, 0, none⟩)], .func (.func 9) #[] #[.pointer (some ⟨w.heap.size + 1, 0, none⟩)]] W fun e w' => LPost (letsC xs) (letsC ys) e ∧ Below W.heap.size W w') :=
    ⟨fun W D => by
      obtain ⟨d1, d2, d3, d4⟩ := D.one
      exact least_rules W (letsC xs) (letsC ys) (lets_1 A xs.length cap _ xs W d1 d3 ((hR.below D.be').mono D.be'.size)) (lets_2 B ys.length cap2 _ ys W d2 d4 ((hS.below D.be').mono D.be'.size))⟩
  have IN : Hd (∀ w, Calls Try.prog 5 #[.int .i64 most, .int .i64 2, .int .i64 40000] w fun e w' => e = .returned (.bool (decide (2 ≤ most) && decide (most ≤ 40000))) ∧ w' = w) := ⟨fun w => rin2_any most w⟩
  have BL : Hd (∀ e e', BtPost (letsF xs) (letsF ys) e → LPost (letsC xs) (letsC ys) e' → e = .returned (.tuple #[zp, .int .i64 0, .int .i64 6]) ∨ ∃ x0 x1 x2 x3 d : Int, e = .returned (.tuple #[pk x0 x1 x2 x3, .int .i64 d, .int .i64 0]) ∧ e' = .returned (.tuple #[pk x0 x1 x2 x3, .int .i64 d])) := ⟨fun _ _ h k => bt_least h k⟩
  clear hR hS
  generalize letsF xs = φ at *
  generalize letsF ys = ψ at *
  generalize letsC xs = φ' at *
  generalize letsC ys = ψ' at *
  generalize xs.length = n at *
  generalize ys.length = m at *
  generalize hDS : DS w A B n cap m cap2 = DD at *
  have D1 : Hd (∀ W, DD W → Below w.heap.size w W) := ⟨fun W h => by rw [← hDS] at h; exact h.be'⟩
  have D2 : Hd (∀ W W', DD W → Below W.heap.size W W' → DD W') := ⟨fun W W' h k => by rw [← hDS] at h ⊢; exact h.step k⟩
  have D3 : Hd (∀ W, DD W → w.heap.size < W.heap.size ∧ w.heap.size + 1 < W.heap.size ∧ W.cell? ⟨w.heap.size, 0, none⟩ = some (.slice A n cap) ∧ W.cell? ⟨w.heap.size + 1, 0, none⟩ = some (.slice B m cap2)) := ⟨fun W h => by rw [← hDS] at h; exact h.one⟩
  clear hDS
  have SA : Hd (∀ W x0 x1 x2 x3, DD W → DD (W.alloc (pkC x0 x1 x2 x3)) ∧ (W.alloc (pkC x0 x1 x2 x3)).heap[W.heap.size]? = some (pkC x0 x1 x2 x3)) := ⟨fun W x0 x1 x2 x3 h => ⟨D2.out _ _ h (Below.alloc' (Below.refl _ _) _), Go.heap_alloc_new _ _⟩⟩
  by_cases h1 : 8 < n ∨ 8 < m
  · have RU1 : Hd (Calls Try.prog 4 #[.slice A n cap, .slice B m cap2, .int .i64 most] ((w.alloc (slC A n cap)).alloc (slC B m cap2)) fun e w' => e = .returned (.tuple #[zp, .int .i64 0, .int .i64 2]) ∧ DD w') := ⟨RU.out.mono fun e w' ⟨h, k⟩ => by
      unfold RuPost at h
      rw [if_pos h1] at h
      exact ⟨h, D2.out _ _ S0 k⟩⟩
    have tt : decide ((8 : Int) < (n : Int)) = true ∨ (decide ((8 : Int) < (n : Int)) = false ∧ decide ((8 : Int) < (m : Int)) = true) := by simp; omega
    clear RU LE IN BL h1
    go_enter Try.func3, Try.ntmps3
    go_wp2_with fail
    refine RU1.out.mono ?_
    rintro e w3 ⟨rfl, S3⟩
    obtain ⟨S4, Z4⟩ := SA.out w3 0 0 0 0 S3
    obtain ⟨d1, d2, d3, d4⟩ := D3.out _ S4
    obtain ⟨⟨q0, q1, q2, q3⟩, qf, ql⟩ := box_four Z4
    have E4 := D1.out _ S4
    clear S0 S3 S4 Z4 RU1 SA D1 D2 D3
    rcases tt with t1 | ⟨t1, t2⟩
    all_goals
      go_wp2_with fail
      go_ret
      exact ⟨rfl, E4⟩
  by_cases h2 : most < 2 ∨ 40000 < most
  · have RU1 : Hd (Calls Try.prog 4 #[.slice A n cap, .slice B m cap2, .int .i64 most] ((w.alloc (slC A n cap)).alloc (slC B m cap2)) fun e w' => e = .returned (.tuple #[zp, .int .i64 0, .int .i64 1]) ∧ DD w') := ⟨RU.out.mono fun e w' ⟨h, k⟩ => by
      unfold RuPost at h
      rw [if_neg h1, if_pos h2] at h
      exact ⟨h, D2.out _ _ S0 k⟩⟩
    have t1 : decide ((8 : Int) < (n : Int)) = false := by simp; omega
    have t2 : decide ((8 : Int) < (m : Int)) = false := by simp; omega
    have t3 : (decide (2 ≤ most) && decide (most ≤ 40000)) = false := by simp; omega
    rw [t3] at IN
    clear RU LE BL h1 h2 t3
    go_enter Try.func3, Try.ntmps3
    go_wp2_with fail
    refine RU1.out.mono ?_
    rintro e w3 ⟨rfl, S3⟩
    obtain ⟨S4, Z4⟩ := SA.out w3 0 0 0 0 S3
    obtain ⟨d1, d2, d3, d4⟩ := D3.out _ S4
    obtain ⟨⟨q0, q1, q2, q3⟩, qf, ql⟩ := box_four Z4
    have E4 := D1.out _ S4
    clear S0 S3 S4 Z4 RU1 SA D1 D2 D3
    go_wp2_with fail
    refine (IN.out _).mono ?_
    rintro e w5 ⟨rfl, rfl⟩
    go_wp2_with fail
    go_ret
    exact ⟨rfl, E4⟩
  have RU1 : Hd (Calls Try.prog 4 #[.slice A n cap, .slice B m cap2, .int .i64 most] ((w.alloc (slC A n cap)).alloc (slC B m cap2)) fun e w' => BtPost φ ψ e ∧ DD w') := ⟨RU.out.mono fun e w' ⟨h, k⟩ => by
    unfold RuPost at h
    rw [if_neg h1, if_neg h2] at h
    exact ⟨h, D2.out _ _ S0 k⟩⟩
  have t1 : decide ((8 : Int) < (n : Int)) = false := by simp; omega
  have t2 : decide ((8 : Int) < (m : Int)) = false := by simp; omega
  have t3 : (decide (2 ≤ most) && decide (most ≤ 40000)) = true := by simp; omega
  rw [t3] at IN
  clear RU h1 h2 t3
  go_enter Try.func3, Try.ntmps3
  go_wp2_with fail
  refine RU1.out.mono ?_
  rintro e w3 ⟨hp, S3⟩
  obtain ⟨x0, x1, x2, x3, k, er, rfl⟩ := hp.parts
  have HP := Hd.mk hp
  obtain ⟨S4, Z4⟩ := SA.out w3 x0 x1 x2 x3 S3
  obtain ⟨d1, d2, d3, d4⟩ := D3.out _ S4
  obtain ⟨⟨q0, q1, q2, q3⟩, qf, ql⟩ := box_four Z4
  have E4 := D1.out _ S4
  clear S0 S3 RU1 SA hp
  by_cases he : er = 6
  · subst he
    have hz : x0 = 0 ∧ x1 = 0 ∧ x2 = 0 ∧ x3 = 0 ∧ k = 0 := by
      rcases HP.out with h | ⟨h, _⟩ | ⟨c, h, _⟩
      · simp at h; exact ⟨h.1.1, h.1.2.1, h.1.2.2.1, h.1.2.2.2, h.2⟩
      · simp at h
      · simp at h
    obtain ⟨rfl, rfl, rfl, rfl, rfl⟩ := hz
    clear HP BL LE S4 Z4 D1 D2 D3
    go_wp2_with fail
    refine (IN.out _).mono ?_
    rintro e w5 ⟨rfl, rfl⟩
    go_wp2_with fail
    go_ret
    exact ⟨rfl, E4⟩
  · have t6 : (er == 6) = false := by simp; omega
    go_wp2_with fail
    refine (IN.out _).mono ?_
    rintro e w5 ⟨rfl, rfl⟩
    go_wp2_with fail
    refine (LE.out _ S4).mono ?_
    rintro e w6 ⟨hl, hb6⟩
    have both := BL.out _ _ HP.out hl
    rcases both with h | ⟨y0, y1, y2, y3, d, h, rfl⟩
    · simp at h
      omega
    simp only [Ending.returned.injEq, Value.tuple.injEq, Array.mk.injEq, List.cons.injEq, Value.agg.injEq, Value.int.injEq, true_and, and_true] at h
    obtain ⟨⟨rfl, rfl, rfl, rfl⟩, rfl, rfl⟩ := h
    have E6 := chain hb6 E4
    have Z6 : w6.heap[w3.heap.size]? = some (pkC x0 x1 x2 x3) := (hb6.block _ ql).trans Z4
    obtain ⟨⟨r0, r1, r2, r3⟩, rf, rl⟩ := box_four Z6
    have E7 := Below.alloc' E6 (pkC x0 x1 x2 x3)
    clear HP hl BL LE S4 Z4 D1 D2 D3 q0 q1 q2 q3 qf d1 d2 d3 d4 hb6 Z6 IN E4 E6 t6 he
    go_wp2_with fail
    go_ret
    exact ⟨rfl, E7⟩
end Go.Proofs.Ytnjfckbpmilhnaa



namespace Go.Proofs.Ytnjfckbpmilhnaa
open Go.ChangeShapes Go.WideShapes Go.RowKit Go.Deep

theorem cellsRule : Try.prog.cellsOf 46 = 5 := by kernel_rfl
theorem cellsMatch : Try.prog.cellsOf 44 = 4 := by kernel_rfl
theorem cellsPacket : Try.prog.cellsOf 24 = 4 := by kernel_rfl
theorem cellsBool : Try.prog.cellsOf 4 = 1 := by kernel_rfl
theorem cellsU16 : Try.prog.cellsOf 42 = 1 := by kernel_rfl
theorem cellsU8 : Try.prog.cellsOf 5 = 1 := by kernel_rfl
theorem cellsInt : Try.prog.cellsOf 3 = 1 := by kernel_rfl
theorem nat_of {x : Int} {n : Nat} (h0 : 0 ≤ x) (h1 : x ≤ (n : Int)) : ∃ k : Nat, x = (k : Int) ∧ k < n + 1 := ⟨x.toNat, by omega, by omega⟩
theorem spot_none {w : World} {a : Addr} {v : Value} (h : w.cell? a = some v) : a.spot = none := by
  unfold World.cell? at h
  split at h
  · split at h
    · cases h
    · rename_i hs
      cases hp : a.spot
      · rfl
      · rw [hp] at hs; simp at hs
  · cases h

theorem choose_lt' {n : Nat} {p : Nat → Rl → Prop} (h : ∀ i, i < n → ∃ x, p i x) : ∃ f : Nat → Rl, ∀ i, i < n → p i (f i) := by
  haveI : Inhabited Rl := ⟨allR false⟩
  exact choose_lt h
theorem cellsR_split : ∀ (xs : List Rl) (k : Nat) (r : Rl), xs[k]? = some r → ∀ j, j < 5 → (cellsR xs)[k * 5 + j]? = (rcells r)[j]? := by
  intro xs k r h j hj
  obtain ⟨h0, h1, h2, h3, h4⟩ := cellsR_at xs k r h
  match j, hj with
  | 0, _ => exact h0
  | 1, _ => exact h1
  | 2, _ => exact h2
  | 3, _ => exact h3
  | 4, _ => exact h4

section
variable {H : Type} {enc : TypeId × Value → H} {W : World} {sp : Nat → Bool} {held : Bool}
set_option maxRecDepth 100000 in
/-- Five cells that read as a rule are a rule's. -/
theorem rule_cells {fuel : Nat} {cs : List Value} {x : DataW H × List MemPlace} (hl : cs.length = 5) (h : DataW.trod enc Try.prog W 0 sp held fuel 46 cs = some x) : ∃ r : Rl, cs = rcells r := by
  obtain ⟨xs, k, hk, hxy, _, hxl, hf⟩ := DataW.trod_struct Try.underlying46 h
  match xs, hxl, cs, hl with
  | [y0, y1], _, [v0, v1, v2, v3, v4], _ =>
    have g0 := hf 0 _ rfl
    have g1 := hf 1 _ rfl
    simp [cellsBool, cellsMatch] at g0 g1
    obtain ⟨ok, q0, _⟩ := DataW.trod_bool Try.underlying4 g0
    obtain ⟨xs, k, hk, hxy, _, hxl, hf⟩ := DataW.trod_struct Try.underlying44 g1
    match xs, hxl with
    | [z0, z1, z2, z3], _ =>
      have g0 := hf 0 _ rfl
      have g1 := hf 1 _ rfl
      have g2 := hf 2 _ rfl
      have g3 := hf 3 _ rfl
      simp [cellsU16, cellsU8] at g0 g1 g2 g3
      obtain ⟨x0, e0, _, w0⟩ := DataW.trod_int Try.underlying42 g0
      obtain ⟨x1, e1, _, w1⟩ := DataW.trod_int Try.underlying42 g1
      obtain ⟨x2, e2, _, w2⟩ := DataW.trod_int Try.underlying5 g2
      obtain ⟨x3, e3, _, w3⟩ := DataW.trod_int Try.underlying5 g3
      simp only [List.cons.injEq, and_true] at q0 e0 e1 e2 e3
      subst q0 e0 e1 e2 e3
      obtain ⟨na, rfl, la⟩ := nat_of (n := 65535) (bounds_u16 w0).1 (bounds_u16 w0).2
      obtain ⟨nb, rfl, lb⟩ := nat_of (n := 65535) (bounds_u16 w1).1 (bounds_u16 w1).2
      obtain ⟨nc, rfl, lc⟩ := nat_of (n := 255) (bounds_u8 w2).1 (bounds_u8 w2).2
      obtain ⟨nd', rfl, ld⟩ := nat_of (n := 255) (bounds_u8 w3).1 (bounds_u8 w3).2
      exact ⟨⟨ok, na, nb, nc, nd', by omega, by omega, by omega, by omega⟩, rfl⟩

set_option maxRecDepth 100000 in
theorem rules_open {v : Value} {d : DataW H} {ps : List MemPlace} (h : DataW.Trod enc Try.prog W 0 sp held 22 v d ps) (hv : v.cells.toList = [v]) :
    ∃ xs : List Rl, Rules W.heap.size W v xs ∧ ((d = .nil ∧ xs = []) ∨ ∃ es spare, d = .slice es spare ∧ es.length = xs.length) := by
  obtain ⟨fuel, h⟩ := h
  rw [hv] at h
  rcases open_slice Try.underlying22 h with ⟨h0, h00⟩ | ⟨a, len, cap, m, n, D, Pl, h0, _, hl, hm, hmm, hd, hx⟩
  · obtain rfl : v = .slice none 0 0 := by simpa using h0
    exact ⟨[], ⟨none, 0, rfl, fun _ => rfl, Nat.le_refl _, Nat.zero_le _, fun hn => absurd rfl hn⟩, .inl ⟨(Prod.mk.inj h00).1, rfl⟩⟩
  · obtain rfl : v = .slice (some a) len cap := by simpa using h0
    have hlm : len ≤ m := by rw [hmm]; split <;> omega
    obtain ⟨hd1, _⟩ := Prod.mk.inj hd
    by_cases h00 : len = 0
    · subst h00
      exact ⟨[], ⟨some a, cap, rfl, (fun e => by cases e), hl, hm, fun hn => absurd rfl hn⟩, .inr ⟨_, _, hd1, by simp⟩⟩
    · have each : ∀ i, i < len → ∃ r : Rl, ∀ j u, (rcells r)[j]? = some u → W.cell? ((a.add (i * 5)).add j) = some u := by
        intro i hi
        obtain ⟨cs', h1, h2⟩ := hx i (by omega)
        rw [cellsRule] at h1
        obtain ⟨_, hlen, hcell⟩ := World.cells?_some h1
        obtain ⟨r, rfl⟩ := rule_cells hlen h2
        refine ⟨r, fun j u hj => ?_⟩
        have hj5 : j < 5 := by
          have := (List.getElem?_eq_some_iff.1 hj).1
          simpa using this
        have := hcell j hj5
        rw [hj] at this
        exact this
      have hsp : a.spot = none := by
        obtain ⟨r, e0⟩ := each 0 (by omega)
        have := e0 0 _ rfl
        exact spot_none (a := a) (by simpa [Addr.add] using this)
      obtain ⟨b, o, sp'⟩ := a
      simp only [] at hsp
      subst hsp
      obtain ⟨f, hf⟩ := choose_lt' each
      have hlb : b < W.heap.size := by
        have := hf 0 (by omega) 0 _ rfl
        rw [Addr.add_lit, Addr.add_lit] at this
        exact World.block_lt_of_cell? W _ this
      have hlen : ((List.range len).map f).length = len := by simp
      refine ⟨(List.range len).map f, ⟨some ⟨b, o, none⟩, cap, by rw [hlen], (fun e => by cases e), by rw [hlen]; exact hl, hm, fun _ => ⟨b, o, rfl, hlb, fun j u hj => ?_⟩⟩, .inr ⟨_, _, hd1, by simp⟩⟩
      have hjl : j < len * 5 := by
        have := (List.getElem?_eq_some_iff.1 hj).1
        rw [cellsR_length, hlen] at this
        exact this
      have hk : ((List.range len).map f)[j / 5]? = some (f (j / 5)) := by
        rw [List.getElem?_map, List.getElem?_range (by omega)]
        rfl
      have hsplit := cellsR_split _ _ _ hk (j % 5) (Nat.mod_lt _ (by omega))
      rw [show j / 5 * 5 + j % 5 = j by omega, hj] at hsplit
      have := hf (j / 5) (by omega) (j % 5) u hsplit.symm
      rw [Addr.add_lit, Addr.add_lit, show o + j / 5 * 5 + j % 5 = o + j by omega] at this
      exact this

set_option maxRecDepth 100000 in
theorem rule_open {r : Reach} {b0 : Nat} {v : Value} {d : DataW H} {p : List MemPlace} (hv : Value.okWide Try.prog W r b0 46 v) (h : DataW.Trod enc Try.prog W 0 sp held 46 v d p) : ∃ x : Rl, v = rv x := by
  obtain ⟨cs, rfl, hsz⟩ := okWide_struct Try.underlying46 hv
  obtain ⟨fuel, h⟩ := h
  rw [cellsRule] at hsz
  obtain ⟨x, hx⟩ := rule_cells (cs := cs.toList) (by simpa using hsz) (by simpa [Value.cells] using h)
  refine ⟨x, ?_⟩
  congr 1
  cases cs
  simp only at hx
  rw [hx]
set_option maxRecDepth 100000 in
theorem packet_open {r : Reach} {b0 : Nat} {v : Value} {d : DataW H} {p : List MemPlace} (hv : Value.okWide Try.prog W r b0 24 v) (h : DataW.Trod enc Try.prog W 0 sp held 24 v d p) : ∃ a b c e : Int, v = pk a b c e := by
  obtain ⟨cs, rfl, hsz⟩ := okWide_struct Try.underlying24 hv
  obtain ⟨fuel, h⟩ := h
  rw [cellsPacket] at hsz
  obtain ⟨l⟩ := cs
  simp only [Value.cells] at h
  obtain ⟨xs, k, hk, hxy, _, hxl, hf⟩ := DataW.trod_struct Try.underlying24 h
  match xs, hxl, l, hsz with
  | [y0, y1, y2, y3], _, [v0, v1, v2, v3], _ =>
    have g0 := hf 0 _ rfl
    have g1 := hf 1 _ rfl
    have g2 := hf 2 _ rfl
    have g3 := hf 3 _ rfl
    simp [cellsInt] at g0 g1 g2 g3
    obtain ⟨x0, e0, _⟩ := DataW.trod_int Try.underlying3 g0
    obtain ⟨x1, e1, _⟩ := DataW.trod_int Try.underlying3 g1
    obtain ⟨x2, e2, _⟩ := DataW.trod_int Try.underlying3 g2
    obtain ⟨x3, e3, _⟩ := DataW.trod_int Try.underlying3 g3
    simp only [List.cons.injEq, and_true] at e0 e1 e2 e3
    subst e0 e1 e2 e3
    exact ⟨x0, x1, x2, x3, rfl⟩
end
end Go.Proofs.Ytnjfckbpmilhnaa


