/-
  acl.Dead.
-/
import Derived.Test.YtgcimcpcnoojnaaABuild
import Derived.Test.YtgcimcpcnoojnaaWithout
namespace Go.Proofs.Ytgcimcpcnoojnaa
open Go.RowKit Go.Maps

theorem abuild_any {base a M : Nat} {w : World} {ns : List Nd} (h : Ar base a M 14 40000 w ns) {v : Value} {xs : List Rl} (hR : Rules w.heap.size w v xs) (hlen : xs.length ≤ 8) :
    Calls Try.prog 27 #[.pointer (some ⟨a, 0, none⟩), v] w (BPost True base a M w ns xs) := by
  obtain ⟨A, cap, rfl, h1⟩ := id hR
  exact abuild_ok h A _ cap xs hR hlen

/-- A rule that can be left out. -/
def isDead (xs : List Rl) (i : Nat) : Prop := ∀ x, letsF (wo xs i) x = letsF xs x
open Classical in
noncomputable def deadTo (xs : List Rl) (k : Nat) : List Nat := (List.range k).filter fun i => decide (isDead xs i)
theorem deadTo_yes {xs : List Rl} {k : Nat} (h : isDead xs k) : deadTo xs (k + 1) = deadTo xs k ++ [k] := by simp [deadTo, List.range_succ, h]
theorem deadTo_no {xs : List Rl} {k : Nat} (h : ¬ isDead xs k) : deadTo xs (k + 1) = deadTo xs k := by simp [deadTo, List.range_succ, h]
theorem deadTo_len (xs : List Rl) (k : Nat) : (deadTo xs k).length ≤ k := Nat.le_trans (List.length_filter_le _ _) (by simp)
theorem deadTo_zero (xs : List Rl) : deadTo xs 0 = [] := rfl
theorem deadTo_mem {xs : List Rl} {k i : Nat} : i ∈ deadTo xs k ↔ i < k ∧ isDead xs i := by simp [deadTo]
abbrev intsV (ds : List Nat) : List Value := ds.map fun i : Nat => .int .i64 (i : Int)

/-- A slice of rules, apart from an arena. -/
def RulesK (C : Cfg) (w : World) (v : Value) (xs : List Rl) : Prop :=
  ∃ A cap, v = .slice A xs.length cap ∧ (A = none → cap = 0) ∧ xs.length ≤ cap ∧ cap ≤ maxLen ∧ (xs ≠ [] → ∃ b o, A = some ⟨b, o, none⟩ ∧ Out C w b ∧ RAt w b o xs)
theorem RulesK.rules {C : Cfg} {w : World} {v : Value} {xs : List Rl} (h : RulesK C w v xs) : Rules w.heap.size w v xs := by
  obtain ⟨A, cap, e, h0, h1, h2, h3⟩ := h
  exact ⟨A, cap, e, h0, h1, h2, fun hn => let ⟨b, o, ea, hb, hr⟩ := h3 hn; ⟨b, o, ea, hb.lt, hr⟩⟩
theorem RulesK.kp {C : Cfg} {w w' : World} {v : Value} {xs : List Rl} (h : RulesK C w v xs) (k : Kp C w w') : RulesK C w' v xs := by
  obtain ⟨A, cap, e, h0, h1, h2, h3⟩ := h
  refine ⟨A, cap, e, h0, h1, h2, fun hn => ?_⟩
  obtain ⟨b, o, ea, hb, hr⟩ := h3 hn
  exact ⟨b, o, ea, hb.kp k, fun j u hj => (World.cell?_of_block (a := ⟨b, o + j, none⟩) (k.blk b hb.lt hb.not hb.ne)).trans (hr j u hj)⟩
theorem Ar.rulesK {base a M vars most : Nat} {w : World} {ns : List Nd} (h : Ar base a M vars most w ns) {v : Value} {xs : List Rl} (hR : Rules base w v xs) : RulesK (ca base a M vars most) w v xs := by
  obtain ⟨A, cap, e, h0, h1, h2, h3⟩ := hR
  refine ⟨A, cap, e, h0, h1, h2, fun hn => ?_⟩
  obtain ⟨b, o, ea, hb, hr⟩ := h3 hn
  obtain ⟨_, _, rb, rl⟩ := h.row
  have l1 := h.lta
  have l2 := h.lowA
  exact ⟨b, o, ea, ⟨by omega, h.notMine hb, by show b ≠ rowOf w a; omega⟩, hr⟩

section
variable {base a M B : Nat} {w W W' : World} {ns : List Nd} {v : Value} {n : Nat} {cs : List Value}
theorem ownsRow_kp (h : Ar base a M 14 40000 W ns) (k : Kp (ca base a M 14 40000) W W') (ho : W.ownsRow B 3 1 v n cs) : W'.ownsRow B 3 1 v n cs := by
  refine ⟨ho.1, ?_⟩
  rcases ho.2 with h0 | ⟨g, cap, cur, hv, h1, hg, h2⟩
  · exact .inl h0
  · exact .inr ⟨g, cap, cur, hv, h1, ((h.outBox hg (by decide) (by decide)).kp k).blk, h2⟩
theorem ownsRow_out (h : Ar base a M 14 40000 W ns) (ho : W.ownsRow B 3 1 v n cs) : ∀ k, v.ownBlock = some k → B ≤ k ∧ Out (ca base a M 14 40000) W k := fun k e => by
  rcases ho.2 with ⟨rfl, _⟩ | ⟨g, cap, cur, rfl, h1, hg, h2⟩
  · cases e
  · cases e
    exact ⟨h1, (h.outBox hg (by decide) (by decide)).out⟩
/-- What append does to a row of ints. -/
theorem Ar.appInt (h : Ar base a M 14 40000 W ns) (ho : W.ownsRow B 3 1 v n cs) (hg : W.grownBy W' v.ownBlock) : Ar base a M 14 40000 W' ns := by
  have out := ownsRow_out h ho
  obtain ⟨_, _, _, rl⟩ := h.row
  exact h.same (hg.block a h.lta (fun e => (out a e.symm).2.not (Or.inl rfl))) (hg.block M h.ltM (fun e => (out M e.symm).2.not (Or.inr (Or.inr (Or.inl rfl))))) (hg.block _ rl (fun e => (out _ e.symm).2.ne rfl))
theorem Kp.appInt (k : Kp (ca base a M 14 40000) w W) (h : Ar base a M 14 40000 W ns) (ho : W.ownsRow B 3 1 v n cs) (hg : W.grownBy W' v.ownBlock) (hB : w.heap.size ≤ B) : Kp (ca base a M 14 40000) w W' := by
  have out := ownsRow_out h ho
  have s1 := k.size
  refine ⟨hg.os.trans k.os, hg.tape.trans k.tape, hg.output.trans k.output, Nat.le_trans k.size hg.size, fun i hi hm hr => ?_, ?_⟩
  · exact (hg.block i (by omega) (fun e => by have := (out i e.symm).1; omega)).trans (k.blk i hi hm hr)
  · rw [show rowOf W' (ca base a M 14 40000).a = rowOf W (ca base a M 14 40000).a from rowOf_same (hg.block a h.lta (fun e => (out a e.symm).2.not (Or.inl rfl)))]
    exact k.row
end

theorem Try.uInts : Try.prog.underlying 40 = some (.slice 3) := by kernel_rfl
theorem Try.infoInt : (Try.prog.info? 3).map (fun i => (i.zero, i.size, i.bytes)) = some (some (.int .i64 0), 1, 8) := by kernel_rfl

/-- What Dead leaves. -/
def DPost (E : Prop) (base a M : Nat) (w : World) (ns : List Nd) (xs : List Rl) (e : Ending) (w' : World) : Prop :=
  ∃ ns', Ar base a M 14 40000 w' ns' ∧ Kp (ca base a M 14 40000) w w' ∧ Ext ns ns' ∧
    ((∃ v, e = .returned (.tuple #[v, .int .i64 0]) ∧ w'.ownsRow w.heap.size 3 1 v (deadTo xs xs.length).length (intsV (deadTo xs xs.length))) ∨ (e = .returned (.tuple #[.slice none 0 0, .int .i64 6]) ∧ E))

set_option maxHeartbeats 1000000 in
theorem dead_large (p : Value) (A : Option Addr) (n cap : Nat) (hn : 8 < n) (w : World) :
    Calls Try.prog 28 #[p, .slice A n cap] w fun e w' => e = .returned (.tuple #[.slice none 0 0, .int .i64 2]) ∧ w' = w := by
  have BL : Hid (∀ w, Calls Try.prog 27 #[p, .slice A n cap] w fun e w' => e = .returned (.tuple #[.int .i64 0, .int .i64 2]) ∧ w' = w) := fun w => abuild_large p A n cap hn w
  clear hn
  go_enter Try.func28, Try.ntmps28
  go_wp2_with (go_at_call 27; refine (BL.out _).mono ?_; rintro e w' ⟨rfl, rfl⟩)
  go_ret2
  exact ⟨rfl, rfl⟩

set_option maxHeartbeats 8000000 in
set_option maxRecDepth 100000 in
theorem dead_gen {E : Prop} {base a M : Nat} {w : World} {ns : List Nd} (h : Ar base a M 14 40000 w ns) (A : Option Addr) (cap : Nat) (xs : List Rl) (hR : Hid (RulesK (ca base a M 14 40000) w (.slice A xs.length cap) xs)) (hlen : xs.length ≤ 8)
    (HB : Hid (∀ (ys : List Rl), (ys = xs ∨ ∃ k, k < xs.length ∧ ys = wo xs k) → ∀ (w : World) (ns : List Nd) (v : Value), Ar base a M 14 40000 w ns → Rules w.heap.size w v ys → Calls Try.prog 27 #[.pointer (some ⟨a, 0, none⟩), v] w (BPost E base a M w ns ys))) :
    Calls Try.prog 28 #[.pointer (some ⟨a, 0, none⟩), .slice A xs.length cap] w (DPost E base a M w ns xs) := by
  have BL : Hid (Calls Try.prog 27 #[.pointer (some ⟨a, 0, none⟩), .slice A xs.length cap] w (BPost E base a M w ns xs)) := HB.out xs (.inl rfl) w ns _ h hR.out.rules
  go_enter Try.func28, Try.ntmps28
  go_wp2_with fail
  refine BL.out.mono ?_
  rintro e w1 hp
  obtain ⟨ns1, v1, er1, rfl, A1, K1, X1, d1⟩ := hp.pair
  clear hp BL
  rcases d1.out with ⟨rfl, f1, rfl, l1, e1⟩ | ⟨rfl, rfl, hE⟩
  · have E1 : Hid (∀ x, ev ns1 f1 x = letsF xs x) := e1
    clear d1 e1
    go_wp2_with fail
    go_loopw [8, 23] (fun d0 i wr => ∃ (k : Nat) (ns2 : List Nd) (d : Value), d = d0 ∧ k ≤ xs.length ∧ i = .int .i64 (k : Int) ∧ Ar base a M 14 40000 wr ns2 ∧ Kp (ca base a M 14 40000) w wr ∧ Ext ns1 ns2 ∧ Hid (wr.ownsRow w.heap.size 3 1 d (deadTo xs k).length (intsV (deadTo xs k)))) (fun _ i _ => xs.length - (intOf i).toNat)
    case atStart => exact ⟨0, ns1, _, rfl, by omega, rfl, A1, K1, Ext.refl _, (World.ownsRow_nil w1 w.heap.size 3 1 : w1.ownsRow w.heap.size 3 1 (.slice none 0 0) (deadTo xs 0).length (intsV (deadTo xs 0)))⟩
    case round =>
      obtain ⟨k, ns2, d, rfl, hk, rfl, A2, K2, X2, O2⟩ := hrel
      by_cases hlt : k < xs.length
      · have hR2 := hR.out.kp K2
        have WO : Hid (Calls Try.prog 76 #[.slice A xs.length cap, .int .i64 (k : Int)] wr fun e w' => ∃ v, e = .returned v ∧ Hid (w'.ownsRow wr.heap.size 78 5 v (wo xs k).length (cellsR (wo xs k))) ∧ Below wr.heap.size wr w') := without_ok wr hR2.rules hlt hlen
        go_wp2_with fail
        refine WO.out.mono ?_
        rintro e w3 ⟨v3, rfl, o3, hb3⟩
        have A3 := A2.below hb3
        have K3 := K2.trans (A2.kbelow hb3)
        have O3 : Hid (w3.ownsRow w.heap.size 3 1 d (deadTo xs k).length (intsV (deadTo xs k))) := ownsRow_kp A2 (A2.kbelow hb3) O2.out
        have B3 : Hid (Calls Try.prog 27 #[.pointer (some ⟨a, 0, none⟩), v3] w3 (BPost E base a M w3 ns2 (wo xs k))) := HB.out _ (.inr ⟨k, hlt, rfl⟩) w3 ns2 _ A3 (Rules.own o3.out)
        clear WO o3 hb3 A2 K2 O2 hR2
        go_wp2_with fail
        refine B3.out.mono ?_
        rintro e w4 hp
        obtain ⟨ns4, v4, er4, rfl, A4, K4', X4, d4⟩ := hp.pair
        have K4 := K3.trans K4'
        have O4 : Hid (w4.ownsRow w.heap.size 3 1 d (deadTo xs k).length (intsV (deadTo xs k))) := ownsRow_kp A3 K4' O3.out
        have X14 := X2.trans X4
        clear hp B3 A3 K3 O3 K4'
        rcases d4.out with ⟨rfl, f4, rfl, l4, e4⟩ | ⟨rfl, rfl, hE⟩
        · have wf4 := A4.wf
          have wf1 := A1.wf
          have l14 := X14.len
          have iff : f4 = f1 ↔ isDead xs k := by
            constructor
            · intro e x
              rw [← e4 x, e, X14.ev wf1 wf4 _ l1, E1.out]
            · intro hd
              refine canon wf4 l4 (by omega) (fun x => ?_)
              rw [e4 x, hd x, X14.ev wf1 wf4 _ l1, E1.out]
          clear e4 d4
          by_cases hd : isDead xs k
          · obtain rfl := iff.2 hd
            have hdl := deadTo_len xs k
            obtain ⟨i0, hi, hz0, hz1, hz2⟩ := info_parts Try.infoInt
            have q1 := ownsRow_kp A4 (A4.kbelow ((Below.refl _ _).alloc (Nat.le_refl _) (.cells #[.int .i64 (k : Int)] 3))) O4.out
            have s4 := K4.size
            obtain ⟨v5, w5, hr5, o5, g5, _⟩ := run_append_own (P := Try.prog) (w4.alloc (.cells #[.int .i64 (k : Int)] 3)) w.heap.size 40 40 3 i0 _ 1 8 Try.uInts hi hz0 hz1 hz2 rfl (by decide) d (deadTo xs k).length (intsV (deadTo xs k)) q1 ⟨w4.heap.size, 0, none⟩ 1 1 [.int .i64 (k : Int)] rfl (fun j u hj => by
              match j, hj with
              | 0, hj => cases hj; rw [Addr.add_lit]; simp [go_sem]
              | j + 1, hj => simp at hj) (fun u hu => by simp at hu; subst hu; rfl) (by unfold maxLen; omega) (by omega) (by simp; omega)
            have A5 := (A4.alloc (.cells #[.int .i64 (k : Int)] 3)).appInt q1 g5
            have K5 := (K4.trans (A4.kbelow ((Below.refl _ _).alloc (Nat.le_refl _) (.cells #[.int .i64 (k : Int)] 3)))).appInt (A4.alloc _) q1 g5 (Nat.le_refl _)
            have O5 : Hid (w5.ownsRow w.heap.size 3 1 v5 (deadTo xs (k + 1)).length (intsV (deadTo xs (k + 1)))) := by
              have o6 : w5.ownsRow w.heap.size 3 1 v5 (deadTo xs (k + 1)).length (intsV (deadTo xs (k + 1))) := by
                rw [deadTo_yes hd]
                simpa [intsV] using o5
              exact o6
            clear o5 g5 q1 hi hz0 hz1 hz2 A4 K4 O4 hd iff hR HB
            go_wp2_with (at_builtin; refine append_run rfl _ _ 40 rfl rfl rfl hr5 ?_)
            go_roundw
            case rel => exact ⟨k + 1, ns4, _, rfl, by omega, by go_num, A5, K5, X14, O5⟩
            case measure => simp [intOf]; omega
          · have hne : ((f4 : Int) == (f1 : Int)) = false := by
              have : f4 ≠ f1 := fun e => hd (iff.1 e)
              simp
              omega
            have O5 : Hid (w4.ownsRow w.heap.size 3 1 d (deadTo xs (k + 1)).length (intsV (deadTo xs (k + 1)))) := by rw [deadTo_no hd]; exact O4
            clear hd iff O4 hR HB
            go_wp2_with fail
            go_roundw
            case rel => exact ⟨k + 1, ns4, _, rfl, by omega, by go_num, A4, K4, X14, O5⟩
            case measure => simp [intOf]; omega
        · have fin : Hid (DPost E base a M w ns xs (.returned (.tuple #[.slice none 0 0, .int .i64 6])) w4) := ⟨ns4, A4, K4, X1.trans X14, .inr ⟨rfl, hE⟩⟩
          clear d4 A4 K4 O4 hR
          go_wp2_with fail
          go_ret2
          exact fin.out
      · obtain rfl : k = xs.length := by omega
        have fin : Hid (DPost E base a M w ns xs (.returned (.tuple #[d, .int .i64 0])) wr) := ⟨ns2, A2, K2, X1.trans X2, .inl ⟨d, rfl, O2.out⟩⟩
        clear A2 K2 O2 hR
        go_wp2_with fail
        go_ret2
        exact fin.out
  · have fin : Hid (DPost E base a M w ns xs (.returned (.tuple #[.slice none 0 0, .int .i64 6])) w1) := ⟨ns1, A1, K1, X1, .inr ⟨rfl, hE⟩⟩
    clear d1 A1 K1 hR
    go_wp2_with fail
    go_ret2
    exact fin.out

theorem wo_len {xs : List Rl} {k : Nat} (h : k < xs.length) : (wo xs k).length + 1 = xs.length := by
  unfold wo
  rw [List.length_append, List.length_take, List.length_drop]
  omega
theorem dead_ok {base a M : Nat} {w : World} {ns : List Nd} (h : Ar base a M 14 40000 w ns) (A : Option Addr) (cap : Nat) (xs : List Rl) (hR : Hid (RulesK (ca base a M 14 40000) w (.slice A xs.length cap) xs)) (hlen : xs.length ≤ 8) :
    Calls Try.prog 28 #[.pointer (some ⟨a, 0, none⟩), .slice A xs.length cap] w (DPost True base a M w ns xs) :=
  dead_gen h A cap xs hR hlen (fun ys hy w ns v hA hv => abuild_any hA hv (by
    rcases hy with rfl | ⟨k, hk, rfl⟩
    · exact hlen
    · have := wo_len hk
      omega))
/-- Dead finds room, where the list has at most two rules, and neither it nor a list without one of them hangs on anything. -/
theorem dead_const {base a M : Nat} {w : World} {ns : List Nd} (h : Ar base a M 14 40000 w ns) (A : Option Addr) (cap : Nat) (xs : List Rl) (hR : Hid (RulesK (ca base a M 14 40000) w (.slice A xs.length cap) xs)) (hlen : xs.length ≤ 2)
    (hc : ∀ ys : List Rl, (ys = xs ∨ ∃ k, k < xs.length ∧ ys = wo xs k) → ∃ b, ∀ x, letsF ys x = b) :
    Calls Try.prog 28 #[.pointer (some ⟨a, 0, none⟩), .slice A xs.length cap] w (DPost False base a M w ns xs) :=
  dead_gen h A cap xs hR (by omega) (fun ys hy w ns v hA hv => by
    obtain ⟨b, hb⟩ := hc ys hy
    obtain ⟨A', cap', rfl, h1⟩ := id hv
    refine abuild_const hA A' _ cap' ys hv ?_ b hb
    rcases hy with rfl | ⟨k, hk, rfl⟩
    · exact hlen
    · have := wo_len hk
      omega)
end Go.Proofs.Ytgcimcpcnoojnaa


