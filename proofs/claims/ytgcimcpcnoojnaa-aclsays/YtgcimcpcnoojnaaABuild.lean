/-
  acl.Check, acl.Build.
-/
import Derived.Test.YtgcimcpcnoojnaaJoin
import Derived.Test.YtgcimcpcnoojnaaTake2
import Derived.Test.YtgcimcpcnoojnaaLets
namespace Go.Proofs.Ytgcimcpcnoojnaa
open Go.RowKit Go.Maps

theorem check_ok (A : Option Addr) (n cap : Nat) (w : World) : Calls Try.prog 24 #[.slice A n cap] w fun e w' => e = .returned (.int .i64 (if 8 < n then 2 else 0)) ∧ w' = w := by
  by_cases h : 8 < n
  · have t : decide ((8 : Int) < (n : Int)) = true := by simp; omega
    rw [if_pos h]
    go_enter Try.func24, Try.ntmps24
    go_wp2_with fail
    go_ret
    exact ⟨rfl, rfl⟩
  · have t : decide ((8 : Int) < (n : Int)) = false := by simp; omega
    rw [if_neg h]
    go_enter Try.func24, Try.ntmps24
    go_wp2_with fail
    go_ret
    exact ⟨rfl, rfl⟩

/-- What Build leaves. -/
def BPost (E : Prop) (base a M : Nat) (w : World) (ns : List Nd) (xs : List Rl) (e : Ending) (w' : World) : Prop :=
  ∃ ns', Ar base a M 14 40000 w' ns' ∧ Kp (ca base a M 14 40000) w w' ∧ Ext ns ns' ∧
    ((∃ f : Nat, e = .returned (.tuple #[.int .i64 (f : Int), .int .i64 0]) ∧ f < ns'.length ∧ ∀ x, ev ns' f x = letsF xs x) ∨ (e = .returned (.tuple #[.int .i64 0, .int .i64 6]) ∧ E))

theorem BPost.pair {E : Prop} {base a M : Nat} {w w' : World} {ns : List Nd} {xs : List Rl} {e : Ending} (h : BPost E base a M w ns xs e w') :
    ∃ (ns' : List Nd) (v er : Int), e = .returned (.tuple #[.int .i64 v, .int .i64 er]) ∧ Ar base a M 14 40000 w' ns' ∧ Kp (ca base a M 14 40000) w w' ∧ Ext ns ns' ∧
      Hid ((er = 0 ∧ ∃ f : Nat, v = (f : Int) ∧ f < ns'.length ∧ ∀ x, ev ns' f x = letsF xs x) ∨ (er = 6 ∧ v = 0 ∧ E)) := by
  obtain ⟨ns', r1, r2, r3, ⟨f, e1, e2⟩ | ⟨e1, e2⟩⟩ := h
  · exact ⟨ns', f, 0, e1, r1, r2, r3, Or.inl ⟨rfl, f, rfl, e2⟩⟩
  · exact ⟨ns', 0, 6, e1, r1, r2, r3, Or.inr ⟨rfl, rfl, e2⟩⟩

set_option maxHeartbeats 1000000 in
theorem abuild_large (p : Value) (A : Option Addr) (n cap : Nat) (hn : 8 < n) (w : World) :
    Calls Try.prog 27 #[p, .slice A n cap] w fun e w' => e = .returned (.tuple #[.int .i64 0, .int .i64 2]) ∧ w' = w := by
  have CK : Hid (∀ w, Calls Try.prog 24 #[.slice A n cap] w fun e w' => e = .returned (.int .i64 2) ∧ w' = w) := fun w => by
    have := check_ok A n cap w
    rw [if_pos hn] at this
    exact this
  clear hn
  go_enter Try.func27, Try.ntmps27
  go_wp2_with (go_at_call 24; refine (CK.out _).mono ?_; rintro e w' ⟨rfl, rfl⟩)
  go_ret2
  exact ⟨rfl, rfl⟩

set_option maxHeartbeats 4000000 in
set_option maxRecDepth 100000 in
theorem abuild_ok {base a M : Nat} {w : World} {ns : List Nd} (h : Ar base a M 14 40000 w ns) (A : Option Addr) (n cap : Nat) (xs : List Rl) (hR : Rules w.heap.size w (.slice A n cap) xs) (hlen : xs.length ≤ 8) :
    Calls Try.prog 27 #[.pointer (some ⟨a, 0, none⟩), .slice A n cap] w (BPost True base a M w ns xs) := by
  have hn : n = xs.length := by
    obtain ⟨_, _, e, _⟩ := hR
    cases e
    rfl
  have CK : Hid (∀ w, Calls Try.prog 24 #[.slice A n cap] w fun e w' => e = .returned (.int .i64 0) ∧ w' = w) := fun w => by
    have := check_ok A n cap w
    rw [if_neg (by omega)] at this
    exact this
  have NW : Hid (Calls Try.prog 9 #[.int .i64 14, .int .i64 40000] w fun e w' => ∃ a2 M2, e = .returned (.tuple #[.pointer (some ⟨a2, 0, none⟩), .int .i64 0]) ∧ Ar w.heap.size a2 M2 14 40000 w' [(14, 0, 0), (14, 1, 1)] ∧ Below w.heap.size w w') := new_ok (v := 14) (m := 40000) w (by omega) (by omega) (by omega) (by omega)
  clear hn
  go_enter Try.func27, Try.ntmps27
  go_wp2_with (go_at_call 24; refine (CK.out _).mono ?_; rintro e w' ⟨rfl, rfl⟩)
  refine NW.out.mono ?_
  rintro e w2 ⟨a2, M2, rfl, A2, hb2⟩
  have JO : Hid (Calls Try.prog 74 #[.pointer (some ⟨a2, 0, none⟩), .slice A n cap] w2 fun e w' => ∃ ns', Ar _ a2 M2 14 40000 w' ns' ∧ Below _ w2 w' ∧
      ((∃ f : Nat, e = .returned (.tuple #[.int .i64 (f : Int), .int .i64 0]) ∧ f < ns'.length ∧ ∀ x, ev ns' f x = letsF xs x) ∨ (e = .returned (.tuple #[.int .i64 0, .int .i64 6]) ∧ _))) := join_ok A2 A n cap xs (hR.below hb2) hlen
  clear CK NW
  go_wp2_with fail
  refine JO.out.mono ?_
  rintro e w3 ⟨ns3, A3, hb3, hres⟩
  have D3 := hb2.trans hb3
  have H3 := h.below D3
  have K3 := h.kbelow D3
  clear JO hb2 hb3 A2
  rcases hres with ⟨f, rfl, lf, ef⟩ | ⟨rfl, _⟩
  · obtain ⟨_, _, _, rl⟩ := h.row
    have hrow := rowOf_same (D3.block a h.lta)
    have TK : Hid (Calls Try.prog 75 #[.pointer (some ⟨a, 0, none⟩), .pointer (some ⟨a2, 0, none⟩), .int .i64 (f : Int)] w3 (OpPost base a M 14 40000 w3 ns (2 ^ 14 - 1) fun q => ev ns3 f q)) := take_ok H3 A3 (Nat.le_refl _) h.lta h.ltM (by rw [hrow]; exact rl) lf
    clear hrow rl A3
    go_wp2_with fail
    refine TK.out.mono ?_
    rintro e w4 hp
    obtain ⟨ns4, v4, er4, rfl, A4, K4, X4, _, d4⟩ := hp.pair
    have KK := K3.trans K4
    clear hp TK H3 K3 K4 D3
    have fin : Hid (BPost True base a M w' ns xs (.returned (.tuple #[.int .i64 v4, .int .i64 er4])) w4) := by
      rcases d4.out with ⟨rfl, f4, rfl, l4, e4⟩ | ⟨rfl, rfl, _⟩
      · exact ⟨ns4, A4, KK, X4, .inl ⟨f4, rfl, l4, fun x => (e4 x).trans (ef x)⟩⟩
      · exact ⟨ns4, A4, KK, X4, .inr ⟨rfl, trivial⟩⟩
    clear d4 A4 KK X4 ef
    go_wp2_with fail
    go_ret2
    exact fin.out
  · have fin : Hid (BPost True base a M w' ns xs (.returned (.tuple #[.int .i64 0, .int .i64 6])) w3) := ⟨ns, H3, K3, Ext.refl _, .inr ⟨rfl, trivial⟩⟩
    clear H3 K3 D3 A3
    go_wp2_with fail
    go_ret2
    exact fin.out
set_option maxHeartbeats 4000000 in
set_option maxRecDepth 100000 in
/-- Build, of at most two rules whose function hangs on nothing: it finds room. -/
theorem abuild_const {base a M : Nat} {w : World} {ns : List Nd} (h : Ar base a M 14 40000 w ns) (A : Option Addr) (n cap : Nat) (xs : List Rl) (hR : Rules w.heap.size w (.slice A n cap) xs) (hlen : xs.length ≤ 2) (b : Bool) (hc : ∀ x, letsF xs x = b) :
    Calls Try.prog 27 #[.pointer (some ⟨a, 0, none⟩), .slice A n cap] w (BPost False base a M w ns xs) := by
  have hn : n = xs.length := by
    obtain ⟨_, _, e, _⟩ := hR
    cases e
    rfl
  have CK : Hid (∀ w, Calls Try.prog 24 #[.slice A n cap] w fun e w' => e = .returned (.int .i64 0) ∧ w' = w) := fun w => by
    have := check_ok A n cap w
    rw [if_neg (by omega)] at this
    exact this
  have NW : Hid (Calls Try.prog 9 #[.int .i64 14, .int .i64 40000] w fun e w' => ∃ a2 M2, e = .returned (.tuple #[.pointer (some ⟨a2, 0, none⟩), .int .i64 0]) ∧ Ar w.heap.size a2 M2 14 40000 w' [(14, 0, 0), (14, 1, 1)] ∧ Below w.heap.size w w') := new_ok (v := 14) (m := 40000) w (by omega) (by omega) (by omega) (by omega)
  clear hn
  go_enter Try.func27, Try.ntmps27
  go_wp2_with (go_at_call 24; refine (CK.out _).mono ?_; rintro e w' ⟨rfl, rfl⟩)
  refine NW.out.mono ?_
  rintro e w2 ⟨a2, M2, rfl, A2, hb2⟩
  have JO : Hid (Calls Try.prog 74 #[.pointer (some ⟨a2, 0, none⟩), .slice A n cap] w2 fun e w' => ∃ ns', Ar _ a2 M2 14 40000 w' ns' ∧ Below _ w2 w' ∧
      ((∃ f : Nat, e = .returned (.tuple #[.int .i64 (f : Int), .int .i64 0]) ∧ f < ns'.length ∧ ∀ x, ev ns' f x = letsF xs x) ∨ (e = .returned (.tuple #[.int .i64 0, .int .i64 6]) ∧ _))) := join_ok A2 A n cap xs (hR.below hb2) (by omega)
  clear CK NW
  go_wp2_with fail
  refine JO.out.mono ?_
  rintro e w3 ⟨ns3, A3, hb3, hres⟩
  have D3 := hb2.trans hb3
  have H3 := h.below D3
  have K3 := h.kbelow D3
  clear JO hb2 hb3 A2
  obtain ⟨f, rfl, lf, ef⟩ : ∃ f : Nat, e = .returned (.tuple #[.int .i64 (f : Int), .int .i64 0]) ∧ f < ns3.length ∧ ∀ x, ev ns3 f x = letsF xs x := by
    rcases hres with h | ⟨_, h⟩
    · exact h
    · simp only [List.length_cons, List.length_nil] at h
      omega
  have l3 := A3.wf.len
  have hf : f = if b then 1 else 0 := by
    refine canon A3.wf lf (by split <;> omega) (fun x => ?_)
    rw [ef x, hc x]
    cases b
    · rfl
    · simp [ev1]
  have TK : Hid (Calls Try.prog 75 #[.pointer (some ⟨a, 0, none⟩), .pointer (some ⟨a2, 0, none⟩), .int .i64 (f : Int)] w3 fun e w' => e = .returned (.tuple #[.int .i64 (f : Int), .int .i64 0]) ∧ Ar base a M 14 40000 w' ns ∧ Kp (ca base a M 14 40000) w3 w') := take_const H3 A3 (Nat.le_refl _) (by rw [hf]; split <;> omega)
  have h2 := h.wf.len
  have hlt : f < ns.length := by rw [hf]; split <;> omega
  have hev : ∀ x, ev ns f x = letsF xs x := fun x => by
    rw [hc x, hf]
    cases b
    · rfl
    · simp [ev1]
  have EV : Hid (∀ x, ev ns f x = letsF xs x) := hev
  clear hf hev ef A3 H3 hc hres
  go_wp2_with fail
  refine TK.out.mono ?_
  rintro e w4 ⟨rfl, A4, K4⟩
  have fin : Hid (BPost False base a M w' ns xs (.returned (.tuple #[.int .i64 (f : Int), .int .i64 0])) w4) := ⟨ns, A4, K3.trans K4, Ext.refl _, .inl ⟨f, rfl, hlt, EV.out⟩⟩
  clear A4 K4 K3 TK EV D3
  go_wp2_with fail
  go_ret2
  exact fin.out
end Go.Proofs.Ytgcimcpcnoojnaa


