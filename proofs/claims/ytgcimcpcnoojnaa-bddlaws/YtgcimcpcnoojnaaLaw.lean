/-
  BddLaws: the law's walk.
-/
import Derived.Test.YtgcimcpcnoojnaaKnow
namespace Go.Proofs.Ytgcimcpcnoojnaa
open Go.RowKit Go.Maps

set_option maxHeartbeats 16000000 in
set_option maxRecDepth 100000 in
theorem bddLaws_any (w : World) (l m : Value) (i0 j0 : Int) (hl : Hq (SomeOk w.heap.size w l)) (hm : Hq (SomeOk w.heap.size w m)) :
    Calls Try.prog 7 #[l, m, .int .i64 i0, .int .i64 j0] w fun e w' => e = .returned (.bool true) ∧ Below w.heap.size w w' := by
  go_enter Try.func7, Try.ntmps7
  go_wp2_with fail
  refine (new_kn w).mono ?_
  rintro e w1 ⟨a, M, rfl, hS1⟩
  go_wp2_with fail
  refine (some_kn hl.out hS1 (by omega)).mono ?_
  rintro e w2 ⟨f, F, rfl, hS2⟩
  clear hS1
  go_wp2_with fail
  refine (some_kn hm.out hS2 (by omega)).mono ?_
  rintro e w3 ⟨g, G, rfl, hS3⟩
  clear hS2 hl hm
  go_wp2_with fail
  refine (rest_nat _ i0 6 (by omega) (by omega)).mono ?_
  rintro e w' ⟨i, rfl, hi, rfl⟩
  go_wp2_with fail
  refine (rest_nat _ j0 6 (by omega) (by omega)).mono ?_
  rintro e w' ⟨j, rfl, hj, rfl⟩
  go_wp2_with (go_at_call 40; refine (got_ok _ _).mono ?_; rintro e w' ⟨rfl, rfl⟩)
  refine (var_kn hS3 hi (by omega)).mono ?_
  rintro e w4 ⟨v, rfl, hS4⟩
  clear hS3
  have hv2 : decide ((v : Int) < 2) = false := by have := hS4.big (f := v) (i := i) (by repeat (first | exact List.Mem.head _ | apply List.Mem.tail)); simp; omega
  go_wp2_with (go_at_call 40; refine (got_ok _ _).mono ?_; rintro e w' ⟨rfl, rfl⟩)
  refine (not_kn hS4 (f := v) (φ := (fun x => x i)) (by repeat (first | exact List.Mem.head _ | apply List.Mem.tail)) (by omega)).mono ?_
  rintro e w5 ⟨n1, rfl, hS5⟩
  clear hS4
  go_wp2_with (go_at_call 40; refine (got_ok _ _).mono ?_; rintro e w' ⟨rfl, rfl⟩)
  refine (not_kn hS5 (f := n1) (φ := (fun x => !(x i))) (by repeat (first | exact List.Mem.head _ | apply List.Mem.tail)) (by omega)).mono ?_
  rintro e w6 ⟨n2, rfl, hS6⟩
  clear hS5
  obtain rfl : v = n2 := hS6.eq (φ := (fun x => x i)) (ψ := (fun x => !(!(x i)))) (by repeat (first | exact List.Mem.head _ | apply List.Mem.tail)) (by repeat (first | exact List.Mem.head _ | apply List.Mem.tail)) (fun x => by simp)
  go_wp2_with (go_at_call 40; refine (got_ok _ _).mono ?_; rintro e w' ⟨rfl, rfl⟩)
  refine (not_kn hS6 (f := f) (φ := F) (by repeat (first | exact List.Mem.head _ | apply List.Mem.tail)) (by omega)).mono ?_
  rintro e w7 ⟨nf, rfl, hS7⟩
  clear hS6
  go_wp2_with (go_at_call 40; refine (got_ok _ _).mono ?_; rintro e w' ⟨rfl, rfl⟩)
  refine (not_kn hS7 (f := g) (φ := G) (by repeat (first | exact List.Mem.head _ | apply List.Mem.tail)) (by omega)).mono ?_
  rintro e w8 ⟨ng, rfl, hS8⟩
  clear hS7
  go_wp2_with (go_at_call 40; refine (got_ok _ _).mono ?_; rintro e w' ⟨rfl, rfl⟩)
  refine (and_kn hS8 (f := f) (φ := F) (g := g) (ψ := G) (by repeat (first | exact List.Mem.head _ | apply List.Mem.tail)) (by repeat (first | exact List.Mem.head _ | apply List.Mem.tail)) (by omega)).mono ?_
  rintro e w9 ⟨an, rfl, hS9⟩
  clear hS8
  go_wp2_with (go_at_call 40; refine (got_ok _ _).mono ?_; rintro e w' ⟨rfl, rfl⟩)
  refine (or_kn hS9 (f := f) (φ := F) (g := g) (ψ := G) (by repeat (first | exact List.Mem.head _ | apply List.Mem.tail)) (by repeat (first | exact List.Mem.head _ | apply List.Mem.tail)) (by omega)).mono ?_
  rintro e w10 ⟨orr, rfl, hS10⟩
  clear hS9
  go_wp2_with (go_at_call 40; refine (got_ok _ _).mono ?_; rintro e w' ⟨rfl, rfl⟩)
  refine (not_kn hS10 (f := an) (φ := (fun x => (F x) && (G x))) (by repeat (first | exact List.Mem.head _ | apply List.Mem.tail)) (by omega)).mono ?_
  rintro e w11 ⟨na, rfl, hS11⟩
  clear hS10
  go_wp2_with (go_at_call 40; refine (got_ok _ _).mono ?_; rintro e w' ⟨rfl, rfl⟩)
  refine (or_kn hS11 (f := nf) (φ := (fun x => !(F x))) (g := ng) (ψ := (fun x => !(G x))) (by repeat (first | exact List.Mem.head _ | apply List.Mem.tail)) (by repeat (first | exact List.Mem.head _ | apply List.Mem.tail)) (by omega)).mono ?_
  rintro e w12 ⟨o1, rfl, hS12⟩
  clear hS11
  obtain rfl : na = o1 := hS12.eq (φ := (fun x => !((F x) && (G x)))) (ψ := (fun x => (!(F x)) || (!(G x)))) (by repeat (first | exact List.Mem.head _ | apply List.Mem.tail)) (by repeat (first | exact List.Mem.head _ | apply List.Mem.tail)) (fun x => by cases F x <;> cases G x <;> rfl)
  go_wp2_with (go_at_call 40; refine (got_ok _ _).mono ?_; rintro e w' ⟨rfl, rfl⟩)
  refine (and_kn hS12 (f := f) (φ := F) (g := nf) (ψ := (fun x => !(F x))) (by repeat (first | exact List.Mem.head _ | apply List.Mem.tail)) (by repeat (first | exact List.Mem.head _ | apply List.Mem.tail)) (by omega)).mono ?_
  rintro e w13 ⟨z, rfl, hS13⟩
  clear hS12
  obtain rfl : z = 0 := hS13.eq (φ := (fun x => (F x) && (!(F x)))) (ψ := fun _ => false) (by repeat (first | exact List.Mem.head _ | apply List.Mem.tail)) (by repeat (first | exact List.Mem.head _ | apply List.Mem.tail)) (fun x => by cases F x <;> rfl)
  go_wp2_with (go_at_call 40; refine (got_ok _ _).mono ?_; rintro e w' ⟨rfl, rfl⟩)
  refine (or_kn hS13 (f := f) (φ := F) (g := orr) (ψ := (fun x => (F x) || (G x))) (by repeat (first | exact List.Mem.head _ | apply List.Mem.tail)) (by repeat (first | exact List.Mem.head _ | apply List.Mem.tail)) (by omega)).mono ?_
  rintro e w14 ⟨o2, rfl, hS14⟩
  clear hS13
  obtain rfl : orr = o2 := hS14.eq (φ := (fun x => (F x) || (G x))) (ψ := (fun x => (F x) || ((F x) || (G x)))) (by repeat (first | exact List.Mem.head _ | apply List.Mem.tail)) (by repeat (first | exact List.Mem.head _ | apply List.Mem.tail)) (fun x => by cases F x <;> cases G x <;> rfl)
  go_wp2_with (go_at_call 40; refine (got_ok _ _).mono ?_; rintro e w' ⟨rfl, rfl⟩)
  refine (and_kn hS14 (f := an) (φ := (fun x => (F x) && (G x))) (g := g) (ψ := G) (by repeat (first | exact List.Mem.head _ | apply List.Mem.tail)) (by repeat (first | exact List.Mem.head _ | apply List.Mem.tail)) (by omega)).mono ?_
  rintro e w15 ⟨a2, rfl, hS15⟩
  clear hS14
  obtain rfl : an = a2 := hS15.eq (φ := (fun x => (F x) && (G x))) (ψ := (fun x => ((F x) && (G x)) && (G x))) (by repeat (first | exact List.Mem.head _ | apply List.Mem.tail)) (by repeat (first | exact List.Mem.head _ | apply List.Mem.tail)) (fun x => by cases F x <;> cases G x <;> rfl)
  go_wp2_with (go_at_call 40; refine (got_ok _ _).mono ?_; rintro e w' ⟨rfl, rfl⟩)
  refine (exists_kn hS15 (f := f) (φ := F) (by repeat (first | exact List.Mem.head _ | apply List.Mem.tail)) hi (by omega)).mono ?_
  rintro e w16 ⟨ex, rfl, hS16⟩
  clear hS15
  go_wp2_with (go_at_call 40; refine (got_ok _ _).mono ?_; rintro e w' ⟨rfl, rfl⟩)
  refine (swap_kn hS16 (f := f) (φ := F) (by repeat (first | exact List.Mem.head _ | apply List.Mem.tail)) hi hj (by omega)).mono ?_
  rintro e w17 ⟨sw, rfl, hS17⟩
  clear hS16
  have hcd := T_not F 6 0 e00
  have hcs := T_swap6 (hS17.dep (f := f) (φ := F) (by repeat (first | exact List.Mem.head _ | apply List.Mem.tail))) hi hj e00 e00
  have hc' : Hq (T 6 0 (fun x => F (swE x i j)) e00 = T 6 0 F e00) := ⟨hcs⟩
  clear hcs
  obtain ⟨c, hc⟩ : ∃ c, T 6 0 F e00 = c := ⟨_, rfl⟩
  obtain ⟨d, hd⟩ : ∃ d, T 6 0 (fun x => !F x) e00 = d := ⟨_, rfl⟩
  have wr : IntKind.i64.wrap ((c : Int) + (d : Int)) = 64 := by rw [IntWalk.i64_in _ (by omega)]; omega
  have wr2 : (c : Int) + (d : Int) = 64 := by omega
  go_wp2_with (go_at_call 40; refine (got_ok _ _).mono ?_; rintro e w' ⟨rfl, rfl⟩)
  refine (count_kn hS17 (f := f) (φ := F) (by repeat (first | exact List.Mem.head _ | apply List.Mem.tail))).mono ?_
  rintro e w18 ⟨rfl, hS18⟩
  clear hS17
  rw [hc]
  go_wp2_with (go_at_call 40; refine (got_ok _ _).mono ?_; rintro e w' ⟨rfl, rfl⟩)
  refine (count_kn hS18 (f := nf) (φ := (fun x => !F x)) (by repeat (first | exact List.Mem.head _ | apply List.Mem.tail))).mono ?_
  rintro e w19 ⟨rfl, hS19⟩
  clear hS18
  rw [hd]
  have hcd' := Hq.mk hcd
  clear hcd hd
  have hc2 := hc'.out
  rw [hc] at hc2
  have hc3 := Hq.mk hc2
  clear hc2 hc hc' hcd'
  go_wp2_with (go_at_call 40; refine (got_ok _ _).mono ?_; rintro e w' ⟨rfl, rfl⟩)
  refine (size_kn hS19 (by omega)).mono ?_
  rintro e w' ⟨⟨s, rfl, hs⟩, rfl⟩
  go_wp2_with (go_at_call 40; refine (got_ok _ _).mono ?_; rintro e w' ⟨rfl, rfl⟩)
  refine (or_kn hS19 (f := f) (φ := F) (g := ex) (ψ := (fun x => (F (setE x i false)) || (F (setE x i true)))) (by repeat (first | exact List.Mem.head _ | apply List.Mem.tail)) (by repeat (first | exact List.Mem.head _ | apply List.Mem.tail)) (by omega)).mono ?_
  rintro e w20 ⟨e1, rfl, hS20⟩
  clear hS19
  obtain rfl : ex = e1 := hS20.eq (φ := (fun x => (F (setE x i false)) || (F (setE x i true)))) (ψ := (fun x => (F x) || ((F (setE x i false)) || (F (setE x i true))))) (by repeat (first | exact List.Mem.head _ | apply List.Mem.tail)) (by repeat (first | exact List.Mem.head _ | apply List.Mem.tail)) (fun x => by exact (ex_or F i x).symm)
  go_wp2_with (go_at_call 40; refine (got_ok _ _).mono ?_; rintro e w' ⟨rfl, rfl⟩)
  refine (exists_kn hS20 (f := ex) (φ := (fun x => (F (setE x i false)) || (F (setE x i true)))) (by repeat (first | exact List.Mem.head _ | apply List.Mem.tail)) hi (by omega)).mono ?_
  rintro e w21 ⟨e2, rfl, hS21⟩
  clear hS20
  obtain rfl : ex = e2 := hS21.eq (φ := (fun x => (F (setE x i false)) || (F (setE x i true)))) (ψ := (fun x => ((F (setE (setE x i false) i false)) || (F (setE (setE x i false) i true))) || ((F (setE (setE x i true) i false)) || (F (setE (setE x i true) i true))))) (by repeat (first | exact List.Mem.head _ | apply List.Mem.tail)) (by repeat (first | exact List.Mem.head _ | apply List.Mem.tail)) (fun x => by exact (ex_ex F i x).symm)
  go_wp2_with (go_at_call 40; refine (got_ok _ _).mono ?_; rintro e w' ⟨rfl, rfl⟩)
  refine (swap_kn hS21 (f := sw) (φ := (fun x => F (swE x i j))) (by repeat (first | exact List.Mem.head _ | apply List.Mem.tail)) hi hj (by omega)).mono ?_
  rintro e w22 ⟨s2, rfl, hS22⟩
  clear hS21
  obtain rfl : f = s2 := hS22.eq (φ := F) (ψ := (fun x => F (swE (swE x i j) i j))) (by repeat (first | exact List.Mem.head _ | apply List.Mem.tail)) (by repeat (first | exact List.Mem.head _ | apply List.Mem.tail)) (fun x => by simp only [sw_sw])
  go_wp2_with (go_at_call 40; refine (got_ok _ _).mono ?_; rintro e w' ⟨rfl, rfl⟩)
  refine (count_kn hS22 (f := sw) (φ := (fun x => F (swE x i j))) (by repeat (first | exact List.Mem.head _ | apply List.Mem.tail))).mono ?_
  rintro e w23 ⟨rfl, hS23⟩
  clear hS22
  rw [hc3.out]
  go_wp2_with (go_at_call 40; refine (got_ok _ _).mono ?_; rintro e w' ⟨rfl, rfl⟩)
  refine (exists_kn hS23 (f := sw) (φ := (fun x => F (swE x i j))) (by repeat (first | exact List.Mem.head _ | apply List.Mem.tail)) hj (by omega)).mono ?_
  rintro e w24 ⟨e3, rfl, hS24⟩
  clear hS23
  go_wp2_with (go_at_call 40; refine (got_ok _ _).mono ?_; rintro e w' ⟨rfl, rfl⟩)
  refine (swap_kn hS24 (f := ex) (φ := (fun x => (F (setE x i false)) || (F (setE x i true)))) (by repeat (first | exact List.Mem.head _ | apply List.Mem.tail)) hi hj (by omega)).mono ?_
  rintro e w25 ⟨s3, rfl, hS25⟩
  clear hS24
  obtain rfl : e3 = s3 := hS25.eq (φ := (fun x => (F (swE (setE x j false) i j)) || (F (swE (setE x j true) i j)))) (ψ := (fun x => (F (setE (swE x i j) i false)) || (F (setE (swE x i j) i true)))) (by repeat (first | exact List.Mem.head _ | apply List.Mem.tail)) (by repeat (first | exact List.Mem.head _ | apply List.Mem.tail)) (fun x => by exact ex_sw F i j x)
  go_wp2_with (go_at_call 40; refine (got_ok _ _).mono ?_; rintro e w' ⟨rfl, rfl⟩)
  refine (ite_kn hS25 (f := v) (φ := (fun x => x i)) (g := f) (ψ := F) (k := f) (χ := F) (by repeat (first | exact List.Mem.head _ | apply List.Mem.tail)) (by repeat (first | exact List.Mem.head _ | apply List.Mem.tail)) (by repeat (first | exact List.Mem.head _ | apply List.Mem.tail)) (by omega)).mono ?_
  rintro e w26 ⟨it, rfl, hS26⟩
  clear hS25
  obtain rfl : f = it := hS26.eq (φ := F) (ψ := (fun x => if x i then F x else F x)) (by repeat (first | exact List.Mem.head _ | apply List.Mem.tail)) (by repeat (first | exact List.Mem.head _ | apply List.Mem.tail)) (fun x => by simp)
  go_wp2_with (go_at_call 40; refine (got_ok _ _).mono ?_; rintro e w' ⟨rfl, rfl⟩)
  have hB := hS26.below
  clear hS26
  go_ret
  exact ⟨rfl, hB⟩
end Go.Proofs.Ytgcimcpcnoojnaa


