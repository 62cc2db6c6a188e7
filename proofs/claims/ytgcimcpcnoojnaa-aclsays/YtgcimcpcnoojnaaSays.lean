/-
  AclSays: it returns true.
-/
import Derived.Test.YtgcimcpcnoojnaaNeedless
namespace Go.Proofs.Ytgcimcpcnoojnaa
open Go.RowKit Go.Maps

theorem Ar.locOld {base a M vars most : Nat} {w : World} {ns : List Nd} (h : Ar base a M vars most w ns) {i : Nat} {cs : Array Value} {t : TypeId} (hi : i < base) (hb : w.heap[i]? = some (.cells cs t)) : Loc (ca base a M vars most) w i cs t := by
  obtain ⟨_, _, rb, rl⟩ := h.row
  exact ⟨⟨(Array.getElem?_eq_some_iff.1 hb).1, h.notMine hi, by show i ≠ rowOf w a; omega⟩, hb⟩
theorem Loc.one {C : Cfg} {w : World} {i : Nat} {x : Value} {t : TypeId} (h : Loc C w i #[x] t) : w.cell? ⟨i, 0, none⟩ = some x := by rw [cell_of_row w i 0 _ _ _ h.blk]; rfl

/-- The list in block n, the packet behind it; nothing that lay has turned. -/
def Seen (n : Nat) (v : Value) (p q s t : Int) (w0 w : World) : Prop :=
  Below w0.heap.size w0 w ∧ w.heap[n]? = some (.cells #[v] 57 (0, 0)) ∧ Four w (n + 1) (.int .i64 p) (.int .i64 q) (.int .i64 s) (.int .i64 t)
section
variable {n : Nat} {v : Value} {p q s t : Int} {w0 w w' : World}
theorem Seen.step (h : Seen n v p q s t w0 w) (hb : Below w.heap.size w w') : Seen n v p q s t w0 w' :=
  ⟨h.1.trans (hb.mono h.1.size), (hb.block n (Array.getElem?_eq_some_iff.1 h.2.1).1).trans h.2.1, keepFour hb h.2.2⟩
theorem Seen.drew (h : Seen n v p q s t w0 w) : Seen n v p q s t w0 w.drew := ⟨h.1.drew, h.2⟩
theorem Seen.five (h : Seen n v p q s t w0 w) : w.cell? ⟨n, 0, none⟩ = some v ∧ w.cell? ⟨n + 1, 0, none⟩ = some (.int .i64 p) ∧ w.cell? ⟨n + 1, 1, none⟩ = some (.int .i64 q) ∧ w.cell? ⟨n + 1, 2, none⟩ = some (.int .i64 s) ∧ w.cell? ⟨n + 1, 3, none⟩ = some (.int .i64 t) :=
  ⟨by rw [cell_of_row w n 0 _ _ _ h.2.1]; rfl, h.2.2.2⟩
end

theorem DPost.pair {E : Prop} {base a M : Nat} {w w' : World} {ns : List Nd} {xs : List Rl} {e : Ending} (h : DPost E base a M w ns xs e w') :
    ∃ (ns' : List Nd) (v : Value) (er : Int), e = .returned (.tuple #[v, .int .i64 er]) ∧ Ar base a M 14 40000 w' ns' ∧ Kp (ca base a M 14 40000) w w' ∧ Ext ns ns' ∧
      Hid ((er = 0 ∧ w'.ownsRow w.heap.size 3 1 v (deadTo xs xs.length).length (intsV (deadTo xs xs.length))) ∨ (er = 6 ∧ v = .slice none 0 0)) := by
  obtain ⟨ns', r1, r2, r3, ⟨v, e1, e2⟩ | ⟨e1, _⟩⟩ := h
  · exact ⟨ns', v, 0, e1, r1, r2, r3, Or.inl ⟨rfl, e2⟩⟩
  · exact ⟨ns', _, 6, e1, r1, r2, r3, Or.inr ⟨rfl, rfl⟩⟩

set_option maxHeartbeats 8000000 in
set_option maxRecDepth 100000 in
theorem says_any (A : Option Addr) (cap : Nat) (xs : List Rl) (p q s t : Int) (w : World) (hR : Hid (Rules w.heap.size w (.slice A xs.length cap) xs)) :
    Calls Try.prog 5 #[.slice A xs.length cap, pk p q s t] w fun e w' => e = .returned (.bool true) ∧ Below w.heap.size w w' := by
  have S1 : Seen w.heap.size (.slice A xs.length cap) p q s t w ((w.alloc (.cells #[.slice A xs.length cap] 57)).alloc (.cells #[.int .i64 p, .int .i64 q, .int .i64 s, .int .i64 t] 53)) := by
    refine ⟨Below.alloc' (Below.alloc' (Below.refl _ _) _) _, ?_, ?_⟩
    · rw [Below.heap_alloc _ _ _ (by simp)]
      exact Go.heap_alloc_new w _
    · have := four_new (w.alloc (.cells #[.slice A xs.length cap] 57)) (.int .i64 p) (.int .i64 q) (.int .i64 s) (.int .i64 t) 53
      simpa using this
  have CK : Hid (∀ w, Calls Try.prog 24 #[.slice A xs.length cap] w fun e w' => e = .returned (.int .i64 (if 8 < xs.length then 2 else 0)) ∧ w' = w) := fun w => check_ok A xs.length cap w
  have LA : Hid (∀ w', Seen w.heap.size (.slice A xs.length cap) p q s t w w' → Calls Try.prog 25 #[.slice A xs.length cap, pk p q s t] w' fun e w'' => e = .returned (.bool (letsB xs p q s t)) ∧ Below w'.heap.size w' w'') := fun w' h => lets_any p q s t w' ((hR.out.below h.1).mono h.1.size)
  have LB : Hid (∀ w', Seen w.heap.size (.slice A xs.length cap) p q s t w w' → Calls Try.prog 26 #[.slice A xs.length cap, pk p q s t] w' fun e w'' => e = .returned (.bool (letsB xs p q s t)) ∧ Below w'.heap.size w' w'') := fun w' h => rlets_any p q s t w' ((hR.out.below h.1).mono h.1.size)
  have NW : Hid (∀ w : World, Calls Try.prog 9 #[.int .i64 14, .int .i64 40000] w fun e w' => ∃ a2 M2, e = .returned (.tuple #[.pointer (some ⟨a2, 0, none⟩), .int .i64 0]) ∧ Ar w.heap.size a2 M2 14 40000 w' [(14, 0, 0), (14, 1, 1)] ∧ Below w.heap.size w w') := fun w => new_ok (v := 14) (m := 40000) w (by omega) (by omega) (by omega) (by omega)
  obtain ⟨c0, _⟩ := S1.five
  have S1d := S1.drew
  generalize letsB xs p q s t = y at *
  by_cases hl : 8 < xs.length
  · have AL : Hid (∀ (p : Value) (w : World), Calls Try.prog 27 #[p, .slice A xs.length cap] w fun e w' => e = .returned (.tuple #[.int .i64 0, .int .i64 2]) ∧ w' = w) := fun p w => abuild_large p A xs.length cap hl w
    have DL : Hid (∀ (p : Value) (w : World), Calls Try.prog 28 #[p, .slice A xs.length cap] w fun e w' => e = .returned (.tuple #[.slice none 0 0, .int .i64 2]) ∧ w' = w) := fun p w => dead_large p A xs.length cap hl w
    have ht8 : decide ((8 : Int) < (xs.length : Int)) = true := by simp; omega
    simp only [if_pos hl] at CK
    clear hR
    generalize xs.length = n at *
    go_enter Try.func5, Try.ntmps5
    go_wp2_with fail
    go_region_held3 (fun w' => w'.cell? ⟨w.heap.size, 0, none⟩ = some (.slice A n cap) ∧ w'.cell? ⟨w.heap.size + 1, 0, none⟩ = some (.int .i64 p) ∧ w'.cell? ⟨w.heap.size + 1, 1, none⟩ = some (.int .i64 q) ∧ w'.cell? ⟨w.heap.size + 1, 2, none⟩ = some (.int .i64 s) ∧ w'.cell? ⟨w.heap.size + 1, 3, none⟩ = some (.int .i64 t)) (exact Seen.five (by assumption))
      (first
        | (go_at_call 24; refine (CK.out _).mono ?_; rintro e wn ⟨rfl, rfl⟩)
        | (go_at_call 25; refine (LA.out _ (by assumption)).mono ?_; rintro e wn ⟨rfl, hn⟩; have sn := Seen.step (by assumption) hn; clear hn)
        | (go_at_call 26; refine (LB.out _ (by assumption)).mono ?_; rintro e wn ⟨rfl, hn⟩; have sm := Seen.step (by assumption) hn; clear hn))
    clear S1 S1d sn c0 CK LA LB
    go_wp2_with fail
    refine (NW.out _).mono ?_
    rintro e w3 ⟨a2, M2, rfl, A3, hb3⟩
    have s3 := sm.step hb3
    obtain ⟨d0, _⟩ := s3.five
    clear sm hb3 A3 NW
    go_wp2_with fail
    refine (AL.out _ _).mono ?_
    rintro e w4 ⟨rfl, rfl⟩
    go_wp2_with fail
    refine (DL.out _ _).mono ?_
    rintro e w5 ⟨rfl, rfl⟩
    go_wp2_with fail
    go_ret
    exact ⟨by simp, s3.1⟩
  · have ht8 : decide ((8 : Int) < (xs.length : Int)) = false := by simp; omega
    simp only [if_neg hl] at CK
    have hlen : xs.length ≤ 8 := by omega
    clear hl
    have LE : Hid (∀ (base a M : Nat) (w : World) (ns : List Nd), Ar base a M 14 40000 w ns → RulesK (ca base a M 14 40000) w (.slice A xs.length cap) xs → Calls Try.prog 27 #[.pointer (some ⟨a, 0, none⟩), .slice A xs.length cap] w (BPost True base a M w ns xs)) := fun base a M w ns h r => abuild_any h r.rules hlen
    have DE : Hid (∀ (base a M : Nat) (w : World) (ns : List Nd), Ar base a M 14 40000 w ns → RulesK (ca base a M 14 40000) w (.slice A xs.length cap) xs → Calls Try.prog 28 #[.pointer (some ⟨a, 0, none⟩), .slice A xs.length cap] w (DPost True base a M w ns xs)) := fun base a M w ns h r => dead_ok h A cap xs r hlen
    have NE : Hid (∀ w : World, Rules w.heap.size w (.slice A xs.length cap) xs → Calls Try.prog 31 #[.slice A xs.length cap] w fun e w' => ∃ v, e = .returned v ∧ Hid (w'.ownsRow w.heap.size 3 1 v (deadTo xs xs.length).length (intsV (deadTo xs xs.length)) ∧ Below w.heap.size w w')) := fun w r => needless_any w r hlen
    have RR : Hid (∀ w' : World, Seen w.heap.size (.slice A xs.length cap) p q s t w w' → Rules w.heap.size w' (.slice A xs.length cap) xs) := fun w' h => hR.out.below h.1
    have HE : Hid (∀ (base a M : Nat) (w' : World) (ns : List Nd) (f : Nat), Ar base a M 14 40000 w' ns → f < ns.length → (∀ x, ev ns f x = letsF xs x) → Loc (ca base a M 14 40000) w' w.heap.size #[.slice A xs.length cap] 57 → RulesK (ca base a M 14 40000) w' (.slice A xs.length cap) xs → Calls Try.prog 21 #[.pointer (some ⟨a, 0, none⟩), .int .i64 (f : Int), .func (.func 29) #[] #[.pointer (some ⟨w.heap.size, 0, none⟩)]] w' fun e w'' => e = .returned (.bool true) ∧ Ar base a M 14 40000 w'' ns ∧ Kp (ca base a M 14 40000) w' w'') := fun base a M w' ns f h hf hev L R => heldL_any h f w.heap.size hf A xs.length cap xs hev L R
    clear hR
    generalize hn : xs.length = n at *
    have HN : Hid (xs.length = n) := hn
    clear hn
    go_enter Try.func5, Try.ntmps5
    go_wp2_with fail
    go_region_held3 (fun w' => w'.cell? ⟨w.heap.size, 0, none⟩ = some (.slice A n cap) ∧ w'.cell? ⟨w.heap.size + 1, 0, none⟩ = some (.int .i64 p) ∧ w'.cell? ⟨w.heap.size + 1, 1, none⟩ = some (.int .i64 q) ∧ w'.cell? ⟨w.heap.size + 1, 2, none⟩ = some (.int .i64 s) ∧ w'.cell? ⟨w.heap.size + 1, 3, none⟩ = some (.int .i64 t)) (exact Seen.five (by assumption))
      (first
        | (go_at_call 24; refine (CK.out _).mono ?_; rintro e wn ⟨rfl, rfl⟩)
        | (go_at_call 25; refine (LA.out _ (by assumption)).mono ?_; rintro e wn ⟨rfl, hn⟩; have sn := Seen.step (by assumption) hn; clear hn)
        | (go_at_call 26; refine (LB.out _ (by assumption)).mono ?_; rintro e wn ⟨rfl, hn⟩; have sm := Seen.step (by assumption) hn; clear hn))
    clear S1 S1d sn c0 CK LA LB
    go_wp2_with fail
    refine (NW.out _).mono ?_
    rintro e w3 ⟨a2, M2, rfl, A3, hb3⟩
    have s3 := sm.step hb3
    have z3 := sm.1.size
    have n3 : w.heap.size + 1 < wn.heap.size := sm.2.2.1
    have R3 : RulesK (ca wn.heap.size a2 M2 14 40000) w3 (.slice A n cap) xs := A3.rulesK ((RR.out w3 s3).mono z3)
    have L3 : Loc (ca wn.heap.size a2 M2 14 40000) w3 w.heap.size #[.slice A n cap] 57 := A3.locOld (by omega) s3.2.1
    have D3 := s3.1
    have d0 := L3.one
    clear sm hb3 NW s3
    go_wp2_with fail
    refine (LE.out _ _ _ _ _ A3 R3).mono ?_
    rintro e w4 hp
    obtain ⟨ns4, v4, er4, rfl, A4, K4, X4, d4⟩ := hp.pair
    have R4 := R3.kp K4
    have L4 := L3.kp K4
    have D4 := D3.trans ((A3.kp_below K4).mono z3)
    have e0 := L4.one
    clear hp A3 R3 L3 D3 K4 d0 LE
    go_wp2_with fail
    refine (DE.out _ _ _ _ _ A4 R4).mono ?_
    rintro e w5 hp
    obtain ⟨ns5, v5, er5, rfl, A5, K5, X5, d5⟩ := hp.pair
    have R5 := R4.kp K5
    have L5 := L4.kp K5
    have D5 := D4.trans ((A4.kp_below K5).mono z3)
    have g0 := L5.one
    have wf4 := A4.wf
    clear hp A4 R4 L4 D4 K5 e0 DE
    rcases d4.out with ⟨rfl, f4, rfl, l4, e4⟩ | ⟨rfl, rfl, _⟩
    · rcases d5.out with ⟨rfl, o5⟩ | ⟨rfl, rfl⟩
      · have wf5 := A5.wf
        have lf5 : f4 < ns5.length := Nat.lt_of_lt_of_le l4 X5.len
        have HE5 : Hid (Calls Try.prog 21 #[.pointer (some ⟨a2, 0, none⟩), .int .i64 (f4 : Int), .func (.func 29) #[] #[.pointer (some ⟨w.heap.size, 0, none⟩)]] w5 fun e w'' => e = .returned (.bool true) ∧ Ar wn.heap.size a2 M2 14 40000 w'' ns5 ∧ Kp (ca wn.heap.size a2 M2 14 40000) w5 w'') := HE.out _ _ _ w5 ns5 f4 A5 lf5 (fun x => (X5.ev wf4 wf5 _ l4 x).trans (e4 x)) L5 R5
        have O5 : Hid (w5.ownsRow w4.heap.size 3 1 v5 (deadTo xs n).length (intsV (deadTo xs n))) := by
          rw [HN.out] at o5
          exact o5
        clear HE d4 d5 e4 o5 wf4 wf5 X4 X5
        go_wp2_with fail
        refine HE5.out.mono ?_
        rintro e w6 ⟨rfl, A6, K6⟩
        have R6 := R5.kp K6
        have L6 := L5.kp K6
        have D6 := D5.trans ((A5.kp_below K6).mono z3)
        have O6 : Hid (w6.ownsRow w4.heap.size 3 1 v5 (deadTo xs n).length (intsV (deadTo xs n))) := ownsRow_kp A5 K6 O5.out
        have i0 := L6.one
        have NE6 := NE.out w6 R6.rules
        clear HE5 A5 R5 L5 D5 K6 O5 g0 NE
        go_wp2_with fail
        refine NE6.mono ?_
        rintro e w7 ⟨v7, rfl, o7⟩
        have D7 := D6.trans (o7.out.2.mono D6.size)
        have EQ : Hid (Calls Try.prog 30 #[v5, v7] w7 fun e w' => e = .returned (.bool true) ∧ Below w7.heap.size w7 w') := equal_same w7 (IntsAt.own (ownsRow_keep O6.out o7.out.2)) (IntsAt.own o7.out.1)
        clear o7 O6 D6 L6 R6 A6 i0 NE6
        go_wp2_with fail
        refine EQ.out.mono ?_
        rintro e w8 ⟨rfl, h8⟩
        have D8 := chain h8 D7
        clear EQ D7 h8
        go_wp2_with fail
        go_ret
        exact ⟨by simp, D8⟩
      · clear d4 d5 HE NE A5 R5 L5
        go_wp2_with fail
        go_ret
        exact ⟨by simp, D5⟩
    · clear d4 HE NE A5 R5 L5 d5
      go_wp2_with fail
      go_ret
      exact ⟨by simp, D5⟩
end Go.Proofs.Ytgcimcpcnoojnaa


