/-
  AclDead: it returns true.
-/
import Derived.Test.YtgcimcpcnoojnaaDPlain
import Derived.Test.YtgcimcpcnoojnaaDelete
import Derived.Deep.RegionHeld3
namespace Go.Proofs.Ytgcimcpcnoojnaa
open Go.RowKit

/-- The packet in block n; nothing that lay in W has turned. -/
def Sd (W : World) (n : Nat) (p q s t : Int) (w : World) : Prop := Below W.heap.size W w ∧ Four w n (.int .i64 p) (.int .i64 q) (.int .i64 s) (.int .i64 t)
section
variable {W w w' : World} {n : Nat} {p q s t : Int}
theorem Sd.step (h : Sd W n p q s t w) (hb : Below w.heap.size w w') : Sd W n p q s t w' := ⟨h.1.trans (hb.mono h.1.size), keepFour hb h.2⟩
theorem Sd.drew (h : Sd W n p q s t w) : Sd W n p q s t w.drew := ⟨h.1.drew, h.2⟩
theorem Sd.four (h : Sd W n p q s t w) : w.cell? ⟨n, 0, none⟩ = some (.int .i64 p) ∧ w.cell? ⟨n, 1, none⟩ = some (.int .i64 q) ∧ w.cell? ⟨n, 2, none⟩ = some (.int .i64 s) ∧ w.cell? ⟨n, 3, none⟩ = some (.int .i64 t) := h.2.2
end
theorem keepFour2 {B : Nat} {W w' : World} {n : Nat} {a b c d : Value} (hb : Below B W w') (hB : n < B) (h : Four W n a b c d) : Four w' n a b c d := by
  obtain ⟨h0, h1, h2, h3, h4⟩ := h
  exact ⟨Nat.lt_of_lt_of_le h0 hb.size, (hb.cell (p := ⟨n, 0, none⟩) hB).trans h1, (hb.cell (p := ⟨n, 1, none⟩) hB).trans h2, (hb.cell (p := ⟨n, 2, none⟩) hB).trans h3, (hb.cell (p := ⟨n, 3, none⟩) hB).trans h4⟩

set_option maxHeartbeats 8000000 in
set_option maxRecDepth 100000 in
theorem adead_any (A : Option Addr) (cap : Nat) (xs : List Rl) (p q s t : Int) (w : World) (hR : Hid (Rules w.heap.size w (.slice A xs.length cap) xs)) :
    Calls Try.prog 8 #[.slice A xs.length cap, pk p q s t] w fun e w' => e = .returned (.bool true) ∧ Below w.heap.size w w' := by
  have D1 := Below.alloc' (Below.refl w.heap.size w) (.cells #[.int .i64 p, .int .i64 q, .int .i64 s, .int .i64 t] 53)
  have F1 := four_new w (.int .i64 p) (.int .i64 q) (.int .i64 s) (.int .i64 t) 53
  have hR1 : Hid (Rules (w.alloc (.cells #[.int .i64 p, .int .i64 q, .int .i64 s, .int .i64 t] 53)).heap.size (w.alloc (.cells #[.int .i64 p, .int .i64 q, .int .i64 s, .int .i64 t] 53)) (.slice A xs.length cap) xs) := (hR.out.below D1).mono (by simp)
  have lw : w.heap.size < (w.alloc (.cells #[.int .i64 p, .int .i64 q, .int .i64 s, .int .i64 t] 53)).heap.size := by simp
  have NW : Hid (∀ w : World, Calls Try.prog 9 #[.int .i64 14, .int .i64 40000] w fun e w' => ∃ a2 M2, e = .returned (.tuple #[.pointer (some ⟨a2, 0, none⟩), .int .i64 0]) ∧ Ar w.heap.size a2 M2 14 40000 w' [(14, 0, 0), (14, 1, 1)] ∧ Below w.heap.size w w') := fun w => new_ok (v := 14) (m := 40000) w (by omega) (by omega) (by omega) (by omega)
  clear hR
  go_enter Try.func8, Try.ntmps8
  go_wp2_with fail
  generalize hw1 : w.alloc (.cells #[.int .i64 p, .int .i64 q, .int .i64 s, .int .i64 t] 53) = w1 at *
  clear hw1
  refine (NW.out _).mono ?_
  rintro e w2 ⟨a2, M2, rfl, A2, b2⟩
  clear NW
  go_wp2_with fail
  refine (all_r true _).mono ?_
  rintro e w3 ⟨rfl, hb3⟩
  have A3 := A2.below hb3
  have b3 := chain hb3 b2
  clear hb3 A2 b2
  go_wp2_with fail
  refine (all_r false _).mono ?_
  rintro e w4 ⟨rfl, hb4⟩
  have A4 := A3.below hb4
  have b4 := chain hb4 b3
  clear hb4 A3 b3
  go_wp2_with fail
  refine (dead_two A4).mono ?_
  rintro e w5 ⟨ns5, v5, rfl, A5, hb5, i5⟩
  have b5 := (Below.alloc' b4 (.cells twoCells 78)).trans hb5
  have EQ : Hid (Calls Try.prog 30 #[v5, .slice (some ⟨w5.heap.size, 0, none⟩) 1 1] (w5.alloc (.cells #[.int .i64 1] 3)) fun e w' => e = .returned (.bool true) ∧ Below (w5.alloc (.cells #[.int .i64 1] 3)).heap.size (w5.alloc (.cells #[.int .i64 1] 3)) w') :=
    equal_same _ (i5.out.below ((Below.refl _ _).alloc (Nat.le_refl _) _)) (one_int w5 1)
  clear hb5 b4 A4 i5
  go_wp2_with fail
  refine EQ.out.mono ?_
  rintro e w6 ⟨rfl, hb6⟩
  have A6 := (A5.alloc (.cells #[.int .i64 1] 3)).below hb6
  have b6 := chain hb6 (Below.alloc' b5 (.cells #[.int .i64 1] 3))
  clear hb6 b5 A5 EQ
  by_cases hl : 8 < xs.length
  · have DL : Hid (∀ (p : Value) (w : World), Calls Try.prog 28 #[p, .slice A xs.length cap] w fun e w' => e = .returned (.tuple #[.slice none 0 0, .int .i64 2]) ∧ w' = w) := fun p w => dead_large p A xs.length cap hl w
    clear hR1 hl
    go_wp2_with fail
    refine (DL.out _ _).mono ?_
    rintro e w7 ⟨rfl, rfl⟩
    go_wp2_with fail
    go_ret
    exact ⟨by simp, D1.trans (b6.mono D1.size)⟩
  have hlen : xs.length ≤ 8 := by omega
  clear hl
  have DE : Hid (Calls Try.prog 28 #[.pointer (some ⟨a2, 0, none⟩), .slice A xs.length cap] w6 (DPost True w1.heap.size a2 M2 w6 ns5 xs)) := dead_ok A6 A cap xs (A6.rulesK (hR1.out.below b6)) hlen
  go_wp2_with fail
  refine DE.out.mono ?_
  rintro e w7 hp
  obtain ⟨ns7, v7, er7, rfl, A7, K7, _, d7⟩ := hp.pair'
  have b7 := b6.trans (A6.kp_below K7)
  clear hp DE A6 b6 K7 A7
  rcases d7.out with ⟨rfl, I7⟩ | ⟨rfl, rfl, _⟩
  · have F7 := keepFour2 b7 lw F1
    have hR7 : Hid (Rules w7.heap.size w7 (.slice A xs.length cap) xs) := (hR1.out.below b7).mono b7.size
    have D7 := D1.trans (b7.mono D1.size)
    have S7 : Sd w7 w.heap.size p q s t w7 := ⟨Below.refl _ _, F7⟩
    have IX : Hid (IntsAt w7 v7 (deadTo xs xs.length)) := I7
    obtain ⟨Ad, cd, rfl, hd1, hd2, hd3⟩ := I7
    have HD3 : Hid (deadTo xs xs.length ≠ [] → ∃ b o, Ad = some ⟨b, o, none⟩ ∧ b < w7.heap.size ∧ ∀ (j d : Nat), (deadTo xs xs.length)[j]? = some d → w7.cell? ⟨b, o + j, none⟩ = some (.int .i64 (d : Int))) := hd3
    have MEM : Hid (∀ (j d : Nat), (deadTo xs xs.length)[j]? = some d → d < xs.length ∧ isDead xs d) := fun j d h => deadTo_mem.1 (List.mem_of_getElem? h)
    have RI : Hid (∀ w', Sd w7 w.heap.size p q s t w' → Calls Try.prog 49 #[pk p q s t] w' fun e w'' => e = .returned (.bool (rightB p q s t)) ∧ Below w'.heap.size w' w'') := fun w' _ => right_any p q s t w'
    have LX : Hid (∀ w', Sd w7 w.heap.size p q s t w' → Calls Try.prog 25 #[.slice A xs.length cap, pk p q s t] w' fun e w'' => e = .returned (.bool (letsB xs p q s t)) ∧ Below w'.heap.size w' w'') := fun w' h => lets_any p q s t w' ((hR7.out.below h.1).mono h.1.size)
    have CC : Hid (∀ w', Sd w7 w.heap.size p q s t w' → ∀ n, xs.length = n → 0 < n → Calls Try.prog 51 #[.slice A n cap] w' fun e w'' => ∃ g cap, e = .returned (.slice (some ⟨g, 0, none⟩) n cap) ∧ Hid (w''.ownsRow w'.heap.size 78 5 (.slice (some ⟨g, 0, none⟩) n cap) n (cellsR xs) ∧ Below w'.heap.size w' w'')) := fun w' h n hn h0 => by
      subst hn
      exact clone_n w' ((hR7.out.below h.1).mono h.1.size) rfl h0 (by omega)
    have EQ : Hid (∀ i, isDead xs i → rightB p q s t = true → letsB (wo xs i) p q s t = letsB xs p q s t) := fun i h1 h2 => dead_at h1 h2
    have FI : Hid (∀ w', Sd w7 w.heap.size p q s t w' → Calls Try.prog 52 #[.slice A xs.length cap, .func (.func 53) #[] #[]] w' fun e w'' => e = .returned (.int .i64 (idxAll xs)) ∧ Below w'.heap.size w' w'') := fun w' h => indexFunc_any w' ((hR7.out.below h.1).mono h.1.size)
    have CO : Hid (∀ w', Sd w7 w.heap.size p q s t w' → ∀ x : Nat, x ∈ deadTo xs xs.length → Calls Try.prog 55 #[.slice Ad (deadTo xs xs.length).length cd, .int .i64 (x : Int)] w' fun e w'' => e = .returned (.bool true) ∧ w'' = w') := fun w' h x hx => contains_mem w' (IX.out.below h.1) hx
    have IC : Hid (idxAll xs = -1 ∨ ∃ j : Nat, idxAll xs = (j : Int) ∧ j < xs.length ∧ ∀ k, j < k → k < xs.length → k ∈ deadTo xs xs.length) := idx_cases xs
    have dl := deadTo_len xs xs.length
    unfold maxLen at hd2
    clear d7 hd3 IX b7 hR1 F1 D1 hR7 F7
    generalize hds : deadTo xs xs.length = ds at *
    have HDS : Hid (deadTo xs xs.length = ds) := hds
    clear hds
    generalize hX : letsB xs p q s t = X at *
    clear hX
    generalize hRt : rightB p q s t = Rt at *
    clear hRt
    go_wp2_with fail
    go_loopw [49] (fun i wr => ∃ k : Nat, i = .int .i64 (k : Int) ∧ k ≤ ds.length ∧ Sd w7 w.heap.size p q s t wr) (fun i _ => ds.length - (intOf i).toNat)
    case atStart => exact ⟨0, rfl, by omega, S7⟩
    case round =>
      obtain ⟨k, rfl, hk, s1⟩ := hrel
      by_cases hlt : k < ds.length
      · obtain ⟨d, hd⟩ : ∃ d, ds[k]? = some d := ⟨_, List.getElem?_eq_getElem hlt⟩
        obtain ⟨b, o, rfl, lb, cells⟩ := HD3.out (fun e => by subst e; simp at hlt)
        have q1 : wr.cell? ⟨b, o + k, none⟩ = some (.int .i64 (d : Int)) := (s1.1.cell (p := ⟨b, o + k, none⟩) lb).trans (cells k d hd)
        obtain ⟨dlt, ddead⟩ := MEM.out k d hd
        obtain ⟨m, hm⟩ : ∃ m, xs.length = d + 1 + m := ⟨xs.length - (d + 1), by omega⟩
        have s1d := s1.drew
        have hEq := EQ.out d ddead
        clear cells hd HD3 MEM ddead FI CO IC HDS EQ
        cases Rt
        · clear hm hEq CC LX
          go_wp2_with fail
          refine wp_region_held_drew (S := (fun w' => w'.cell? ⟨w.heap.size, 0, none⟩ = some (.int .i64 p) ∧ w'.cell? ⟨w.heap.size, 1, none⟩ = some (.int .i64 q) ∧ w'.cell? ⟨w.heap.size, 2, none⟩ = some (.int .i64 s) ∧ w'.cell? ⟨w.heap.size, 3, none⟩ = some (.int .i64 t))) (by kernel_rfl) (Sd.four (by assumption)) (fun hHeld => ?_)
          refine' wpAnyH_take (i := 0) (v := _) rfl (by kernel_rfl) (by kernel_rfl) (by kernel_rfl) (fun _ _ _ h => h) (Or.inl ⟨by rfl, ?gy1⟩) (by assumption) ?gr1
          case gy1 => (intro w hSw; (try dsimp only at hSw); go_simp; (try with_reducible rfl))
          try simp only [List.getElem_toArray, List.getElem_cons_zero, Act.put, List.setIfInBounds_toArray, List.set_cons_zero, List.set_cons_succ]
          refine wpAnyH_ready (rs := [1]) (by kernel_rfl) (by simp) (AllReadyH.cons rfl (fun K hK => ?_) AllReadyH.nil)
          go_simp
          refine (RI.out _ (by assumption)).mono ?_; rintro e wa ⟨rfl, hba⟩; have sa := Sd.step (by assumption) hba; clear hba
          try go_wp2_with fail
          clear hHeld
          refine hK.out _ _ (Sd.four (by assumption)) (fun hHeld => ?_)
          clear hK K
          try simp only [List.getElem_toArray, List.getElem_cons_zero, List.getElem_cons_succ, Act.put, List.setIfInBounds_toArray, List.set_cons_zero, List.set_cons_succ]
          refine' wpAnyH_take (i := 2) (v := _) rfl (by kernel_rfl) (by kernel_rfl) (by kernel_rfl) (fun _ _ _ h => h) (Or.inl ⟨by rfl, ?gy3⟩) (by assumption) ?gr3
          case gy3 => (intro w hSw; (try dsimp only at hSw); go_simp; (try with_reducible rfl))
          try simp only [List.getElem_toArray, List.getElem_cons_zero, List.getElem_cons_succ, Act.put, List.setIfInBounds_toArray, List.set_cons_zero, List.set_cons_succ]
          refine' wpAnyH_take (i := 3) (v := undef) rfl (by kernel_rfl) (by kernel_rfl) (by kernel_rfl) (fun _ _ _ h => h) (Or.inr ⟨by rfl, rfl⟩) (by assumption) ?gr4
          try simp only [List.getElem_toArray, List.getElem_cons_zero, List.getElem_cons_succ, Act.put, List.setIfInBounds_toArray, List.set_cons_zero, List.set_cons_succ]
          refine' wpAnyH_take (i := 4) (v := undef) rfl (by kernel_rfl) (by kernel_rfl) (by kernel_rfl) (fun _ _ _ h => h) (Or.inr ⟨by rfl, rfl⟩) (by assumption) ?gr5
          try simp only [List.getElem_toArray, List.getElem_cons_zero, List.getElem_cons_succ, Act.put, List.setIfInBounds_toArray, List.set_cons_zero, List.set_cons_succ]
          refine' wpAnyH_take (i := 5) (v := undef) rfl (by kernel_rfl) (by kernel_rfl) (by kernel_rfl) (fun _ _ _ h => h) (Or.inr ⟨by rfl, rfl⟩) (by assumption) ?gr6
          try simp only [List.getElem_toArray, List.getElem_cons_zero, List.getElem_cons_succ, Act.put, List.setIfInBounds_toArray, List.set_cons_zero, List.set_cons_succ]
          refine' wpAnyH_take (i := 6) (v := undef) rfl (by kernel_rfl) (by kernel_rfl) (by kernel_rfl) (fun _ _ _ h => h) (Or.inr ⟨by rfl, rfl⟩) (by assumption) ?gr7
          try simp only [List.getElem_toArray, List.getElem_cons_zero, List.getElem_cons_succ, Act.put, List.setIfInBounds_toArray, List.set_cons_zero, List.set_cons_succ]
          refine' wpAnyH_take (i := 7) (v := undef) rfl (by kernel_rfl) (by kernel_rfl) (by kernel_rfl) (fun _ _ _ h => h) (Or.inr ⟨by rfl, rfl⟩) (by assumption) ?gr8
          try simp only [List.getElem_toArray, List.getElem_cons_zero, List.getElem_cons_succ, Act.put, List.setIfInBounds_toArray, List.set_cons_zero, List.set_cons_succ]
          refine' wpAnyH_take (i := 8) (v := undef) rfl (by kernel_rfl) (by kernel_rfl) (by kernel_rfl) (fun _ _ _ h => h) (Or.inr ⟨by rfl, rfl⟩) (by assumption) ?gr9
          try simp only [List.getElem_toArray, List.getElem_cons_zero, List.getElem_cons_succ, Act.put, List.setIfInBounds_toArray, List.set_cons_zero, List.set_cons_succ]
          refine' wpAnyH_take (i := 9) (v := undef) rfl (by kernel_rfl) (by kernel_rfl) (by kernel_rfl) (fun _ _ _ h => h) (Or.inr ⟨by rfl, rfl⟩) (by assumption) ?gr10
          try simp only [List.getElem_toArray, List.getElem_cons_zero, List.getElem_cons_succ, Act.put, List.setIfInBounds_toArray, List.set_cons_zero, List.set_cons_succ]
          refine' wpAnyH_take (i := 10) (v := undef) rfl (by kernel_rfl) (by kernel_rfl) (by kernel_rfl) (fun _ _ _ h => h) (Or.inr ⟨by rfl, rfl⟩) (by assumption) ?gr11
          try simp only [List.getElem_toArray, List.getElem_cons_zero, List.getElem_cons_succ, Act.put, List.setIfInBounds_toArray, List.set_cons_zero, List.set_cons_succ]
          refine' wpAnyH_take (i := 11) (v := undef) rfl (by kernel_rfl) (by kernel_rfl) (by kernel_rfl) (fun _ _ _ h => h) (Or.inr ⟨by rfl, rfl⟩) (by assumption) ?gr12
          try simp only [List.getElem_toArray, List.getElem_cons_zero, List.getElem_cons_succ, Act.put, List.setIfInBounds_toArray, List.set_cons_zero, List.set_cons_succ]
          refine' wpAnyH_take (i := 12) (v := undef) rfl (by kernel_rfl) (by kernel_rfl) (by kernel_rfl) (fun _ _ _ h => h) (Or.inr ⟨by rfl, rfl⟩) (by assumption) ?gr13
          try simp only [List.getElem_toArray, List.getElem_cons_zero, List.getElem_cons_succ, Act.put, List.setIfInBounds_toArray, List.set_cons_zero, List.set_cons_succ]
          refine' wpAnyH_take (i := 13) (v := undef) rfl (by kernel_rfl) (by kernel_rfl) (by kernel_rfl) (fun _ _ _ h => h) (Or.inr ⟨by rfl, rfl⟩) (by assumption) ?gr14
          try simp only [List.getElem_toArray, List.getElem_cons_zero, List.getElem_cons_succ, Act.put, List.setIfInBounds_toArray, List.set_cons_zero, List.set_cons_succ]
          refine' wpAnyH_take (i := 14) (v := undef) rfl (by kernel_rfl) (by kernel_rfl) (by kernel_rfl) (fun _ _ _ h => h) (Or.inr ⟨by rfl, rfl⟩) (by assumption) ?gr15
          try simp only [List.getElem_toArray, List.getElem_cons_zero, List.getElem_cons_succ, Act.put, List.setIfInBounds_toArray, List.set_cons_zero, List.set_cons_succ]
          refine' wpAnyH_take (i := 15) (v := _) rfl (by kernel_rfl) (by kernel_rfl) (by kernel_rfl) (fun _ _ _ h => h) (Or.inl ⟨by rfl, ?gy16⟩) (by assumption) ?gr16
          case gy16 => (intro w hSw; (try dsimp only at hSw); go_simp; (try with_reducible rfl))
          try simp only [List.getElem_toArray, List.getElem_cons_zero, List.getElem_cons_succ, Act.put, List.setIfInBounds_toArray, List.set_cons_zero, List.set_cons_succ]
          refine wpAnyH_done (by kernel_rfl) ?_ _
          go_wp2_with fail
          go_roundw
          case rel => exact ⟨k + 1, by go_num, by omega, sa⟩
          case measure => simp [intOf]; omega
        · have he := hEq rfl
          have CL : Hid (∀ w', Sd w7 w.heap.size p q s t w' → Calls Try.prog 51 #[.slice A xs.length cap] w' fun e w'' => ∃ g cap, e = .returned (.slice (some ⟨g, 0, none⟩) xs.length cap) ∧ Hid (w''.ownsRow w'.heap.size 78 5 (.slice (some ⟨g, 0, none⟩) xs.length cap) xs.length (cellsR xs) ∧ Below w'.heap.size w' w'')) := fun w' h => CC.out w' h _ rfl (by omega)
          have DL : Hid (∀ (w' : World) (B g cap : Nat), w'.ownsRow B 78 5 (.slice (some ⟨g, 0, none⟩) xs.length cap) xs.length (cellsR xs) → Calls Try.prog 50 #[.slice (some ⟨g, 0, none⟩) xs.length cap, .int .i64 (d : Int), .int .i64 ((d : Int) + 1)] w' fun e w'' => ∃ v, e = .returned v ∧ Hid (w''.ownsRow B 78 5 v (wo xs d).length (cellsR (wo xs d)) ∧ Below B w' w'')) := fun w' B g cap ho => by
            have h8 : xs.length ≤ 1000 := by omega
            rw [hm] at ho ⊢
            exact delete_row B g cap d m xs w' hm h8 ho
          have LW : Hid (∀ (v : Value) (w' : World), Sd w7 w.heap.size p q s t w' → Rules w'.heap.size w' v (wo xs d) → Calls Try.prog 25 #[v, pk p q s t] w' fun e w'' => e = .returned (.bool X) ∧ Below w'.heap.size w' w'') := fun v w' h r => by
            have := lets_any p q s t w' r
            rw [he] at this
            exact this
          have hb8 : (d : Int) < 8 := by omega
          have hb0 : (0 : Int) ≤ (d : Int) := by omega
          have hwr : IntKind.i64.wrap ((d : Int) + 1) = (d : Int) + 1 := by rw [IntKind.wrap_i64]; omega
          clear hEq he CC
          clear hm
          go_wp2_with fail
          refine wp_region_held_drew (S := (fun w' => w'.cell? ⟨w.heap.size, 0, none⟩ = some (.int .i64 p) ∧ w'.cell? ⟨w.heap.size, 1, none⟩ = some (.int .i64 q) ∧ w'.cell? ⟨w.heap.size, 2, none⟩ = some (.int .i64 s) ∧ w'.cell? ⟨w.heap.size, 3, none⟩ = some (.int .i64 t))) (by kernel_rfl) (Sd.four (by assumption)) (fun hHeld => ?_)
          refine' wpAnyH_take (i := 0) (v := _) rfl (by kernel_rfl) (by kernel_rfl) (by kernel_rfl) (fun _ _ _ h => h) (Or.inl ⟨by rfl, ?gy18⟩) (by assumption) ?gr18
          case gy18 => (intro w hSw; (try dsimp only at hSw); go_simp; (try with_reducible rfl))
          try simp only [List.getElem_toArray, List.getElem_cons_zero, Act.put, List.setIfInBounds_toArray, List.set_cons_zero, List.set_cons_succ]
          refine wpAnyH_ready (rs := [1]) (by kernel_rfl) (by simp) (AllReadyH.cons rfl (fun K hK => ?_) AllReadyH.nil)
          go_simp
          refine (RI.out _ (by assumption)).mono ?_; rintro e wa ⟨rfl, hba⟩; have sa := Sd.step (by assumption) hba; clear hba
          try go_wp2_with fail
          clear hHeld
          refine hK.out _ _ (Sd.four (by assumption)) (fun hHeld => ?_)
          clear hK K
          try simp only [List.getElem_toArray, List.getElem_cons_zero, List.getElem_cons_succ, Act.put, List.setIfInBounds_toArray, List.set_cons_zero, List.set_cons_succ]
          refine' wpAnyH_take (i := 2) (v := _) rfl (by kernel_rfl) (by kernel_rfl) (by kernel_rfl) (fun _ _ _ h => h) (Or.inl ⟨by rfl, ?gy20⟩) (by assumption) ?gr20
          case gy20 => (intro w hSw; (try dsimp only at hSw); go_simp; (try with_reducible rfl))
          try simp only [List.getElem_toArray, List.getElem_cons_zero, List.getElem_cons_succ, Act.put, List.setIfInBounds_toArray, List.set_cons_zero, List.set_cons_succ]
          refine' wpAnyH_take (i := 3) (v := _) rfl (by kernel_rfl) (by kernel_rfl) (by kernel_rfl) (fun _ _ _ h => h) (Or.inl ⟨by rfl, ?gy21⟩) (by assumption) ?gr21
          case gy21 => (intro w hSw; (try dsimp only at hSw); go_simp; (try with_reducible rfl))
          try simp only [List.getElem_toArray, List.getElem_cons_zero, List.getElem_cons_succ, Act.put, List.setIfInBounds_toArray, List.set_cons_zero, List.set_cons_succ]
          refine' wpAnyH_take (i := 5) (v := _) rfl (by kernel_rfl) (by kernel_rfl) (by kernel_rfl) (fun _ _ _ h => h) (Or.inl ⟨by rfl, ?gy22⟩) (by assumption) ?gr22
          case gy22 => (intro w hSw; (try dsimp only at hSw); go_simp; (try with_reducible rfl))
          try simp only [List.getElem_toArray, List.getElem_cons_zero, List.getElem_cons_succ, Act.put, List.setIfInBounds_toArray, List.set_cons_zero, List.set_cons_succ]
          refine' wpAnyH_take (i := 6) (v := _) rfl (by kernel_rfl) (by kernel_rfl) (by kernel_rfl) (fun _ _ _ h => h) (Or.inl ⟨by rfl, ?gy23⟩) (by assumption) ?gr23
          case gy23 => (intro w hSw; (try dsimp only at hSw); go_simp; (try with_reducible rfl))
          try simp only [List.getElem_toArray, List.getElem_cons_zero, List.getElem_cons_succ, Act.put, List.setIfInBounds_toArray, List.set_cons_zero, List.set_cons_succ]
          refine' wpAnyH_take (i := 7) (v := _) rfl (by kernel_rfl) (by kernel_rfl) (by kernel_rfl) (fun _ _ _ h => h) (Or.inl ⟨by rfl, ?gy24⟩) (by assumption) ?gr24
          case gy24 => (intro w hSw; (try dsimp only at hSw); go_simp; (try with_reducible rfl))
          try simp only [List.getElem_toArray, List.getElem_cons_zero, List.getElem_cons_succ, Act.put, List.setIfInBounds_toArray, List.set_cons_zero, List.set_cons_succ]
          refine' wpAnyH_take (i := 9) (v := _) rfl (by kernel_rfl) (by kernel_rfl) (by kernel_rfl) (fun _ _ _ h => h) (Or.inl ⟨by rfl, ?gy25⟩) (by assumption) ?gr25
          case gy25 => (intro w hSw; (try dsimp only at hSw); go_simp; (try with_reducible rfl))
          try simp only [List.getElem_toArray, List.getElem_cons_zero, List.getElem_cons_succ, Act.put, List.setIfInBounds_toArray, List.set_cons_zero, List.set_cons_succ]
          refine' wpAnyH_take (i := 11) (v := _) rfl (by kernel_rfl) (by kernel_rfl) (by kernel_rfl) (fun _ _ _ h => h) (Or.inl ⟨by rfl, ?gy26⟩) (by assumption) ?gr26
          case gy26 => (intro w hSw; (try dsimp only at hSw); go_simp; (try with_reducible rfl))
          try simp only [List.getElem_toArray, List.getElem_cons_zero, List.getElem_cons_succ, Act.put, List.setIfInBounds_toArray, List.set_cons_zero, List.set_cons_succ]
          refine' wpAnyH_take (i := 12) (v := _) rfl (by kernel_rfl) (by kernel_rfl) (by kernel_rfl) (fun _ _ _ h => h) (Or.inl ⟨by rfl, ?gy27⟩) (by assumption) ?gr27
          case gy27 => (intro w hSw; (try dsimp only at hSw); go_simp; (try with_reducible rfl))
          try simp only [List.getElem_toArray, List.getElem_cons_zero, List.getElem_cons_succ, Act.put, List.setIfInBounds_toArray, List.set_cons_zero, List.set_cons_succ]
          refine wpAnyH_ready (rs := [4]) (by kernel_rfl) (by simp) (AllReadyH.cons rfl (fun K hK => ?_) AllReadyH.nil)
          go_simp
          refine (CL.out _ sa).mono ?_; rintro e wb ⟨g, cap2, rfl, ob⟩; have sb := Sd.step sa ob.out.2
          try go_wp2_with fail
          clear hHeld
          refine hK.out _ _ (Sd.four (by assumption)) (fun hHeld => ?_)
          clear hK K
          try simp only [List.getElem_toArray, List.getElem_cons_zero, List.getElem_cons_succ, Act.put, List.setIfInBounds_toArray, List.set_cons_zero, List.set_cons_succ]
          refine wpAnyH_ready (rs := [8]) (by kernel_rfl) (by simp) (AllReadyH.cons rfl (fun K hK => ?_) AllReadyH.nil)
          go_simp
          refine (DL.out wb wa.heap.size g cap2 ob.out.1).mono ?_; rintro e wc ⟨vc, rfl, oc⟩; have sc := Sd.step sa (ob.out.2.trans oc.out.2)
          try go_wp2_with fail
          clear hHeld
          refine hK.out _ _ (Sd.four (by assumption)) (fun hHeld => ?_)
          clear hK K
          try simp only [List.getElem_toArray, List.getElem_cons_zero, List.getElem_cons_succ, Act.put, List.setIfInBounds_toArray, List.set_cons_zero, List.set_cons_succ]
          refine wpAnyH_ready (rs := [10]) (by kernel_rfl) (by simp) (AllReadyH.cons rfl (fun K hK => ?_) AllReadyH.nil)
          go_simp
          refine (LW.out _ _ sc (Rules.own oc.out.1)).mono ?_; rintro e wd ⟨rfl, hbd⟩; have sd := Sd.step sc hbd; clear hbd
          try go_wp2_with fail
          clear hHeld
          refine hK.out _ _ (Sd.four (by assumption)) (fun hHeld => ?_)
          clear hK K
          try simp only [List.getElem_toArray, List.getElem_cons_zero, List.getElem_cons_succ, Act.put, List.setIfInBounds_toArray, List.set_cons_zero, List.set_cons_succ]
          refine wpAnyH_ready (rs := [13]) (by kernel_rfl) (by simp) (AllReadyH.cons rfl (fun K hK => ?_) AllReadyH.nil)
          go_simp
          refine (LX.out _ sd).mono ?_; rintro e we ⟨rfl, hbe⟩; have se := Sd.step sd hbe; clear hbe
          try go_wp2_with fail
          clear hHeld
          refine hK.out _ _ (Sd.four (by assumption)) (fun hHeld => ?_)
          clear hK K
          try simp only [List.getElem_toArray, List.getElem_cons_zero, List.getElem_cons_succ, Act.put, List.setIfInBounds_toArray, List.set_cons_zero, List.set_cons_succ]
          refine' wpAnyH_take (i := 14) (v := _) rfl (by kernel_rfl) (by kernel_rfl) (by kernel_rfl) (fun _ _ _ h => h) (Or.inl ⟨by rfl, ?gy32⟩) (by assumption) ?gr32
          case gy32 => (intro w hSw; (try dsimp only at hSw); go_simp; (try with_reducible rfl))
          try simp only [List.getElem_toArray, List.getElem_cons_zero, List.getElem_cons_succ, Act.put, List.setIfInBounds_toArray, List.set_cons_zero, List.set_cons_succ]
          refine' wpAnyH_take (i := 15) (v := _) rfl (by kernel_rfl) (by kernel_rfl) (by kernel_rfl) (fun _ _ _ h => h) (Or.inl ⟨by rfl, ?gy33⟩) (by assumption) ?gr33
          case gy33 => (intro w hSw; (try dsimp only at hSw); go_simp; (try with_reducible rfl))
          try simp only [List.getElem_toArray, List.getElem_cons_zero, List.getElem_cons_succ, Act.put, List.setIfInBounds_toArray, List.set_cons_zero, List.set_cons_succ]
          refine wpAnyH_done (by kernel_rfl) ?_ _
          go_wp2_with fail
          go_roundw
          case rel => exact ⟨k + 1, by go_num, by omega, se⟩
          case measure => simp [intOf]; omega
      · obtain rfl : k = ds.length := by omega
        clear RI LX CC EQ MEM HD3 hlt hk S7
        go_wp2_with fail
        refine (FI.out _ s1).mono ?_
        rintro e w8 ⟨rfl, hb8⟩
        have s8 := s1.step hb8
        clear hb8 s1 FI
        rcases IC.out with hi | ⟨j, hi, hj, hall⟩
        · rw [hi]
          clear IC hi CO
          go_wp2_with fail
          go_loopw [13] (fun i wr => i = .int .i64 0 ∧ Sd w7 w.heap.size p q s t wr) (fun i _ => 0)
          case atStart => exact ⟨rfl, s8⟩
          case round =>
            obtain ⟨rfl, s9⟩ := hrel
            go_wp2_with fail
            go_ret
            exact ⟨rfl, D7.trans (s9.1.mono D7.size)⟩
        · rw [hi]
          have HALL : Hid (∀ k, j < k → k < xs.length → k ∈ ds) := hall
          clear IC hi hall
          go_wp2_with fail
          go_loopw [13] (fun i wr => ∃ k : Nat, i = .int .i64 (k : Int) ∧ j < k ∧ k ≤ xs.length ∧ Sd w7 w.heap.size p q s t wr) (fun i _ => xs.length - (intOf i).toNat)
          case atStart => exact ⟨j + 1, by go_num, by omega, by omega, s8⟩
          case round =>
            obtain ⟨k, rfl, hjk, hk, s9⟩ := hrel
            by_cases hlt : k < xs.length
            · have CK : Hid (Calls Try.prog 55 #[.slice Ad ds.length cd, .int .i64 (k : Int)] wr fun e w'' => e = .returned (.bool true) ∧ w'' = wr) := CO.out wr s9 k (HALL.out k hjk hlt)
              go_wp2_with fail
              refine CK.out.mono ?_
              rintro e w10 ⟨rfl, rfl⟩
              go_wp2_with fail
              go_roundw
              case rel => exact ⟨k + 1, by go_num, by omega, by omega, s9⟩
              case measure => simp [intOf]; omega
            · obtain rfl : k = xs.length := by omega
              go_wp2_with fail
              go_ret
              exact ⟨rfl, D7.trans (s9.1.mono D7.size)⟩
  · clear d7 hR1
    go_wp2_with fail
    go_ret
    exact ⟨by simp, D1.trans (b7.mono D1.size)⟩
end Go.Proofs.Ytgcimcpcnoojnaa


