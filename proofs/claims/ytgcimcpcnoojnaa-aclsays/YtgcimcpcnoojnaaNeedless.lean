/-
  needless: the rules without which a list lets through the same, by all packets.
-/
import Derived.Test.YtgcimcpcnoojnaaHeldL
import Derived.Test.YtgcimcpcnoojnaaInts
namespace Go.Proofs.Ytgcimcpcnoojnaa
open Go.RowKit

/-- append, at a step of a region that draws its order, by its run equation. -/
theorem append_step {P : Program} {w w' : World} {ops : Array Oper} {o : Oper} {a : Act} {K : Act → World → Prop} {Q : Exit → Act → World → Prop} {E : Prop} (hgd : o.guard = none) (s x : Operand) (t : TypeId)
    (ho : o.op = .call { callee := .builtin .append, args := #[s, x], argTypes := #[t, t] }) {v x' v' : Value} (hs : a.eval s = v) (hx : a.eval x = x') (hr : (Builtin.append_ #[t, t] o.type #[v, x']).run P w = .ok v' w')
    (h : K (a.put o.dst v') w') : if Region.wanted o (yielded ops a.tmps) = true then Oper.wp P o a w K Q else E := by
  have hw : Region.wanted o (yielded ops a.tmps) = true := by simp [Region.wanted, hgd]
  rw [if_pos hw]
  unfold Oper.wp execOp
  simp only [ho, resolve, invoke, builtin, Sem.run_bind, Sem.run_pure, Result.andThen_ok, List.map_toArray, List.map_cons, List.map_nil, hs, hx, hr]
  exact h
theorem ownsRow_keep {base : Nat} {w w' : World} {t : TypeId} {s n : Nat} {v : Value} {cs : List Value} (h : w.ownsRow base t s v n cs) (hb : Below w.heap.size w w') : w'.ownsRow base t s v n cs := by
  refine ⟨h.1, ?_⟩
  rcases h.2 with h0 | ⟨g, cap, cur, hv, h1, hg, h2⟩
  · exact .inl h0
  · exact .inr ⟨g, cap, cur, hv, h1, (hb.block g (Array.getElem?_eq_some_iff.1 hg).1).trans hg, h2⟩
/-- The two appends that lay a list without one rule. -/
theorem less_made (A2 : Option Addr) (b o cap i : Nat) (xs : List Rl) (w : World) (hA : A2 ≠ none) (hA2 : xs.length ≠ i + 1 → A2 = some ⟨b, o + (i + 1) * 5, none⟩) (hi : i < xs.length) (hl : xs.length ≤ 8) (hc : xs.length ≤ cap) (hcap : cap ≤ maxLen) (hb : b < w.heap.size) (hr : RAt w b o xs) :
    ∃ v3 w3 v4 w4, (Builtin.append_ #[57, 57] 57 #[.slice none 0 0, .slice (some ⟨b, o, none⟩) i cap]).run Try.prog w = .ok v3 w3 ∧ (Builtin.append_ #[57, 57] 57 #[v3, .slice A2 (xs.length - (i + 1)) (cap - (i + 1))]).run Try.prog w3 = .ok v4 w4 ∧
      Hid (w4.ownsRow w.heap.size 78 5 v4 (wo xs i).length (cellsR (wo xs i)) ∧ Below w.heap.size w w4) := by
  have R1 : Rules w.heap.size w (.slice (some ⟨b, o, none⟩) i cap) (xs.take i) := ⟨_, cap, by rw [List.length_take, Nat.min_eq_left (by omega)], (fun e => by cases e), by rw [List.length_take]; omega, hcap, fun _ => ⟨b, o, rfl, hb, hr.take i⟩⟩
  have R2 : Rules w.heap.size w (.slice A2 (xs.length - (i + 1)) (cap - (i + 1))) (xs.drop (i + 1)) := ⟨_, cap - (i + 1), by rw [List.length_drop], (fun e => absurd e hA), by rw [List.length_drop]; omega, by omega, fun hn => by
    have hne : xs.length ≠ i + 1 := fun e => hn (List.drop_eq_nil_of_le (by omega))
    exact ⟨b, _, hA2 hne, hb, hr.drop (by omega)⟩⟩
  have o0 : w.ownsRow w.heap.size 78 5 (.slice none 0 0) ([] : List Rl).length (cellsR []) := World.ownsRow_nil _ _ _ _
  obtain ⟨v3, w3, hr3, o3, g3⟩ := app_rules 57 o0 R1 (by simp; omega) (Nat.le_refl _)
  have D3 := Below.app (Below.refl w.heap.size w) o0 g3 (Nat.le_refl _) (Nat.le_refl _)
  simp only [List.nil_append] at o3
  obtain ⟨v4, w4, hr4, o4, g4⟩ := app_rules 57 o3 ((R2.below D3).mono D3.size) (by simp; omega) D3.size
  have D4 := Below.app D3 o3 g4 (Nat.le_refl _) D3.size
  exact ⟨v3, w3, v4, w4, hr3, hr4, o4, D4⟩

set_option maxHeartbeats 8000000 in
set_option maxRecDepth 100000 in
theorem needless_row (b o cap : Nat) (xs : List Rl) (w : World) (hl : xs.length ≤ 8) (hc : xs.length ≤ cap) (hcap : cap ≤ maxLen) (hb : b < w.heap.size) (hr : Hid (RAt w b o xs)) :
    Calls Try.prog 31 #[.slice (some ⟨b, o, none⟩) xs.length cap] w fun e w' => ∃ v, e = .returned v ∧ Hid (w'.ownsRow w.heap.size 3 1 v (deadTo xs xs.length).length (intsV (deadTo xs xs.length)) ∧ Below w.heap.size w w') := by
  have hcap' := hcap
  unfold maxLen at hcap'
  go_enter Try.func31, Try.ntmps31
  go_wp2_with fail
  go_loopw [3, 10] (fun d0 i wr => ∃ (k : Nat) (d : Value), d = d0 ∧ k ≤ xs.length ∧ i = .int .i64 (k : Int) ∧ Hid (wr.ownsRow w.heap.size 3 1 d (deadTo xs k).length (intsV (deadTo xs k))) ∧ Below w.heap.size w wr) (fun _ i _ => xs.length - (intOf i).toNat)
  case atStart => exact ⟨0, _, rfl, by omega, rfl, (World.ownsRow_nil w w.heap.size 3 1 : w.ownsRow w.heap.size 3 1 (.slice none 0 0) (deadTo xs 0).length (intsV (deadTo xs 0))), Below.refl _ _⟩
  case round =>
    obtain ⟨k, d, rfl, hk, rfl, O1, D1⟩ := hrel
    by_cases hlt : k < xs.length
    · have k1 : (0 : Int) ≤ (k : Int) := by omega
      have k2 : (k : Int) ≤ (cap : Int) := by omega
      have k3 : IntKind.i64.wrap ((k : Int) + 1) = (k : Int) + 1 := IntWalk.i64_in _ (by omega)
      have k4 : (0 : Int) ≤ (k : Int) + 1 := by omega
      have k5 : (k : Int) + 1 ≤ (xs.length : Int) := by omega
      have hbr : b < wr.heap.size := Nat.lt_of_lt_of_le hb D1.size
      have RA : RAt wr.drew b o xs := hr.out.below D1.drew hb
      obtain ⟨A2, hsl⟩ : ∃ A2, (if cap = k + 1 then some (⟨b, o, none⟩ : Addr) else some ⟨b, o + (k + 1) * 5, none⟩) = A2 := ⟨_, rfl⟩
      obtain ⟨v3, w3, v4, w4, hr3, hr4, fin4⟩ := less_made A2 b o cap k xs wr.drew (by rw [← hsl]; split <;> simp) (fun h => by rw [← hsl]; exact if_neg (by omega)) hlt hl hc hcap hbr RA
      have Dr : Below wr.heap.size wr w4 := (Below.refl _ wr).drew.trans fin4.out.2
      have D4 : Below w.heap.size w w4 := D1.trans (Dr.mono D1.size)
      have O4 : Hid (w4.ownsRow w.heap.size 3 1 d (deadTo xs k).length (intsV (deadTo xs k))) := ownsRow_keep O1.out Dr
      have LS : Hid (Rules w4.heap.size w4 v4 (wo xs k)) := Rules.own fin4.out.1
      clear fin4 Dr O1 RA
      go_wp2_with fail
      refine wp_region_held_drew (S := (fun _ => True)) (by kernel_rfl) trivial (fun hHeld => ?_)
      refine' wpAnyH_take (i := 0) (v := _) rfl (by kernel_rfl) (by kernel_rfl) (by kernel_rfl) (fun _ _ _ h => h) (Or.inl ⟨by rfl, ?gy1⟩) (by assumption) ?gr1
      case gy1 => (intro w hSw; (try dsimp only at hSw); go_simp; (try with_reducible rfl))
      try simp only [List.getElem_toArray, List.getElem_cons_zero, Act.put, List.setIfInBounds_toArray, List.set_cons_zero, List.set_cons_succ]
      refine' wpAnyH_take (i := 1) (v := _) rfl (by kernel_rfl) (by kernel_rfl) (by kernel_rfl) (fun _ _ _ h => h) (Or.inl ⟨by rfl, ?gy2⟩) (by assumption) ?gr2
      case gy2 => (intro w hSw; (try dsimp only at hSw); go_simp; (try with_reducible rfl))
      try simp only [List.getElem_toArray, List.getElem_cons_zero, List.getElem_cons_succ, Act.put, List.setIfInBounds_toArray, List.set_cons_zero, List.set_cons_succ]
      refine' wpAnyH_take (i := 2) (v := _) rfl (by kernel_rfl) (by kernel_rfl) (by kernel_rfl) (fun _ _ _ h => h) (Or.inl ⟨by rfl, ?gy3⟩) (by assumption) ?gr3
      case gy3 => (intro w hSw; (try dsimp only at hSw); go_simp; (try with_reducible rfl))
      try simp only [List.getElem_toArray, List.getElem_cons_zero, List.getElem_cons_succ, Act.put, List.setIfInBounds_toArray, List.set_cons_zero, List.set_cons_succ]
      refine' wpAnyH_take (i := 4) (v := _) rfl (by kernel_rfl) (by kernel_rfl) (by kernel_rfl) (fun _ _ _ h => h) (Or.inl ⟨by rfl, ?gy4⟩) (by assumption) ?gr4
      case gy4 => (intro w hSw; (try dsimp only at hSw); go_simp; (try with_reducible rfl))
      try simp only [List.getElem_toArray, List.getElem_cons_zero, List.getElem_cons_succ, Act.put, List.setIfInBounds_toArray, List.set_cons_zero, List.set_cons_succ]
      refine' wpAnyH_take (i := 5) (v := _) rfl (by kernel_rfl) (by kernel_rfl) (by kernel_rfl) (fun _ _ _ h => h) (Or.inl ⟨by rfl, ?gy5⟩) (by assumption) ?gr5
      case gy5 => (intro w hSw; (try dsimp only at hSw); go_simp; (try with_reducible rfl))
      try simp only [List.getElem_toArray, List.getElem_cons_zero, List.getElem_cons_succ, Act.put, List.setIfInBounds_toArray, List.set_cons_zero, List.set_cons_succ]
      refine' wpAnyH_take (i := 6) (v := _) rfl (by kernel_rfl) (by kernel_rfl) (by kernel_rfl) (fun _ _ _ h => h) (Or.inl ⟨by rfl, ?gy6⟩) (by assumption) ?gr6
      case gy6 => (intro w hSw; (try dsimp only at hSw); go_simp; (try with_reducible rfl))
      try simp only [List.getElem_toArray, List.getElem_cons_zero, List.getElem_cons_succ, Act.put, List.setIfInBounds_toArray, List.set_cons_zero, List.set_cons_succ]
      refine' wpAnyH_take (i := 7) (v := _) rfl (by kernel_rfl) (by kernel_rfl) (by kernel_rfl) (fun _ _ _ h => h) (Or.inl ⟨by rfl, ?gy7⟩) (by assumption) ?gr7
      case gy7 => (intro w hSw; (try dsimp only at hSw); go_simp; (try with_reducible rfl))
      try simp only [List.getElem_toArray, List.getElem_cons_zero, List.getElem_cons_succ, Act.put, List.setIfInBounds_toArray, List.set_cons_zero, List.set_cons_succ]
      refine wpAnyH_ready (rs := [3]) (by kernel_rfl) (by simp) (AllReadyH.cons rfl (fun K hK => ?_) AllReadyH.nil)
      refine append_step rfl _ _ 57 rfl rfl rfl hr3 ?_
      clear hHeld
      refine hK.out _ _ trivial (fun hHeld => ?_)
      clear hK K
      try simp only [List.getElem_toArray, List.getElem_cons_zero, List.getElem_cons_succ, Act.put, List.setIfInBounds_toArray, List.set_cons_zero, List.set_cons_succ]
      refine wpAnyH_ready (rs := [8]) (by kernel_rfl) (by simp) (AllReadyH.cons rfl (fun K hK => ?_) AllReadyH.nil)
      refine append_step rfl _ _ 57 rfl rfl rfl hr4 ?_
      clear hHeld
      refine hK.out _ _ trivial (fun hHeld => ?_)
      clear hK K
      try simp only [List.getElem_toArray, List.getElem_cons_zero, List.getElem_cons_succ, Act.put, List.setIfInBounds_toArray, List.set_cons_zero, List.set_cons_succ]
      refine' wpAnyH_take (i := 9) (v := _) rfl (by kernel_rfl) (by kernel_rfl) (by kernel_rfl) (fun _ _ _ h => h) (Or.inl ⟨by rfl, ?gy8⟩) (by assumption) ?gr8
      case gy8 => (intro w hSw; (try dsimp only at hSw); go_simp; (try with_reducible rfl))
      try simp only [List.getElem_toArray, List.getElem_cons_zero, List.getElem_cons_succ, Act.put, List.setIfInBounds_toArray, List.set_cons_zero, List.set_cons_succ]
      refine wpAnyH_done (by kernel_rfl) ?_ _
      go_wp2_with fail
      go_loopw [6, 7] (fun sm c wr => ∃ (m : Nat) (same : Bool), sm = .bool same ∧ c = .int .i64 (m : Int) ∧ m ≤ 16384 ∧ Below w4.heap.size w4 wr ∧ Hid ((same = true → ∀ j, j < m → letsC (wo xs k) j = letsC xs j) ∧ (same = false → ∃ j, j < 16384 ∧ letsC (wo xs k) j ≠ letsC xs j))) (fun _ c _ => 16384 - (intOf c).toNat)
      case atStart => exact ⟨0, true, rfl, rfl, by omega, Below.refl _ _, (fun _ j hj => by omega), (fun e => by cases e)⟩
      case round =>
        obtain ⟨m, same, rfl, rfl, hm, Dx, hs⟩ := hrel
        have RX : Hid (∀ w', Below wr.heap.size wr w' → Rules w'.heap.size w' v4 (wo xs k) ∧ Rules w'.heap.size w' (.slice (some ⟨b, o, none⟩) xs.length cap) xs) := fun w' hw' => by
          have e1 := Dx.trans (hw'.mono Dx.size)
          have e2 := D4.trans (e1.mono D4.size)
          exact ⟨(LS.out.below e1).mono e1.size, ⟨_, cap, rfl, (fun e => by cases e), hc, hcap, fun _ => ⟨b, o, rfl, Nat.lt_of_lt_of_le hb e2.size, hr.out.below e2 hb⟩⟩⟩
        cases same
        · -- they part
          have nd : ¬ isDead xs k := fun h => by
            obtain ⟨j, hj, hne⟩ := hs.out.2 rfl
            exact hne ((isDead_iff xs k).1 h j hj)
          have O5 : Hid (wr.ownsRow w.heap.size 3 1 d (deadTo xs (k + 1)).length (intsV (deadTo xs (k + 1)))) := by
            have := ownsRow_keep O4.out Dx
            rw [← deadTo_no nd] at this
            exact this
          have D5 : Below w.heap.size w wr := D4.trans (Dx.mono D4.size)
          clear nd hs RX LS O4
          by_cases hmm : m < 16384
          · go_wp2_with fail
            go_roundw
            case rel => exact ⟨k + 1, d, rfl, by omega, by go_num, O5, D5⟩
            case measure => simp [intOf]; omega
          · go_wp2_with fail
            go_roundw
            case rel => exact ⟨k + 1, d, rfl, by omega, by go_num, O5, D5⟩
            case measure => simp [intOf]; omega
        · by_cases hmm : m < 16384
          · have PK : Hid (∀ w, Calls Try.prog 71 #[.int .i64 (m : Int)] w fun e w' => e = .returned (pk ((m / 1024 : Nat) : Int) ((m / 64 % 16 : Nat) : Int) ((m / 8 % 8 : Nat) : Int) ((m % 8 : Nat) : Int)) ∧ Below w.heap.size w w') := fun w => rpacket_any m w hmm
            have L1 : Hid (∀ w', Below wr.heap.size wr w' → Calls Try.prog 26 #[v4, pk ((m / 1024 : Nat) : Int) ((m / 64 % 16 : Nat) : Int) ((m / 8 % 8 : Nat) : Int) ((m % 8 : Nat) : Int)] w' fun e w'' => e = .returned (.bool (letsC (wo xs k) m)) ∧ Below w'.heap.size w' w'') := fun w' hw' => rlets_any _ _ _ _ w' (RX.out w' hw').1
            have L2 : Hid (∀ w', Below wr.heap.size wr w' → Calls Try.prog 26 #[.slice (some ⟨b, o, none⟩) xs.length cap, pk ((m / 1024 : Nat) : Int) ((m / 64 % 16 : Nat) : Int) ((m / 8 % 8 : Nat) : Int) ((m % 8 : Nat) : Int)] w' fun e w'' => e = .returned (.bool (letsC xs m)) ∧ Below w'.heap.size w' w'') := fun w' hw' => rlets_any _ _ _ _ w' (RX.out w' hw').2
            have hs' : Hid (∀ same', same' = (letsC (wo xs k) m == letsC xs m) → (same' = true → ∀ j, j < m + 1 → letsC (wo xs k) j = letsC xs j) ∧ (same' = false → ∃ j, j < 16384 ∧ letsC (wo xs k) j ≠ letsC xs j)) := fun same' e => by
              refine ⟨fun h j hj => ?_, fun h => ⟨m, hmm, ?_⟩⟩
              · by_cases hj' : j < m
                · exact hs.out.1 rfl j hj'
                · obtain rfl : j = m := by omega
                  rw [e] at h
                  simpa using h
              · rw [e] at h
                simpa using h
            clear hs RX
            generalize letsC (wo xs k) m = y1 at *
            generalize letsC xs m = y2 at *
            generalize m / 1024 = p0 at *
            generalize m / 64 % 16 = p1 at *
            generalize m / 8 % 8 = p2 at *
            generalize m % 8 = p3 at *
            go_wp2_with fail
            refine (PK.out _).mono ?_
            rintro e u1 ⟨rfl, h1⟩
            go_wp2_with fail
            refine (L1.out _ h1).mono ?_
            rintro e u2 ⟨rfl, h2⟩
            have h12 := h1.trans (h2.mono h1.size)
            go_wp2_with fail
            refine (PK.out _).mono ?_
            rintro e u3 ⟨rfl, h3⟩
            have h13 := h12.trans (h3.mono h12.size)
            go_wp2_with fail
            refine (L2.out _ h13).mono ?_
            rintro e u4 ⟨rfl, h4⟩
            have h14 := h13.trans (h4.mono h13.size)
            have D6 := Dx.trans (h14.mono Dx.size)
            clear h1 h2 h3 h4 h12 h13 h14 L1 L2 PK
            go_wp2_with fail
            go_roundw
            case rel => exact ⟨m + 1, _, rfl, by go_num, by omega, D6, hs'.out _ rfl⟩
            case measure => simp [intOf]; omega
          · obtain rfl : m = 16384 := by omega
            have dd : isDead xs k := (isDead_iff xs k).2 (fun c hc => hs.out.1 rfl c hc)
            have hdl := deadTo_len xs k
            obtain ⟨i0, hi, hz0, hz1, hz2⟩ := info_parts Try.infoInt
            have q0 := ownsRow_keep O4.out Dx
            have q1 := q0.alloc (.cells #[.int .i64 (k : Int)] 3)
            have D5 : Below w.heap.size w wr := D4.trans (Dx.mono D4.size)
            have s5 := D5.size
            obtain ⟨v5, w5, hr5, o5, g5, _⟩ := run_append_own (P := Try.prog) (wr.alloc (.cells #[.int .i64 (k : Int)] 3)) w.heap.size 40 40 3 i0 _ 1 8 Try.uInts hi hz0 hz1 hz2 rfl (by decide) d (deadTo xs k).length (intsV (deadTo xs k)) q1 ⟨wr.heap.size, 0, none⟩ 1 1 [.int .i64 (k : Int)] rfl (fun j u hj => by
              match j, hj with
              | 0, hj => cases hj; rw [Addr.add_lit]; simp [go_sem]
              | j + 1, hj => simp at hj) (fun u hu => by simp at hu; subst hu; rfl) (by unfold maxLen; omega) (by omega) (by simp; omega)
            have D6 : Below w.heap.size w w5 := Below.app (D5.alloc s5 _) q1 g5 (Nat.le_refl _) (by simp; omega)
            have O5 : Hid (w5.ownsRow w.heap.size 3 1 v5 (deadTo xs (k + 1)).length (intsV (deadTo xs (k + 1)))) := by
              have o6 : w5.ownsRow w.heap.size 3 1 v5 (deadTo xs (k + 1)).length (intsV (deadTo xs (k + 1))) := by
                rw [deadTo_yes dd]
                simpa [intsV] using o5
              exact o6
            clear o5 g5 q0 q1 hi hz0 hz1 hz2 O4 dd hs RX LS
            go_wp2_with (at_builtin; refine append_run rfl _ _ 40 rfl rfl rfl hr5 ?_)
            go_roundw
            case rel => exact ⟨k + 1, v5, rfl, by omega, by go_num, O5, D6⟩
            case measure => simp [intOf]; omega
    · obtain rfl : k = xs.length := by omega
      go_wp2_with fail
      go_ret
      exact ⟨_, rfl, O1.out, D1⟩

set_option maxHeartbeats 1000000 in
theorem needless_none (A : Option Addr) (cap : Nat) (w : World) :
    Calls Try.prog 31 #[.slice A 0 cap] w fun e w' => e = .returned (.slice none 0 0) ∧ w' = w := by
  go_enter Try.func31, Try.ntmps31
  go_wp2_with fail
  go_loopw [3, 10] (fun d i wr => d = .slice none 0 0 ∧ i = .int .i64 0 ∧ wr = w) (fun _ i _ => 0)
  case atStart => exact ⟨rfl, rfl, rfl⟩
  case round =>
    obtain ⟨rfl, rfl, rfl⟩ := hrel
    go_wp2_with fail
    go_ret
    exact ⟨rfl, rfl⟩
theorem needless_any {v : Value} {xs : List Rl} (w : World) (h : Rules w.heap.size w v xs) (hl : xs.length ≤ 8) :
    Calls Try.prog 31 #[v] w fun e w' => ∃ v, e = .returned v ∧ Hid (w'.ownsRow w.heap.size 3 1 v (deadTo xs xs.length).length (intsV (deadTo xs xs.length)) ∧ Below w.heap.size w w') := by
  obtain ⟨A, cap, rfl, _, h1, h2, h3⟩ := h
  by_cases hx : xs = []
  · subst hx
    refine (needless_none A cap w).mono ?_
    rintro e w' ⟨rfl, rfl⟩
    exact ⟨_, rfl, World.ownsRow_nil _ _ _ _, Below.refl _ _⟩
  · obtain ⟨b, o, rfl, hb, hr⟩ := h3 hx
    exact needless_row b o cap xs w hl h1 h2 hb hr
end Go.Proofs.Ytgcimcpcnoojnaa


