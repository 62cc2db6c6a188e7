/-
  printRow and print: what they return; no memory that was there turns.
-/
import Derived.Test.YtkckgoeemfjkkaaDoorM4
import Derived.OwnWalk
namespace Go.Proofs.YtkckgoeemfjkkaaDoor
open Go.RowKit

theorem row_one (a : Nat) (h : a < 16) : (⟨(Lib.decDigits a).toArray⟩ : ByteArray) = ⟨(Mt.rowT (a, a)).toArray⟩ := by
  rw [Pk.decDigits_dec a (by omega), Mt.rowT, if_pos rfl]
theorem row_two (a b : Nat) (h1 : a < 16) (h2 : b < 16) (hne : a ≠ b) : (⟨(Lib.decDigits a).toArray⟩ : ByteArray) ++ ⟨#[45]⟩ ++ ⟨(Lib.decDigits b).toArray⟩ = ⟨(Mt.rowT (a, b)).toArray⟩ := by
  rw [Pk.decDigits_dec a (by omega), Pk.decDigits_dec b (by omega), Mt.rowT, if_neg hne]
  apply ByteArray.ext
  rw [ByteArray.data_append, ByteArray.data_append]
  simp

set_option maxHeartbeats 1000000 in
theorem printRow_any (a b : Nat) (w : World) (h1 : a < 16) (h2 : b < 16) :
    Calls Tryd.prog 60 #[.int .i64 (a : Int), .int .i64 (b : Int)] w fun e w' => e = .returned (.string ⟨(Mt.rowT (a, b)).toArray⟩) ∧ w' = w := by
  have IA : Hid (∀ w, Calls Tryd.prog 15 #[.int .i64 (a : Int)] w fun e w' => e = .returned (.string ⟨(Lib.decDigits a).toArray⟩) ∧ w' = w) := fun w => Tryd.strconv_Itoa_small a (by omega) w
  have IB : Hid (∀ w, Calls Tryd.prog 15 #[.int .i64 (b : Int)] w fun e w' => e = .returned (.string ⟨(Lib.decDigits b).toArray⟩) ∧ w' = w) := fun w => Tryd.strconv_Itoa_small b (by omega) w
  have la : (Lib.decDigits a).length ≤ 2 := by rw [Pk.decDigits_dec a (by omega)]; exact Pk.dec_len a
  have lb : (Lib.decDigits b).length ≤ 2 := by rw [Pk.decDigits_dec b (by omega)]; exact Pk.dec_len b
  by_cases hab : a = b
  · subst hab
    have E : Hid ((⟨(Lib.decDigits a).toArray⟩ : ByteArray) = ⟨(Mt.rowT (a, a)).toArray⟩) := row_one a h1
    go_enter Tryd.func60, Tryd.ntmps60
    go_wp2_with fail
    refine (IA.out _).mono ?_
    rintro e w1 ⟨rfl, rfl⟩
    go_wp2_with fail
    go_ret
    exact ⟨congrArg (fun x => Ending.returned (Value.string x)) E.out, rfl⟩
  · have E : Hid ((⟨(Lib.decDigits a).toArray⟩ : ByteArray) ++ ⟨#[45]⟩ ++ ⟨(Lib.decDigits b).toArray⟩ = ⟨(Mt.rowT (a, b)).toArray⟩) := row_two a b h1 h2 hab
    have t : ((a : Int) == (b : Int)) = false := by simp; omega
    go_enter Tryd.func60, Tryd.ntmps60
    go_wp2_with fail
    refine (IA.out _).mono ?_
    rintro e w1 ⟨rfl, rfl⟩
    go_wp2_with fail
    refine (IB.out _).mono ?_
    rintro e w1 ⟨rfl, rfl⟩
    go_wp2_with fail
    go_ret
    exact ⟨congrArg (fun x => Ending.returned (Value.string x)) E.out, rfl⟩

/-- Texts, as the cells of a slice. -/
def strs (l : List (List UInt8)) : List Value := l.map fun p => .string ⟨p.toArray⟩
theorem own_eq {w : World} {B n : Nat} {v : Value} {xs : List Value} {ps : List (List UInt8)} (h : w.ownsRow B 9 1 v n xs) (hn : n = ps.length) (hx : xs = strs ps) : w.ownsRow B 9 1 v ps.length (strs ps) := by
  subst hn hx
  exact h
theorem Tryd.info9 : (Tryd.prog.info? 9).map (fun i => (i.zero, i.size, i.bytes)) = some (some (.string ⟨#[]⟩), 1, 16) := by kernel_rfl
theorem own_below {W W' : World} {B e size n : Nat} {v : Value} {xs : List Value} (h : W.ownsRow B e size v n xs) (hb : Below W.heap.size W W') : W'.ownsRow B e size v n xs := by
  refine ⟨h.1, ?_⟩
  rcases h.2 with k | ⟨g, cap, cur, h1, h2, h3, h4⟩
  · exact Or.inl k
  · exact Or.inr ⟨g, cap, cur, h1, h2, by rw [hb.block g (Array.getElem?_eq_some_iff.1 h3).1]; exact h3, h4⟩

theorem hasB_nat (b k : Nat) : hasB b (k : Int) = b.testBit k := by simp [hasB]

set_option maxHeartbeats 4000000 in
set_option maxRecDepth 100000 in
theorem print_loop (b size : Nat) (w : World) (hsz : size ≤ 16) (hb : b < 2 ^ size) (e1 : ((b : Int) == wrap64 (wrap64 (2 ^ size) - 1)) = false) (e2 : ((b : Int) == 0) = false) :
    Calls Tryd.prog 40 #[st (b : Int) (size : Int)] w fun e w' => e = .returned (.string ⟨(Lib.join ((Mt.rowsTo b size).map Mt.rowT) [44]).toArray⟩) ∧ Below w.heap.size w w' := by
  have hb16 : b < 2 ^ 16 := Nat.lt_of_lt_of_le hb (Nat.pow_le_pow_right (by omega) hsz)
  have HH : Hid (∀ (k : Nat) w, Calls Tryd.prog 59 #[st (b : Int) (size : Int), .int .i64 (k : Int)] w fun e w' => e = .returned (.bool (b.testBit k)) ∧ Below w.heap.size w w') := fun k w => by
    have := has_any b (k : Int) (size : Int) w (by omega)
    rw [hasB_nat] at this
    exact this
  have HB : Hid (b < 2 ^ size) := hb
  have HB16 : Hid (b < 2 ^ 16) := hb16
  have P0 := pair_new w (.int .i64 (b : Int)) (.int .i64 (size : Int)) 84
  have D0 := Below.alloc' (Below.refl w.heap.size w) (.cells #[.int .i64 (b : Int), .int .i64 (size : Int)] 84)
  clear hb hb16
  obtain ⟨i0, hi, hz0, hz1, hz2⟩ := info_parts Tryd.info9
  go_enter Tryd.func40, Tryd.ntmps40
  go_wp2_with fail
  generalize w.alloc (.cells #[.int .i64 (b : Int), .int .i64 (size : Int)] 84) = w1 at *
  go_loopw [4, 3] (fun n v wr => ∃ k : Nat, n = .int .i64 (k : Int) ∧ k ≤ size ∧ (b.testBit k = true → k = 0 ∨ b.testBit (k - 1) = false) ∧ wr.ownsRow w1.heap.size 9 1 v ((Mt.rowsTo b k).map Mt.rowT).length (strs ((Mt.rowsTo b k).map Mt.rowT)) ∧ Below w1.heap.size w1 wr) (fun n _ _ => size - (intOf n).toNat)
  case atStart => exact ⟨0, rfl, Nat.zero_le _, fun _ => Or.inl rfl, World.ownsRow_nil _ _ _ _, Below.refl _ _⟩
  case round =>
    obtain ⟨k, rfl, hk, hs, ho, hbw⟩ := hrel
    have HS : Hid (b.testBit k = true → k = 0 ∨ b.testBit (k - 1) = false) := hs
    clear hs
    have P1 := keepPair hbw P0
    obtain ⟨l0, ⟨c0, c1⟩, -⟩ := id P1
    by_cases hlt : k < size
    · cases ht : b.testBit k
      · have H1 : Hid (∀ w, Calls Tryd.prog 59 #[st (b : Int) (size : Int), .int .i64 (k : Int)] w fun e w' => e = .returned (.bool false) ∧ Below w.heap.size w w') := fun w => by rw [← ht]; exact HH.out k w
        have R : Hid (Mt.rowsTo b (k + 1) = Mt.rowsTo b k) := Mt.rows_skip b k (Or.inl ht)
        have HT : Hid (b.testBit k = false) := ht
        clear ht
        go_wp2_with fail
        refine (H1.out _).mono ?_
        rintro e w2 ⟨rfl, hb2⟩
        have o2 := own_below ho hb2
        have D2 := chain hb2 hbw
        clear ho hbw P1 l0 c0 c1
        go_wp2_with fail
        go_roundw
        case rel => exact ⟨k + 1, congrArg (Value.int .i64) (by omega), by omega, fun _ => Or.inr (by rw [Nat.add_sub_cancel]; exact HT.out), by rw [R.out]; exact o2, D2⟩
        case measure => simp [intOf]; omega
      · have H1 : Hid (∀ w, Calls Tryd.prog 59 #[st (b : Int) (size : Int), .int .i64 (k : Int)] w fun e w' => e = .returned (.bool true) ∧ Below w.heap.size w w') := fun w => by rw [← ht]; exact HH.out k w
        have HT : Hid (b.testBit k = true) := ht
        clear ht
        go_wp2_with fail
        refine (H1.out _).mono ?_
        rintro e w2 ⟨rfl, hb2⟩
        have o2 := own_below ho hb2
        have D2 := chain hb2 hbw
        clear ho hbw P1 l0 c0 c1
        go_wp2_with fail
        go_loopw [4] (fun n wr => ∃ m : Nat, n = .int .i64 (m : Int) ∧ k ≤ m ∧ m < size ∧ (∀ i, k ≤ i → i ≤ m → b.testBit i = true) ∧ Below w2.heap.size w2 wr) (fun n _ => size - (intOf n).toNat)
        case atStart => exact ⟨k, rfl, Nat.le_refl _, hlt, fun i h1 h2 => by rw [show i = k by omega]; exact HT.out, Below.refl _ _⟩
        case round =>
          obtain ⟨m, rfl, hkm, hm, hall, hbi⟩ := hrel
          have HA : Hid (∀ i, k ≤ i → i ≤ m → b.testBit i = true) := hall
          clear hall
          have P3 := keepPair hbi (keepPair D2 P0)
          obtain ⟨l0, ⟨c0, c1⟩, -⟩ := id P3
          cases ht : b.testBit (m + 1)
          · have H3 : Hid (∀ w, Calls Tryd.prog 59 #[st (b : Int) (size : Int), .int .i64 ((m : Int) + 1)] w fun e w' => e = .returned (.bool false) ∧ Below w.heap.size w w') := fun w => by
              have := HH.out (m + 1) w
              rw [ht, show ((m + 1 : Nat) : Int) = (m : Int) + 1 by omega] at this
              exact this
            have R : Hid (Mt.rowsTo b (m + 1) = Mt.rowsTo b k ++ [(k, m)]) := Mt.rows_run b k m HB16.out ⟨hkm, HA.out, ht⟩ (HS.out HT.out)
            have PR : Hid (∀ w, Calls Tryd.prog 60 #[.int .i64 (k : Int), .int .i64 (m : Int)] w fun e w' => e = .returned (.string ⟨(Mt.rowT (k, m)).toArray⟩) ∧ w' = w) := fun w => printRow_any k m w (by omega) (by omega)
            have HN : Hid (b.testBit (m + 1) = false) := ht
            clear ht
            go_wp2_with fail
            refine (H3.out _).mono ?_
            rintro e w4 ⟨rfl, hb4⟩
            have o4 := own_below (own_below o2 hbi) hb4
            have D4 := chain hb4 (chain hbi D2)
            have hlen : ((Mt.rowsTo b k).map Mt.rowT).length ≤ 16 := by
              rw [List.length_map]
              have := Mt.rows_len b k
              omega
            clear o2 D2 hbi hb4 P3 l0 c0 c1
            go_wp2_with fail
            refine (PR.out _).mono ?_
            rintro e w5 ⟨rfl, rfl⟩
            go_wp2_with (at_builtin; refine wpList_append_own _ rfl _ _ 50 rfl w1.heap.size 9 i0 (.string ⟨#[]⟩) 1 16 Tryd.underlying50 hi hz0 hz1 hz2 rfl (by decide) _ _ _ rfl (o4.alloc _) ⟨w5.heap.size, 0, none⟩ 1 1 [.string ⟨(Mt.rowT (k, m)).toArray⟩] rfl rfl ?c1 ?c2 ?c3 ?c4 ?c5 ?_)
            case c1 =>
              intro j u hj
              match j, hj with
              | 0, hj => simp at hj; subst hj; simp [Addr.add]
            case c2 => intro u hu; simp at hu; subst hu; rfl
            case c3 => unfold maxLen; omega
            case c4 => omega
            case c5 => have := D4.size; simp; omega
            intro v' w6 hown' hgrow _
            have R1 := own_eq (ps := (Mt.rowsTo b (m + 1)).map Mt.rowT) hown' (by rw [R.out]; simp) (by rw [R.out]; simp [strs])
            have R2 := (D4.alloc D4.size (.cells #[.string ⟨(Mt.rowT (k, m)).toArray⟩] 9)).grown hgrow (by have := D4.size; simp; omega) (fun k hk => (o4.lt k hk).1)
            clear hown' hgrow o4 D4
            go_wp2_with fail
            go_roundw
            case rel => exact ⟨m + 1, congrArg (Value.int .i64) (by omega), by omega, (fun h => by rw [HN.out] at h; cases h), R1, R2⟩
            case measure => simp [intOf]; omega
          · have hm1 : m + 1 < size := by
              rcases Nat.lt_or_ge (m + 1) size with h | h
              · exact h
              · rw [Nat.testBit_lt_two_pow (Nat.lt_of_lt_of_le HB.out (Nat.pow_le_pow_right (by omega) h))] at ht
                cases ht
            have H3 : Hid (∀ w, Calls Tryd.prog 59 #[st (b : Int) (size : Int), .int .i64 ((m : Int) + 1)] w fun e w' => e = .returned (.bool true) ∧ Below w.heap.size w w') := fun w => by
              have := HH.out (m + 1) w
              rw [ht, show ((m + 1 : Nat) : Int) = (m : Int) + 1 by omega] at this
              exact this
            have HN : Hid (b.testBit (m + 1) = true) := ht
            clear ht
            go_wp2_with fail
            refine (H3.out _).mono ?_
            rintro e w4 ⟨rfl, hb4⟩
            have D4 := chain hb4 hbi
            clear hbi hb4 P3 l0 c0 c1
            go_wp2_with fail
            go_roundw
            case rel => exact ⟨m + 1, congrArg (Value.int .i64) (by omega), by omega, hm1, (fun i h1 h2 => by
              by_cases e : i = m + 1
              · rw [e]; exact HN.out
              · exact HA.out i h1 (by omega)), D4⟩
            case measure => simp [intOf]; omega
    · obtain rfl : k = size := by omega
      have D2 := chain hbw D0
      have hlen := Mt.rows_len b k
      have hjl := Mt.join_len 6 ((Mt.rowsTo b k).map Mt.rowT) [44] (by
        intro y hy
        obtain ⟨q, _, rfl⟩ := List.mem_map.1 hy
        have := Mt.rowT_len q
        simp only [List.length_singleton]; omega)
      have hll : ((Mt.rowsTo b k).map Mt.rowT).length ≤ 16 := by rw [List.length_map]; omega
      have hjl2 : (Lib.join ((Mt.rowsTo b k).map Mt.rowT) [44]).length ≤ 96 := by omega
      clear hjl hlen HS
      have GO : ∀ L : List (List UInt8), L = (Mt.rowsTo b k).map Mt.rowT → Hid (L = (Mt.rowsTo b k).map Mt.rowT) := fun _ h => h
      generalize hL : (Mt.rowsTo b k).map Mt.rowT = L at ho hll hjl2
      have HL := GO L hL.symm
      clear hL GO
      rcases ho.2 with ⟨hv, hn⟩ | ⟨g, cap, cur, hv, hg, hgb, hcap, hcm, _⟩
      · subst hv
        have HE : Hid (Lib.join L [44] = []) := by
          show _ = _
          rw [List.eq_nil_of_length_eq_zero hn]
          rfl
        clear ho hn hjl2
        go_wp2_with fail
        refine (Tryd.strings_Join_none _ _ _ _).mono ?_
        rintro e w4 ⟨rfl, rfl⟩
        go_wp2_with fail
        go_ret
        exact ⟨by rw [← HL.out, HE.out]; rfl, D2⟩
      · subst hv
        have hid : (L.map fun p => (⟨p.toArray⟩ : ByteArray)).map (·.data.toList) = L := by simp [List.map_map, Function.comp_def]
        have J := Tryd.strings_Join g 0 cap (L.map fun p => ⟨p.toArray⟩) ⟨#[44]⟩ wr (by
          intro j x hx
          rw [Nat.zero_add, ho.cellAt j (by
            have := (List.getElem?_eq_some_iff.1 hx).1
            simpa using this)]
          unfold strs
          rw [List.getElem?_map] at hx ⊢
          cases hq : L[j]? with
          | none => rw [hq] at hx; cases hx
          | some p => rw [hq] at hx; simp only [Option.map_some, Option.some.injEq] at hx ⊢; rw [hx]) (Array.getElem?_eq_some_iff.1 hgb).1 (by rw [List.length_map]; omega) (by rw [List.length_map]; exact hcap) (by rw [hid]; exact Nat.le_trans hjl2 (by omega))
        rw [List.length_map, hid] at J
        have JJ : Hid (Calls Tryd.prog 33 #[.slice (some ⟨g, 0, none⟩) L.length cap, .string ⟨#[44]⟩] wr fun e w' => e = .returned (.string ⟨(Lib.join L [44]).toArray⟩) ∧ Below wr.heap.size wr w') := J
        clear J hid ho hjl2 hgb hcap hcm
        go_wp2_with fail
        refine (JJ.out).mono ?_
        rintro e w4 ⟨rfl, hb4⟩
        have D4 := chain hb4 D2
        go_wp2_with fail
        go_ret
        exact ⟨by rw [← HL.out]; rfl, D4⟩

theorem e_of (b size : Nat) (hsz : size = 16 ∨ size = 8) (h : b ≠ 2 ^ size - 1) : ((b : Int) == wrap64 (wrap64 (2 ^ size) - 1)) = false := by
  rw [beq_eq_false_iff_ne]
  rcases hsz with rfl | rfl
  · have : wrap64 (wrap64 (2 ^ 16) - 1) = 65535 := by first | kernel_rfl | (unfold wrap64; omega)
    rw [this]; omega
  · have : wrap64 (wrap64 (2 ^ 8) - 1) = 255 := by first | kernel_rfl | (unfold wrap64; omega)
    rw [this]; omega

set_option maxHeartbeats 1000000 in
theorem print_star (size : Nat) (hsz : size = 16 ∨ size = 8) (w : World) :
    Calls Tryd.prog 40 #[st ((2 ^ size - 1 : Nat) : Int) (size : Int)] w fun e w' => e = .returned (.string ⟨#[42]⟩) ∧ Below w.heap.size w w' := by
  rcases hsz with rfl | rfl
  all_goals
    go_enter Tryd.func40, Tryd.ntmps40
    go_wp2_with fail
    go_ret
    exact ⟨rfl, by go_grown⟩
set_option maxHeartbeats 1000000 in
theorem print_dash (size : Nat) (hsz : size = 16 ∨ size = 8) (w : World) :
    Calls Tryd.prog 40 #[st 0 (size : Int)] w fun e w' => e = .returned (.string ⟨#[45]⟩) ∧ Below w.heap.size w w' := by
  rcases hsz with rfl | rfl
  all_goals
    go_enter Tryd.func40, Tryd.ntmps40
    go_wp2_with fail
    go_ret
    exact ⟨rfl, by go_grown⟩

theorem print_any (b size : Nat) (w : World) (hsz : size = 16 ∨ size = 8) (hb : b < 2 ^ size) :
    Calls Tryd.prog 40 #[st (b : Int) (size : Int)] w fun e w' => e = .returned (.string ⟨(Mt.setT size b).toArray⟩) ∧ Below w.heap.size w w' := by
  unfold Mt.setT
  by_cases h1 : b = 2 ^ size - 1
  · rw [if_pos h1, h1]
    exact print_star size hsz w
  · rw [if_neg h1]
    by_cases h2 : b = 0
    · rw [if_pos h2, h2]
      exact print_dash size hsz w
    · rw [if_neg h2]
      exact print_loop b size w (by omega) hb (e_of b size hsz h1) (by rw [beq_eq_false_iff_ne]; omega)
end Go.Proofs.YtkckgoeemfjkkaaDoor


