/-
  Texts of nets: a device's line, whole.
-/
import Derived.Test.YthofdiacncgbkaaGreatDoorPA8
import Derived.Test.YthofdiacncgbkaaGreatDoorNQ3
namespace Go.Proofs.YthofdiacncgbkaaGreatDoor
open Go.RowKit

theorem kind_few {t : List UInt8} {n : Int} (h2 : n ≠ 2) (h3 : n ≠ 3) (h4 : n ≠ 4) : kindL dlines t n = 0 := by
  have e2 : ((2 : Int) == n) = false := by simp; omega
  have e3 : ((3 : Int) == n) = false := by simp; omega
  have e4 : ((4 : Int) == n) = false := by simp; omega
  simp [dlines, kindL, e2, e3, e4]
theorem kind_two (t : List UInt8) : kindL dlines t 2 = if t = kwB 2 then 2 else if t = kwB 3 then 3 else 0 := by
  have a : kwB 2 = [114, 111, 117, 116, 101, 114] := by decide
  have b : kwB 3 = [102, 105, 114, 101] := by decide
  rw [a, b]
  by_cases h : t = [114, 111, 117, 116, 101, 114]
  · subst h; decide
  · by_cases h' : t = [102, 105, 114, 101]
    · subst h'; decide
    · have x1 : (([114, 111, 117, 116, 101, 114] : List UInt8) == t) = false := by simpa using fun e => h e.symm
      have x2 : (([102, 105, 114, 101] : List UInt8) == t) = false := by simpa using fun e => h' e.symm
      simp [dlines, kindL, x1, x2, h, h']
theorem kind_three (t : List UInt8) : kindL dlines t 3 = if t = kwB 1 then 1 else 0 := by
  have a : kwB 1 = [104, 111, 115, 116] := by decide
  rw [a]
  by_cases h : t = [104, 111, 115, 116]
  · subst h; decide
  · have x1 : (([104, 111, 115, 116] : List UInt8) == t) = false := by simpa using fun e => h e.symm
    simp [dlines, kindL, x1, h]
theorem kind_four (t : List UInt8) : kindL dlines t 4 = if t = kwB 4 then 4 else if t = kwB 5 then 5 else 0 := by
  have a : kwB 4 = [110, 97, 116] := by decide
  have b : kwB 5 = [108, 98] := by decide
  rw [a, b]
  by_cases h : t = [110, 97, 116]
  · subst h; decide
  · by_cases h' : t = [108, 98]
    · subst h'; decide
    · have x1 : (([110, 97, 116] : List UInt8) == t) = false := by simpa using fun e => h e.symm
      have x2 : (([108, 98] : List UInt8) == t) = false := by simpa using fun e => h' e.symm
      simp [dlines, kindL, x1, x2, h, h']
theorem poolP_lt : ∀ (l : List Int) (y z : Nat), (∀ x ∈ l, 0 ≤ x) → y < 256 → poolP l y = some z → z < 256
  | [], y, z, _, hy, h => by
    obtain rfl := Option.some.inj h
    exact hy
  | p :: r, y, z, hp, hy, h => by
    rw [poolP] at h
    split at h
    · cases h
    · rename_i hc
      have := hp p (by simp)
      exact poolP_lt r _ z (fun x hx => hp x (by simp [hx])) (or_lt y p.toNat hy (by omega)) h
theorem ppool_lt {s : List UInt8} {z : Nat} (h : ppool s = some z) : z < 256 := by
  unfold ppool at h
  rcases ho : pnums s with _ | l
  · rw [ho] at h
    cases h
  · rw [ho] at h
    exact poolP_lt l 0 z (fun x hx => (pnums_range ho x hx).1) (by omega) h
theorem pnumsL_len : ∀ {L : List (List UInt8)} {l : List Int}, pnumsL L = some l → l.length = L.length
  | [], l, h => by
    obtain rfl := Option.some.inj h
    rfl
  | y :: r, l, h => by
    rcases ho : pnum y with _ | n
    · rw [pnumsL_no ho] at h
      cases h
    · rw [pnumsL_yes ho] at h
      obtain ⟨t, ht, rfl⟩ := Option.map_eq_some_iff.1 h
      rw [List.length_cons, List.length_cons, pnumsL_len ht]
theorem spl_count (c : UInt8) : ∀ l : List UInt8, (Mt.spl c l).length ≤ l.length + 1
  | [] => by simp [Mt.spl]
  | x :: r => by
    have ih := spl_count c r
    obtain ⟨h, t, e⟩ := Mt.spl_ne c r
    unfold Mt.spl
    split
    · rw [List.length_cons, List.length_cons]
      omega
    · rw [e] at ih ⊢
      simp only [List.length_cons] at ih ⊢
      omega
theorem pnums_len {s : List UInt8} {l : List Int} (h : pnums s = some l) : l.length ≤ s.length + 1 := by
  rw [pnumsL_len h]
  exact spl_count 44 s
theorem nameOk_eta (s : ByteArray) : nameOk ⟨s.data.toList.toArray⟩ = nameOk s := by cases s; simp
theorem parseDevice_any (g : Nat) (xs : List ByteArray) (w : World) (hx : xs ≠ []) (T : Texts w g xs) (hs : ∀ x ∈ xs, x.size ≤ 4096) (hD : DLn 0 w) :
    Calls Tryz.prog 64 #[.slice (some ⟨g, 0, none⟩) xs.length xs.length] w fun e w' => DevOut w (devP (xs.map (·.data.toList))) e w' := by
  have KO : ∀ (s0 : ByteArray) (n : Nat) (k : Int), 0 < n → w.cell? ⟨g, 0, none⟩ = some (.string s0) → kindL dlines s0.data.toList (n : Int) = k → ∀ W, Below w.heap.size w W → Calls Tryz.prog 98 #[.slice (some ⟨g, 0, none⟩) n n] W fun e w' => e = .returned (kindV k) ∧ Below W.heap.size W w' := fun s0 n k hn hc hk W hb => by
    have := kindOf_any g n s0 W hn ((hb.cell (p := ⟨g, 0, none⟩) (World.block_lt_of_cell? w _ hc)).trans hc) (hD.below hb hD.lt)
    rw [bytes_list, hk] at this
    exact this
  have mx : ∀ x : ByteArray, x.size ≤ 4096 → x.size ≤ maxLen := fun x hx => by unfold maxLen; omega
  match xs, hx, T, hs with
  | [s0], _, T, hs =>
    exact pd_0 g 1 [s0] w T (KO s0 1 0 (by omega) (T.2 0 s0 rfl) (kind_few (by decide) (by decide) (by decide)))
  | [s0, s1], _, T, hs =>
    have k0 := KO s0 2
    rw [show ((2 : Nat) : Int) = 2 from rfl, kind_two] at k0
    show Calls Tryz.prog 64 #[.slice (some ⟨g, 0, none⟩) 2 2] w fun e w' => DevOut w (devP [s0.data.toList, s1.data.toList]) e w'
    rw [devP, nameOk_eta]
    by_cases h2 : s0.data.toList = kwB 2
    · rcases hn : nameOk s1 with _ | _
      · exact pd_bad g 2 2 s0 s1 [] w (by omega) hn T (k0 2 (by omega) (T.2 0 s0 rfl) (if_pos h2))
      · rw [if_pos rfl, if_pos h2, mkDv_name (by omega) (mx s1 (hs s1 (by simp)))]
        exact pd_2 g s0 s1 w hn (hs s1 (by simp)) T (k0 2 (by omega) (T.2 0 s0 rfl) (if_pos h2)) _
    · by_cases h3 : s0.data.toList = kwB 3
      · rcases hn : nameOk s1 with _ | _
        · exact pd_bad g 2 3 s0 s1 [] w (by omega) hn T (k0 3 (by omega) (T.2 0 s0 rfl) (by rw [if_neg h2, if_pos h3]))
        · rw [if_pos rfl, if_neg h2, if_pos h3, mkDv_name (by omega) (mx s1 (hs s1 (by simp)))]
          exact pd_3 g s0 s1 w hn (hs s1 (by simp)) T (k0 3 (by omega) (T.2 0 s0 rfl) (by rw [if_neg h2, if_pos h3])) _
      · have e : (if nameOk s1 = true then (if s0.data.toList = kwB 2 then mkDv s1.data.toList 2 0 0 [] else if s0.data.toList = kwB 3 then mkDv s1.data.toList 3 0 0 [] else none) else none) = none := by
          rw [if_neg h2, if_neg h3]
          split <;> rfl
        rw [e]
        exact pd_0 g 2 [s0, s1] w T (k0 0 (by omega) (T.2 0 s0 rfl) (by rw [if_neg h2, if_neg h3]))
  | [s0, s1, s2], _, T, hs =>
    have k0 := KO s0 3
    rw [show ((3 : Nat) : Int) = 3 from rfl, kind_three] at k0
    show Calls Tryz.prog 64 #[.slice (some ⟨g, 0, none⟩) 3 3] w fun e w' => DevOut w (devP [s0.data.toList, s1.data.toList, s2.data.toList]) e w'
    rw [devP, nameOk_eta]
    by_cases h1 : s0.data.toList = kwB 1
    · have kk := k0 1 (by omega) (T.2 0 s0 rfl) (if_pos h1)
      rcases hn : nameOk s1 with _ | _
      · exact pd_bad g 3 1 s0 s1 [s2] w (by omega) hn T kk
      · rw [if_pos rfl, if_pos h1]
        rcases ho : pnum s2.data.toList with _ | ad
        · exact pd_1n g s0 s1 s2 w hn (hs s1 (by simp)) (hs s2 (by simp)) ho T kk
        · rw [Option.bind_some, mkDv_name (by omega) (mx s1 (hs s1 (by simp)))]
          exact pd_1 g s0 s1 s2 ad w hn (hs s1 (by simp)) (hs s2 (by simp)) ho T kk _
    · have e : (if nameOk s1 = true then (if s0.data.toList = kwB 1 then (pnum s2.data.toList).bind fun ad => mkDv s1.data.toList 1 ad 0 [] else none) else none) = none := by
        rw [if_neg h1]
        split <;> rfl
      rw [e]
      exact pd_0 g 3 [s0, s1, s2] w T (k0 0 (by omega) (T.2 0 s0 rfl) (if_neg h1))
  | [s0, s1, s2, s3], _, T, hs =>
    have k0 := KO s0 4
    rw [show ((4 : Nat) : Int) = 4 from rfl, kind_four] at k0
    show Calls Tryz.prog 64 #[.slice (some ⟨g, 0, none⟩) 4 4] w fun e w' => DevOut w (devP [s0.data.toList, s1.data.toList, s2.data.toList, s3.data.toList]) e w'
    rw [devP, nameOk_eta]
    have PN : Hid (∀ w, Calls Tryz.prog 63 #[.string s2] w fun e w' => e = .returned (.tuple #[.int .i64 ((pnum s2.data.toList).getD 0), .bool (pnum s2.data.toList).isSome]) ∧ w' = w) := fun w => parseNumber_any s2 w (mx s2 (hs s2 (by simp)))
    by_cases h4 : s0.data.toList = kwB 4
    · have kk := k0 4 (by omega) (T.2 0 s0 rfl) (if_pos h4)
      rcases hn : nameOk s1 with _ | _
      · exact pd_bad g 4 4 s0 s1 [s2, s3] w (by omega) hn T kk
      · rw [if_pos rfl, if_pos h4]
        have P0 := fun w => parsePool_any s3 w (hs s3 (by simp))
        have L0 : ∀ z, ppool s3.data.toList = some z → z < 256 := fun z hz => ppool_lt hz
        rcases ho : ppool s3.data.toList with _ | z
        · rw [ho] at P0
          have := pd_4 g s0 s1 s2 s3 _ 0 _ false w hn (hs s1 (by simp)) PN P0 T kk (mx s1 (hs s1 (by simp))) (by omega)
          rw [Bool.and_false] at this
          have e : ((pnum s2.data.toList).bind fun ad => (none : Option Nat).bind fun pl => mkDv s1.data.toList 4 ad pl []) = none := by cases pnum s2.data.toList <;> rfl
          rw [e]
          exact this
        · rw [ho] at P0
          have hz := L0 z ho
          have := pd_4 g s0 s1 s2 s3 _ z _ true w hn (hs s1 (by simp)) PN P0 T kk (mx s1 (hs s1 (by simp))) hz
          rw [Bool.and_true] at this
          rcases hp : pnum s2.data.toList with _ | ad
          · rw [hp] at this
            exact this
          · rw [hp] at this
            rw [Option.bind_some, Option.bind_some, mkDv_name hz (mx s1 (hs s1 (by simp)))]
            exact this
    · by_cases h5 : s0.data.toList = kwB 5
      · have kk := k0 5 (by omega) (T.2 0 s0 rfl) (by rw [if_neg h4, if_pos h5])
        rcases hn : nameOk s1 with _ | _
        · exact pd_bad g 4 5 s0 s1 [s2, s3] w (by omega) hn T kk
        · rw [if_pos rfl, if_neg h4, if_pos h5]
          have P0 := fun w => parseNumbers_any s3 w (hs s3 (by simp))
          rcases ho : pnums s3.data.toList with _ | l
          · rw [ho] at P0
            have := pd_5 g s0 s1 s2 s3 _ [] _ false w hn (hs s1 (by simp)) PN (fun w => (P0 w).mono fun e w' h => ⟨h.1, _, h.2, ⟨rfl, .inl ⟨rfl, rfl⟩⟩⟩) T kk (mx s1 (hs s1 (by simp))) (by simp)
            rw [Bool.and_false] at this
            have e : ((pnum s2.data.toList).bind fun ad => (none : Option (List Int)).bind fun bs => mkDv s1.data.toList 5 ad 0 bs) = none := by cases pnum s2.data.toList <;> rfl
            rw [e]
            exact this
          · rw [ho] at P0
            have hll : l.length ≤ 4097 := by
              rcases Nat.lt_or_ge 4097 l.length with h | h
              · exact absurd (pnums_len ho) (by have := hs s3 (by simp); rw [Lib.size_eq] at this; omega)
              · exact h
            have := pd_5 g s0 s1 s2 s3 _ l _ true w hn (hs s1 (by simp)) PN (fun w => (P0 w).mono fun e w' h => ⟨h.1, h.2.2⟩) T kk (mx s1 (hs s1 (by simp))) hll
            rw [Bool.and_true] at this
            rcases hp : pnum s2.data.toList with _ | ad
            · rw [hp] at this
              exact this
            · rw [hp] at this
              rw [Option.bind_some, Option.bind_some, mkDv_name (by omega) (mx s1 (hs s1 (by simp)))]
              exact this
      · have e : (if nameOk s1 = true then (if s0.data.toList = kwB 4 then (pnum s2.data.toList).bind fun ad => (ppool s3.data.toList).bind fun pl => mkDv s1.data.toList 4 ad pl [] else if s0.data.toList = kwB 5 then (pnum s2.data.toList).bind fun ad => (pnums s3.data.toList).bind fun bs => mkDv s1.data.toList 5 ad 0 bs else none) else none) = none := by
          rw [if_neg h4, if_neg h5]
          split <;> rfl
        rw [e]
        exact pd_0 g 4 [s0, s1, s2, s3] w T (k0 0 (by omega) (T.2 0 s0 rfl) (by rw [if_neg h4, if_neg h5]))
  | s0 :: s1 :: s2 :: s3 :: s4 :: r, _, T, hs =>
    have hl : (s0 :: s1 :: s2 :: s3 :: s4 :: r).length = r.length + 5 := by simp
    rw [hl]
    exact pd_0 g (r.length + 5) _ w T (KO s0 (r.length + 5) 0 (by omega) (T.2 0 s0 rfl) (kind_few (by omega) (by omega) (by omega)))
end Go.Proofs.YthofdiacncgbkaaGreatDoor
