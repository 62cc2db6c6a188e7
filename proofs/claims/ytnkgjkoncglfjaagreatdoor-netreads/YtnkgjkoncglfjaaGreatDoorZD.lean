/-
  Texts of nets: a number is read; a text at one byte is split.
-/
import Derived.Test.YtnkgjkoncglfjaaGreatDoorZB
import Derived.Test.YtnkgjkoncglfjaaGreatDoorZC
namespace Go.Proofs.YtnkgjkoncglfjaaGreatDoor
open Go.RowKit


theorem split_wide (s : ByteArray) (c : UInt8) (w : World) (hs : s.size ≤ 4096) :
    Calls Tryz.prog 21 #[.string s, .string ⟨#[c]⟩] w fun e w' => ∃ xs : List ByteArray, Hid (xs.map (·.data.toList) = Mt.spl c s.data.toList) ∧ xs.length ≤ 4097 ∧ e = .returned (.slice (some ⟨w.heap.size, 0, none⟩) xs.length xs.length) ∧ w' = w.alloc (.cells (xs.map Value.string).toArray 9) := by
  have h1 : 1 ≤ (⟨#[c]⟩ : ByteArray).size := Nat.le_refl 1
  have hle := Lib.countB_le ⟨#[c]⟩ h1 s.size s (Nat.le_refl _)
  have hlen := Lib.splitB_all ⟨#[c]⟩ h1 0 _ s rfl
  have k := Any.strings_genSplit_core Tryz.lays221 (by kernel_rfl) s ⟨#[c]⟩ 0 (-1) (Lib.countB s ⟨#[c]⟩ + 1) w (by omega) h1 (Nat.zero_le _)
    (fun x cc _ => by
      have := Tryz.strings_Index_one x c (w.alloc (.cells cc 9))
      rw [← Lib.index_one] at this
      exact this)
    (by
      have := Tryz.strings_Count_one s c w
      refine this.mono fun e w' ⟨he, hw⟩ => ⟨?_, hw⟩
      rw [he]
      show _ = Ending.returned (Value.int .i64 ((Lib.count s.data.toList [c] : Nat) : Int))
      rw [Lib.count_one]
      rfl) (by decide) (by decide) (by rw [if_pos (by decide)]; omega)
  rw [Nat.add_sub_cancel, hlen] at k
  have e2 : Lib.cellsOf (Lib.splitB ⟨#[c]⟩ 0 (Lib.countB s ⟨#[c]⟩) s) (Lib.countB s ⟨#[c]⟩ + 1) = ((Lib.splitB ⟨#[c]⟩ 0 (Lib.countB s ⟨#[c]⟩) s).map Value.string).toArray := by rw [← hlen]; exact Lib.cellsOf_full _
  rw [e2] at k
  have hd : (Lib.splitB ⟨#[c]⟩ 0 (Lib.countB s ⟨#[c]⟩) s).map (·.data.toList) = Mt.spl c s.data.toList := by
    rw [Lib.splitB_data]
    show Lib.splitK [c] 0 (Lib.count s.data.toList [c]) s.data.toList = _
    exact splitK_spl c _ _ (Lib.count_one c _).symm
  rw [← hlen] at k
  generalize Lib.splitB ⟨#[c]⟩ 0 (Lib.countB s ⟨#[c]⟩) s = xs at *
  have K : Hid (Calls Tryz.prog 39 #[.string s, .string ⟨#[c]⟩, .int .i64 0, .int .i64 (-1)] w fun e w' => e = .returned (.slice (some ⟨w.heap.size, 0, none⟩) xs.length xs.length) ∧ w' = w.alloc (.cells (xs.map Value.string).toArray 9)) := k
  have hl2 : xs.length ≤ 4097 := by omega
  clear k hle hlen e2 h1
  have HD : Hid (xs.map (·.data.toList) = Mt.spl c s.data.toList) := hd
  clear hd
  go_enter Tryz.func21, Tryz.ntmps21
  go_wp2_with fail
  refine K.out.mono ?_
  rintro e w' ⟨rfl, rfl⟩
  go_wp2_with fail
  go_ret
  exact ⟨xs, HD, hl2, rfl, rfl⟩

/-- append, of one cell that was just laid, to a row of the call's own. -/
theorem app_wide {t e : TypeId} {z : Value} {bytes : Nat} (hu : Tryz.prog.underlying t = some (.slice e)) (hinfo : (Tryz.prog.info? e).map (fun i => (i.zero, i.size, i.bytes)) = some (some z, 1, bytes)) (hz1 : z.cells = #[z])  (hby2 : bytes ≤ 16)
    {base n : Nat} {w : World} {v u : Value} {xs : List Value} (ty : TypeId) (h : w.ownsRow base e 1 v n xs) (hu1 : u.oneCell' = true) (hn : n ≤ 5000) (hb : base ≤ w.heap.size) :
    ∃ v' w', (Builtin.append_ #[t, t] ty #[v, .slice (some ⟨w.heap.size, 0, none⟩) 1 1]).run Tryz.prog (w.alloc (.cells #[u] e)) = .ok v' w' ∧ w'.ownsRow base e 1 v' (n + 1) (xs ++ [u]) ∧ Below base w w' := by
  obtain ⟨i0, hi, hz0, hz1', hz2⟩ := info_parts hinfo
  have hA : Below w.heap.size w (w.alloc (.cells #[u] e)) := (Below.refl _ _).alloc (Nat.le_refl _) _
  have ho : (w.alloc (.cells #[u] e)).ownsRow base e 1 v n xs := by
    refine ⟨h.1, ?_⟩
    rcases h.2 with k | ⟨g, cap, cur, h1, h2, h3, h4⟩
    · exact Or.inl k
    · exact Or.inr ⟨g, cap, cur, h1, h2, by rw [hA.block g (Array.getElem?_eq_some_iff.1 h3).1]; exact h3, h4⟩
  obtain ⟨v', w', hr, h4, h5, _⟩ := run_append_own (P := Tryz.prog) (w.alloc (.cells #[u] e)) base t ty e i0 z 1 bytes hu hi hz0 hz1' hz2 (by rw [hz1]; rfl) (by decide) v n xs ho ⟨w.heap.size, 0, none⟩ 1 1 [u] rfl (fun j x hj => by
    match j, hj with
    | 0, hj => obtain rfl := Option.some.inj hj; simp [Addr.add, go_sem]) (fun x hx => by
      simp only [List.mem_cons, List.not_mem_nil, or_false] at hx
      subst hx
      exact hu1) (by unfold maxLen; omega) (by
      have : (n + 1) * bytes ≤ 5001 * 16 := Nat.mul_le_mul (by omega) hby2
      omega) (by simp; omega)
  refine ⟨v', w', hr, h4, ?_⟩
  refine ((Below.refl base w).alloc hb (.cells #[u] e)).grown h5 (by simp; omega) (fun k e => (ho.lt k e).1)

def pnV (o : Option Int) : Value := .tuple #[.int .i64 (o.getD 0), .bool o.isSome]
set_option maxHeartbeats 1000000 in
theorem parseNumber_any (s : ByteArray) (w : World) (hm : s.size ≤ maxLen) :
    Calls Tryz.prog 45 #[.string s] w fun e w' => e = .returned (pnV (pnum s.data.toList)) ∧ w' = w := by
  have N : Hid (∀ w, Calls Tryz.prog 77 #[.string s] w fun e w' => e = .returned (numV (Pk.num s.data.toList)) ∧ w' = w) := fun w => number_any s w hm
  unfold pnum
  generalize Pk.num s.data.toList = o at *
  cases o with
  | none =>
    go_enter Tryz.func45, Tryz.ntmps45
    go_wp2_with fail
    refine (N.out _).mono ?_
    rintro e w1 ⟨rfl, rfl⟩
    unfold numV
    go_wp2_with fail
    go_ret2
    exact ⟨rfl, rfl⟩
  | some n =>
    by_cases h : n < 100
    · have h1 : ¬ (100 : Int) ≤ (n : Int) := by omega
      simp only [h, if_true]
      go_enter Tryz.func45, Tryz.ntmps45
      go_wp2_with fail
      refine (N.out _).mono ?_
      rintro e w1 ⟨rfl, rfl⟩
      unfold numV
      go_wp2_with fail
      go_ret2
      exact ⟨rfl, rfl⟩
    · have h1 : (100 : Int) ≤ (n : Int) := by omega
      simp only [h, if_false]
      go_enter Tryz.func45, Tryz.ntmps45
      go_wp2_with fail
      refine (N.out _).mono ?_
      rintro e w1 ⟨rfl, rfl⟩
      unfold numV
      go_wp2_with fail
      go_ret2
      exact ⟨rfl, rfl⟩
end Go.Proofs.YtnkgjkoncglfjaaGreatDoor



namespace Go.Proofs.YtnkgjkoncglfjaaGreatDoor
open Go.RowKit

theorem pnumsL_no {x : List UInt8} {r : List (List UInt8)} (h : pnum x = none) : pnumsL (x :: r) = none := by
  rw [pnumsL, h]
theorem pnumsL_yes {x : List UInt8} {n : Int} {r : List (List UInt8)} (h : pnum x = some n) : pnumsL (x :: r) = (pnumsL r).map (n :: ·) := by
  rw [pnumsL, h]
  cases pnumsL r <;> rfl
theorem own_mono {w : World} {B B' e size n : Nat} {v : Value} {xs : List Value} (h : w.ownsRow B e size v n xs) (hb : B' ≤ B) : w.ownsRow B' e size v n xs := by
  refine ⟨h.1, ?_⟩
  rcases h.2 with k | ⟨g, cap, cur, h1, h2, h3⟩
  · exact Or.inl k
  · exact Or.inr ⟨g, cap, cur, h1, by omega, h3⟩
/-- What a list of numbers is told as. -/
def NumsOut (w : World) (o : Option (List Int)) (e : Ending) (w' : World) : Prop :=
  Below w.heap.size w w' ∧ match o with
    | none => e = .returned (.tuple #[.slice none 0 0, .bool false])
    | some l => l.length ≤ 4097 ∧ ∃ v, e = .returned (.tuple #[v, .bool true]) ∧ w'.ownsRow w.heap.size 3 1 v l.length (intsC l)
set_option maxHeartbeats 4000000 in
set_option maxRecDepth 100000 in
theorem parseNumbers_any (s : ByteArray) (w : World) (hs : s.size ≤ 4096) :
    Calls Tryz.prog 82 #[.string s] w fun e w' => NumsOut w (pnums s.data.toList) e w' := by
  have SP : Hid (∀ w, Calls Tryz.prog 21 #[.string s, .string ⟨#[44]⟩] w fun e w' => ∃ xs : List ByteArray, Hid (xs.map (·.data.toList) = Mt.spl 44 s.data.toList) ∧ xs.length ≤ 4097 ∧ e = .returned (.slice (some ⟨w.heap.size, 0, none⟩) xs.length xs.length) ∧ w' = w.alloc (.cells (xs.map Value.string).toArray 9)) := fun w => split_wide s 44 w hs
  go_enter Tryz.func82, Tryz.ntmps82
  go_wp2_with fail
  refine (SP.out _).mono ?_
  rintro e w1 ⟨xs, hx, hl, rfl, rfl⟩
  have T1 := texts_new w xs 9
  have D1 := Below.alloc' (Below.refl w.heap.size w) (.cells (xs.map Value.string).toArray 9)
  have HP : Hid (∀ (j : Nat) x, xs[j]? = some x → x.size ≤ 4096) := fun j x hj => by
    have := spl_len 44 s.data.toList x.data.toList (by rw [← hx.out]; exact List.mem_map.2 ⟨x, List.mem_of_getElem? hj, rfl⟩)
    rw [← Lib.size_eq, ← Lib.size_eq] at this
    omega
  have PS : Hid (pnums s.data.toList = pnumsL (xs.map (·.data.toList))) := by show _ = _; unfold pnums; rw [hx.out]
  clear hx SP
  generalize w.alloc (.cells (xs.map Value.string).toArray 9) = w1 at *
  go_wp2_with fail
  go_loopw [4, 12] (fun v i wr => ∃ (k : Nat) (l : List Int), i = .int .i64 (k : Int) ∧ k ≤ xs.length ∧ l.length = k ∧ Hid (pnumsL (xs.map (·.data.toList)) = (pnumsL ((xs.map (·.data.toList)).drop k)).map (l ++ ·)) ∧ wr.ownsRow w1.heap.size 3 1 v l.length (intsC l) ∧ Below w1.heap.size w1 wr) (fun _ i _ => xs.length - (intOf i).toNat)
  case atStart => exact ⟨0, [], rfl, Nat.zero_le _, rfl, by show _ = _; rw [List.drop_zero]; cases pnumsL (xs.map (·.data.toList)) <;> simp, ⟨rfl, .inl ⟨rfl, rfl⟩⟩, Below.refl _ _⟩
  case round =>
    obtain ⟨k, l, rfl, hk, hlk, HA, O1, hbw⟩ := hrel
    have D2 := D1.trans (hbw.mono D1.size)
    by_cases hlt : k < xs.length
    · obtain ⟨x, hxk⟩ : ∃ x, xs[k]? = some x := ⟨xs[k], List.getElem?_eq_getElem hlt⟩
      have hc := (keepTexts hbw T1).2 k x hxk
      have hdrop : (xs.map (·.data.toList)).drop k = x.data.toList :: (xs.map (·.data.toList)).drop (k + 1) := by
        rw [List.drop_eq_getElem_cons (by simpa using hlt)]
        congr 1
        rw [List.getElem_map]
        rw [List.getElem?_eq_getElem hlt] at hxk
        rw [Option.some.inj hxk]
      have PN := fun w => parseNumber_any x w (by have := HP.out k x hxk; unfold maxLen; omega)
      rcases ho : pnum x.data.toList with _ | n
      · have HV : Hid (pnumsL (xs.map (·.data.toList)) = none) := by
          show _ = _
          rw [HA.out, hdrop, pnumsL_no ho]
          rfl
        have PR : Hid (∀ w, Calls Tryz.prog 45 #[.string x] w fun e w' => e = .returned (.tuple #[.int .i64 0, .bool false]) ∧ w' = w) := fun w => by
          have := PN w
          rw [ho] at this
          exact this
        clear PN ho hdrop HA HP T1 hlk O1
        go_wp2_with fail
        refine (PR.out _).mono ?_
        rintro e w2 ⟨rfl, rfl⟩
        go_wp2_with fail
        go_ret2
        rw [PS.out, HV.out]
        exact ⟨D2, rfl⟩
      · have HV : Hid (pnumsL (xs.map (·.data.toList)) = (pnumsL ((xs.map (·.data.toList)).drop (k + 1))).map ((l ++ [n]) ++ ·)) := by
          show _ = _
          rw [HA.out, hdrop, pnumsL_yes ho, Option.map_map]
          congr 1
          funext r
          simp
        have PR : Hid (∀ w, Calls Tryz.prog 45 #[.string x] w fun e w' => e = .returned (.tuple #[.int .i64 n, .bool true]) ∧ w' = w) := fun w => by
          have := PN w
          rw [ho] at this
          exact this
        obtain ⟨v2, w2, r2, O2, hb2⟩ := app_wide (t := 46) (e := 3) Tryz.underlying46 Tryz.infoIntN rfl (by omega) 46 O1 (u := .int .i64 n) rfl (by omega) hbw.size
        have O3 : w2.ownsRow w1.heap.size 3 1 v2 (l ++ [n]).length (intsC (l ++ [n])) := by
          have e : (l ++ [n]).length = l.length + 1 := by simp
          rw [e]
          have e2 : intsC (l ++ [n]) = intsC l ++ [.int .i64 n] := by simp [intsC]
          rw [e2]
          exact O2
        have hb3 := hbw.trans hb2
        clear PN ho hdrop HA HP T1 O1 O2 hbw hb2 D2
        go_wp2_with fail
        refine (PR.out _).mono ?_
        rintro e w3 ⟨rfl, rfl⟩
        go_wp2_with (at_builtin; refine append_run2 rfl _ _ 46 rfl rfl rfl r2 ?_)
        go_roundw
        case rel => first | exact ⟨k + 1, l ++ [n], by go_num, by omega, by simp [hlk], HV, O3, hb3⟩ | ((repeat apply Exists.intro); exact ⟨⟨k + 1, l ++ [n], by go_num, by omega, by simp [hlk], HV, O3, hb3⟩, rfl⟩)
        case measure => simp [intOf]; omega
    · have HV : Hid (pnumsL (xs.map (·.data.toList)) = some l) := by
        show _ = _
        rw [HA.out, List.drop_of_length_le (by simp; omega), pnumsL]
        simp
      clear HA HP T1
      go_wp2_with fail
      go_ret2
      rw [PS.out, HV.out]
      exact ⟨D2, by omega, _, rfl, own_mono O1 D1.size⟩
end Go.Proofs.YtnkgjkoncglfjaaGreatDoor



namespace Go.Proofs.YtnkgjkoncglfjaaGreatDoor
open Go.RowKit

theorem pnum_range {l : List UInt8} {n : Int} (h : pnum l = some n) : 0 ≤ n ∧ n < 100 := by
  unfold pnum at h
  split at h
  · split at h
    · obtain rfl := Option.some.inj h
      omega
    · cases h
  · cases h
theorem pnumsL_range : ∀ {L : List (List UInt8)} {l : List Int}, pnumsL L = some l → ∀ x ∈ l, 0 ≤ x ∧ x < 100
  | [], l, h, x, hx => by
    obtain rfl := Option.some.inj h
    simp at hx
  | y :: r, l, h, x, hx => by
    rcases ho : pnum y with _ | n
    · rw [pnumsL_no ho] at h
      cases h
    · rw [pnumsL_yes ho] at h
      obtain ⟨t, ht, rfl⟩ := Option.map_eq_some_iff.1 h
      rcases List.mem_cons.1 hx with rfl | hx
      · exact pnum_range ho
      · exact pnumsL_range ht x hx
theorem pnums_range {s : List UInt8} {l : List Int} (h : pnums s = some l) : ∀ x ∈ l, 0 ≤ x ∧ x < 100 := pnumsL_range h
def poolV : Option Nat → Value
  | none => .tuple #[.int .u8 0, .bool false]
  | some z => .tuple #[.int .u8 (z : Int), .bool true]
theorem or_bit (z q : Nat) (hz : z < 256) (hq : q < 8) : Go.bits .or .u8 (z : Int) ((2 : Int) ^ q % 256) = ((z ||| 2 ^ q : Nat) : Int) := by
  have : q = 0 ∨ q = 1 ∨ q = 2 ∨ q = 3 ∨ q = 4 ∨ q = 5 ∨ q = 6 ∨ q = 7 := by omega
  rcases this with rfl | rfl | rfl | rfl | rfl | rfl | rfl | rfl
  all_goals
    revert z
    decide +kernel
theorem or_lt (z q : Nat) (hz : z < 256) (hq : q < 8) : z ||| 2 ^ q < 256 := Nat.or_lt_two_pow (n := 8) hz (Nat.pow_lt_pow_right (by omega) hq)
set_option maxHeartbeats 4000000 in
set_option maxRecDepth 100000 in
theorem parsePool_any (s : ByteArray) (w : World) (hs : s.size ≤ 4096) :
    Calls Tryz.prog 81 #[.string s] w fun e w' => e = .returned (poolV (ppool s.data.toList)) ∧ Below w.heap.size w w' := by
  have PN := fun w => parseNumbers_any s w hs
  have RG := fun l h => pnums_range (s := s.data.toList) (l := l) h
  unfold ppool
  rcases ho : pnums s.data.toList with _ | l
  · have PR : Hid (∀ w, Calls Tryz.prog 82 #[.string s] w fun e w' => e = .returned (.tuple #[.slice none 0 0, .bool false]) ∧ Below w.heap.size w w') := fun w => by
      have := PN w
      rw [ho] at this
      exact this.mono fun e w' h => ⟨h.2, h.1⟩
    clear PN RG ho
    go_enter Tryz.func81, Tryz.ntmps81
    go_wp2_with fail
    refine (PR.out _).mono ?_
    rintro e w1 ⟨rfl, hb1⟩
    go_wp2_with fail
    go_ret2
    exact ⟨rfl, hb1⟩
  · have PR : Hid (∀ w, Calls Tryz.prog 82 #[.string s] w fun e w' => l.length ≤ 4097 ∧ Below w.heap.size w w' ∧ ∃ v, e = .returned (.tuple #[v, .bool true]) ∧ w'.ownsRow w.heap.size 3 1 v l.length (intsC l)) := fun w => by
      have := PN w
      rw [ho] at this
      exact this.mono fun e w' h => ⟨h.2.1, h.1, h.2.2⟩
    have HR : Hid (∀ x ∈ l, 0 ≤ x ∧ x < 100) := RG l ho
    clear PN RG ho
    show Calls Tryz.prog 81 #[.string s] w fun e w' => e = .returned (poolV (poolP l 0)) ∧ Below w.heap.size w w'
    go_enter Tryz.func81, Tryz.ntmps81
    go_wp2_with fail
    refine (PR.out _).mono ?_
    rintro e w1 ⟨hl, hb1, v, rfl, O1⟩
    have S1 := ints_own O1
    obtain ⟨A, cap, rfl, c0, c1, c2, c3⟩ := S1
    clear O1 PR
    go_wp2_with fail
    go_loopw [6, 18] (fun z i wr => ∃ (k y : Nat), z = .int .u8 (y : Int) ∧ i = .int .i64 (k : Int) ∧ k ≤ l.length ∧ y < 256 ∧ Hid (poolP l 0 = poolP (l.drop k) y) ∧ wr = w1) (fun _ i _ => l.length - (intOf i).toNat)
    case atStart => exact ⟨0, 0, rfl, rfl, Nat.zero_le _, by omega, rfl, rfl⟩
    case round =>
      obtain ⟨k, y, rfl, rfl, hk, hy, HA, rfl⟩ := hrel
      by_cases hlt : k < l.length
      · obtain ⟨x, hxk⟩ : ∃ x, l[k]? = some x := ⟨l[k], List.getElem?_eq_getElem hlt⟩
        obtain ⟨b, o, rfl, hbl, hr⟩ := c3 (by intro e; subst e; simp at hlt)
        obtain ⟨cs, e1, e2, e3⟩ := hr k x hxk
        obtain ⟨q, rfl⟩ : ∃ q : Nat, x = (q : Int) := ⟨x.toNat, by have := HR.out x (List.mem_of_getElem? hxk); omega⟩
        have hc : wr.cell? ⟨b, o + k, none⟩ = some (.int .i64 (q : Int)) := by
          have e4 : cs = [.int .i64 (q : Int)] := e2
          subst e4
          simpa using e3 0 _ rfl
        have hdrop : l.drop k = (q : Int) :: l.drop (k + 1) := by
          rw [List.drop_eq_getElem_cons hlt]
          congr 1
          rw [List.getElem?_eq_getElem hlt] at hxk
          exact Option.some.inj hxk
        clear hr e1 e2 e3 c3
        by_cases hq : 8 ≤ q
        · have hq1 : (8 : Int) ≤ (q : Int) := by omega
          have HV : Hid (poolP l 0 = none) := by
            show _ = _
            rw [HA.out, hdrop, poolP, if_pos (.inl hq1)]
          clear HA hdrop HR
          go_wp2_with fail
          go_ret2
          rw [HV.out]
          exact ⟨rfl, hb1⟩
        · have hq1 : ¬ (8 : Int) ≤ (q : Int) := by omega
          have k1 : (0 : Int) ≤ (q : Int) := by omega
          have k2 : (q : Int) < 8 := by omega
          have hbt := bit8 y q hy
          cases ht : y.testBit q
          · rw [ht] at hbt
            have HV : Hid (poolP l 0 = poolP (l.drop (k + 1)) (y ||| 2 ^ q)) := by
              show _ = _
              rw [HA.out, hdrop, poolP, if_neg (by rw [Int.toNat_natCast, ht]; simp; omega), Int.toNat_natCast]
            have HM := or_bit y q hy (by omega)
            have HL := or_lt y q hy (by omega)
            clear HA hdrop HR ht
            go_wp2_with fail
            go_roundw
            case rel => exact ⟨k + 1, y ||| 2 ^ q, rfl, by go_num, by omega, HL, HV, trivial⟩
            case measure => simp [intOf]; omega
          · rw [ht] at hbt
            have HV : Hid (poolP l 0 = none) := by
              show _ = _
              rw [HA.out, hdrop, poolP, if_pos (.inr (by rw [Int.toNat_natCast, ht]))]
            clear HA hdrop HR ht
            go_wp2_with fail
            go_ret2
            rw [HV.out]
            exact ⟨rfl, hb1⟩
      · have HV : Hid (poolP l 0 = some y) := by
          show _ = _
          rw [HA.out, List.drop_of_length_le (by omega), poolP]
        clear HA HR c3
        go_wp2_with fail
        go_ret2
        rw [HV.out]
        exact ⟨rfl, hb1⟩
end Go.Proofs.YtnkgjkoncglfjaaGreatDoor



namespace Go.Proofs.YtnkgjkoncglfjaaGreatDoor
open Go.RowKit

def ThreeU (w : World) (n : Nat) (a b c : Value) : Prop :=
  n < w.heap.size ∧ (w.cell? ⟨n, 0, none⟩ = some a ∧ w.cell? ⟨n, 1, none⟩ = some b ∧ w.cell? ⟨n, 2, none⟩ = some c) ∧ w.frozen? ⟨n, 0, none⟩ = false ∧ w.frozen? ⟨n, 1, none⟩ = false ∧ w.frozen? ⟨n, 2, none⟩ = false
theorem keepThreeU {W w' : World} {n : Nat} {a b c : Value} (hb : Below W.heap.size W w') (h : ThreeU W n a b c) : ThreeU w' n a b c := by
  obtain ⟨h0, ⟨h1, h2, h3⟩, k1, k2, k3⟩ := h
  exact ⟨Nat.lt_of_lt_of_le h0 hb.size, ⟨(hb.cell (p := ⟨n, 0, none⟩) h0).trans h1, (hb.cell (p := ⟨n, 1, none⟩) h0).trans h2, (hb.cell (p := ⟨n, 2, none⟩) h0).trans h3⟩, (hb.frozen (p := ⟨n, 0, none⟩) h0).trans k1, (hb.frozen (p := ⟨n, 1, none⟩) h0).trans k2, (hb.frozen (p := ⟨n, 2, none⟩) h0).trans k3⟩
theorem threeU_new (w : World) (a b c : Value) (t : TypeId) : ThreeU (w.alloc (.cells #[a, b, c] t)) w.heap.size a b c :=
  ⟨by simp, ⟨by simp [go_sem], by simp [go_sem], by simp [go_sem]⟩, by simp [go_sem], by simp [go_sem], by simp [go_sem]⟩
theorem below_set3 {B b : Nat} {a w : World} (h : Below B a w) (hb : B ≤ b) (v0 v1 v2 : Value) : Below B a (((w.setCell ⟨b, 0, none⟩ v0).setCell ⟨b, 1, none⟩ v1).setCell ⟨b, 2, none⟩ v2) :=
  ((h.setCell (p := ⟨b, 0, none⟩) hb v0).setCell (p := ⟨b, 1, none⟩) hb v1).setCell (p := ⟨b, 2, none⟩) hb v2
def routeA (v b p : Int) : Value := .agg #[.int .i64 v, .int .i64 b, .int .i64 p]
def routeV : Option NRoute → Value
  | none => .tuple #[routeA 0 0 0, .bool false]
  | some r => .tuple #[routeA r.v r.b r.p, .bool true]
def three (o1 o2 o3 : Option Int) : Option NRoute := o1.bind fun v => o2.bind fun n => o3.bind fun q => some ⟨v, n, q⟩
set_option maxHeartbeats 4000000 in
set_option maxRecDepth 100000 in
theorem parseRoute_go (g : Nat) (a b c x y : ByteArray) (ok : Bool) (o1 o2 o3 : Option Int) (w : World) (T : Texts w g [a, b, c])
    (C : Hid (∀ w, Calls Tryz.prog 7 #[.string b, .string ⟨#[47]⟩] w fun e w' => e = .returned (.tuple #[.string x, .string y, .bool ok]) ∧ ∃ n, w' = w.drewN n))
    (A1 : Hid (∀ w, Calls Tryz.prog 45 #[.string x] w fun e w' => e = .returned (pnV o1) ∧ w' = w))
    (A2 : Hid (∀ w, Calls Tryz.prog 45 #[.string y] w fun e w' => e = .returned (pnV o2) ∧ w' = w))
    (A3 : Hid (∀ w, Calls Tryz.prog 45 #[.string c] w fun e w' => e = .returned (pnV o3) ∧ w' = w)) :
    Calls Tryz.prog 43 #[.slice (some ⟨g, 0, none⟩) 3 3] w fun e w' => e = .returned (routeV (three o1 o2 o3)) ∧ Below w.heap.size w w' := by
  have B0 := threeU_new w (.int .i64 0) (.int .i64 0) (.int .i64 0) 60
  have D0 := Below.alloc' (Below.refl w.heap.size w) (.cells #[.int .i64 0, .int .i64 0, .int .i64 0] 60)
  have T0 := keepTexts D0 T
  have c1 := T0.2 1 b rfl
  have hsz : w.heap.size ≤ w.heap.size := Nat.le_refl _
  unfold pnV at A1 A2 A3
  go_enter Tryz.func43, Tryz.ntmps43
  generalize hW : w.alloc (.cells #[.int .i64 0, .int .i64 0, .int .i64 0] 60) = w1 at *
  go_wp2_with fail
  refine (C.out _).mono ?_
  rintro e w2 ⟨rfl, n, rfl⟩
  have B2 : ThreeU (w1.drewN n) w.heap.size (.int .i64 0) (.int .i64 0) (.int .i64 0) := B0
  have D2 := below_drewN D0 n
  have T2 : Texts (w1.drewN n) g [a, b, c] := T0
  have c2 := T2.2 2 c rfl
  clear B0 D0 T0 c1 T hW C
  generalize w1.drewN n = w2 at *
  obtain ⟨l0, ⟨k0, k1, k2⟩, f0, f1, f2⟩ := B2
  cases o1 with
  | none =>
    cases o2 <;> cases o3
    all_goals
      go_wp2_with fail
      refine (A1.out _).mono ?_
      rintro e w3 ⟨rfl, rfl⟩
      go_wp2_with fail
      refine (A2.out _).mono ?_
      rintro e w4 ⟨rfl, rfl⟩
      go_wp2_with fail
      refine (A3.out _).mono ?_
      rintro e w5 ⟨rfl, rfl⟩
      go_wp2_with fail
      exact bodyPost_ret (v := .tuple #[routeA 0 0 0, .bool false]) (by simp [results, Tryz.results43, go_sem, routeA, k0, k1, k2]) rfl ⟨rfl, below_set3 D2 hsz _ _ _⟩
  | some v =>
    cases o2 with
    | none =>
      cases o3
      all_goals
        go_wp2_with fail
        refine (A1.out _).mono ?_
        rintro e w3 ⟨rfl, rfl⟩
        go_wp2_with fail
        refine (A2.out _).mono ?_
        rintro e w4 ⟨rfl, rfl⟩
        go_wp2_with fail
        refine (A3.out _).mono ?_
        rintro e w5 ⟨rfl, rfl⟩
        go_wp2_with fail
        exact bodyPost_ret (v := .tuple #[routeA 0 0 0, .bool false]) (by simp [results, Tryz.results43, go_sem, routeA, k0, k1, k2]) rfl ⟨rfl, below_set3 D2 hsz _ _ _⟩
    | some m =>
      cases o3 with
      | none =>
        go_wp2_with fail
        refine (A1.out _).mono ?_
        rintro e w3 ⟨rfl, rfl⟩
        go_wp2_with fail
        refine (A2.out _).mono ?_
        rintro e w4 ⟨rfl, rfl⟩
        go_wp2_with fail
        refine (A3.out _).mono ?_
        rintro e w5 ⟨rfl, rfl⟩
        go_wp2_with fail
        exact bodyPost_ret (v := .tuple #[routeA 0 0 0, .bool false]) (by simp [results, Tryz.results43, go_sem, routeA, k0, k1, k2]) rfl ⟨rfl, below_set3 D2 hsz _ _ _⟩
      | some q =>
        go_wp2_with fail
        refine (A1.out _).mono ?_
        rintro e w3 ⟨rfl, rfl⟩
        go_wp2_with fail
        refine (A2.out _).mono ?_
        rintro e w4 ⟨rfl, rfl⟩
        go_wp2_with fail
        refine (A3.out _).mono ?_
        rintro e w5 ⟨rfl, rfl⟩
        go_wp2_with fail
        exact bodyPost_ret (v := .tuple #[routeA v m q, .bool true]) (by simp [results, Tryz.results43, go_sem, routeA, k0, k1, k2]) rfl ⟨rfl, below_set3 D2 hsz _ _ _⟩
set_option maxHeartbeats 1000000 in
theorem parseRoute_few (A : Option Addr) (n : Nat) (w : World) (hn : n ≠ 3) :
    Calls Tryz.prog 43 #[.slice A n n] w fun e w' => e = .returned (routeV none) ∧ Below w.heap.size w w' := by
  have hne : ((n : Int) == 3) = false := by simp; omega
  have B0 := threeU_new w (.int .i64 0) (.int .i64 0) (.int .i64 0) 60
  have D0 := Below.alloc' (Below.refl w.heap.size w) (.cells #[.int .i64 0, .int .i64 0, .int .i64 0] 60)
  have hsz : w.heap.size ≤ w.heap.size := Nat.le_refl _
  go_enter Tryz.func43, Tryz.ntmps43
  generalize hW : w.alloc (.cells #[.int .i64 0, .int .i64 0, .int .i64 0] 60) = w1 at *
  obtain ⟨l0, ⟨k0, k1, k2⟩, f0, f1, f2⟩ := B0
  go_wp2_with fail
  exact bodyPost_ret (v := .tuple #[routeA 0 0 0, .bool false]) (by simp [results, Tryz.results43, go_sem, routeA, k0, k1, k2]) rfl ⟨rfl, below_set3 D0 hsz _ _ _⟩
/-- parseRoute, of the words of a line. -/
theorem parseRoute_any (g : Nat) (xs : List ByteArray) (w : World) (T : Texts w g xs) (hs : ∀ x ∈ xs, x.size ≤ 4096) :
    Calls Tryz.prog 43 #[.slice (some ⟨g, 0, none⟩) xs.length xs.length] w fun e w' => e = .returned (routeV (routeP ((xs.map (·.data.toList)).drop 1))) ∧ Below w.heap.size w w' := by
  by_cases h3 : xs.length = 3
  · match xs, h3, T, hs with
    | [a, b, c], _, T, hs =>
      have mx : ∀ x : ByteArray, x.size ≤ 4096 → x.size ≤ maxLen := fun x hx => by unfold maxLen; omega
      have hb := hs b (by simp)
      have hc := hs c (by simp)
      show Calls Tryz.prog 43 #[.slice (some ⟨g, 0, none⟩) 3 3] w fun e w' => e = .returned (routeV (routeP [b.data.toList, c.data.toList])) ∧ Below w.heap.size w w'
      have A3 : Hid (∀ w, Calls Tryz.prog 45 #[.string c] w fun e w' => e = .returned (pnV (pnum c.data.toList)) ∧ w' = w) := fun w => parseNumber_any c w (mx c hc)
      rw [routeP]
      rcases hq : Pk.brk 47 b.data.toList with _ | ⟨x, y⟩
      · have := parseRoute_go g a b c b ⟨#[]⟩ false (pnum b.data.toList) none (pnum c.data.toList) w T (fun w => cut_none b 47 w hq) (fun w => parseNumber_any b w (mx b hb)) (fun w => parseNumber_any ⟨#[]⟩ w (by unfold maxLen; decide)) A3
        have e : three (pnum b.data.toList) none (pnum c.data.toList) = none := by unfold three; cases pnum b.data.toList <;> rfl
        rw [e] at this
        exact this
      · have hl := (Pk.brk_some 47 _ x y hq).1
        have hlen : b.size = x.length + (y.length + 1) := by rw [Lib.size_eq, hl]; simp
        have sz : ∀ l : List UInt8, (⟨l.toArray⟩ : ByteArray).size = l.length := fun l => by rw [Lib.size_eq]
        have := parseRoute_go g a b c ⟨x.toArray⟩ ⟨y.toArray⟩ true (pnum x) (pnum y) (pnum c.data.toList) w T (fun w => cut_some b 47 x y w (mx b hb) hq) (fun w => by
          have := parseNumber_any ⟨x.toArray⟩ w (mx _ (by rw [sz]; omega))
          simpa using this) (fun w => by
          have := parseNumber_any ⟨y.toArray⟩ w (mx _ (by rw [sz]; omega))
          simpa using this) A3
        exact this
  · have e : routeP ((xs.map (·.data.toList)).drop 1) = none := by
      match xs, h3 with
      | [], _ => rfl
      | [_], _ => rfl
      | [_, _], _ => rfl
      | [_, _, _], h => exact absurd rfl h
      | _ :: _ :: _ :: _ :: _, _ => rfl
    rw [e]
    exact parseRoute_few _ _ w h3
end Go.Proofs.YtnkgjkoncglfjaaGreatDoor



namespace Go.Proofs.YtnkgjkoncglfjaaGreatDoor
open Go.RowKit

def dlines : List (List UInt8 × Int × Int) := [([104, 111, 115, 116], 1, 3), ([114, 111, 117, 116, 101, 114], 2, 2), ([102, 105, 114, 101], 3, 2), ([110, 97, 116], 4, 4), ([108, 98], 5, 4)]
def kindL : List (List UInt8 × Int × Int) → List UInt8 → Int → Int
  | [], _, _ => 0
  | (t, k, m) :: r, s, n => if (t == s) && (m == n) then k else kindL r s n
theorem kindL_yes {t s : List UInt8} {k m n : Int} {r : List (List UInt8 × Int × Int)} (h1 : (t == s) = true) (h2 : (m == n) = true) : kindL ((t, k, m) :: r) s n = k := by rw [kindL, h1, h2]; rfl
theorem kindL_no1 {t s : List UInt8} {k m n : Int} {r : List (List UInt8 × Int × Int)} (h1 : (t == s) = false) : kindL ((t, k, m) :: r) s n = kindL r s n := by rw [kindL, h1]; rfl
theorem kindL_no2 {t s : List UInt8} {k m n : Int} {r : List (List UInt8 × Int × Int)} (h2 : (m == n) = false) : kindL ((t, k, m) :: r) s n = kindL r s n := by rw [kindL, h2, Bool.and_false]; rfl
def kindV (k : Int) : Value := .tuple #[.int .i64 k, .bool (k != 0)]
theorem cell_alN {w : World} {g o : Nat} {v : Value} (h : w.cell? ⟨g, o, none⟩ = some v) (x : Obj) : (w.alloc x).cell? ⟨g, o, none⟩ = some v := (((Below.refl _ w).alloc (Nat.le_refl _) x).cell (p := ⟨g, o, none⟩) (World.block_lt_of_cell? w _ h)).trans h
set_option maxHeartbeats 4000000 in
set_option maxRecDepth 100000 in
theorem kindOf_any (g n : Nat) (s : ByteArray) (w : World) (hn : 0 < n) (hc : w.cell? ⟨g, 0, none⟩ = some (.string s)) (hD : DLn 1 w) :
    Calls Tryz.prog 78 #[.slice (some ⟨g, 0, none⟩) n n] w fun e w' => e = .returned (kindV (kindL dlines s.toList (n : Int))) ∧ Below w.heap.size w w' := by
  obtain ⟨tt, fr, hg⟩ := hD
  have i0 : ∀ w, (Instr.index 142 (.agg linesC) (.int .i64 0)).run Tryz.prog w = .ok (.agg #[.string ⟨#[104, 111, 115, 116]⟩, .int .i64 1, .int .i64 3]) w := fun _ => by kernel_rfl
  have i1 : ∀ w, (Instr.index 142 (.agg linesC) (.int .i64 1)).run Tryz.prog w = .ok (.agg #[.string ⟨#[114, 111, 117, 116, 101, 114]⟩, .int .i64 2, .int .i64 2]) w := fun _ => by kernel_rfl
  have i2 : ∀ w, (Instr.index 142 (.agg linesC) (.int .i64 2)).run Tryz.prog w = .ok (.agg #[.string ⟨#[102, 105, 114, 101]⟩, .int .i64 3, .int .i64 2]) w := fun _ => by kernel_rfl
  have i3 : ∀ w, (Instr.index 142 (.agg linesC) (.int .i64 3)).run Tryz.prog w = .ok (.agg #[.string ⟨#[110, 97, 116]⟩, .int .i64 4, .int .i64 4]) w := fun _ => by kernel_rfl
  have i4 : ∀ w, (Instr.index 142 (.agg linesC) (.int .i64 4)).run Tryz.prog w = .ok (.agg #[.string ⟨#[108, 98]⟩, .int .i64 5, .int .i64 4]) w := fun _ => by kernel_rfl
  have hgl : g < w.heap.size := World.block_lt_of_cell? w _ hc
  go_enter Tryz.func78, Tryz.ntmps78
  go_wp2_with (refine wpList_load_row rfl 142 _ rfl 1 rfl tt _ fr _ hg Tryz.underlying142 rfl (by kernel_rfl) ?_)
  go_loopw [7] (fun i wr => ∃ j : Nat, i = .int .i64 (j : Int) ∧ j ≤ 5 ∧ Below w.heap.size w wr ∧ Hid (kindL dlines s.toList (n : Int) = kindL (dlines.drop j) s.toList (n : Int))) (fun i _ => 5 - (intOf i).toNat)
  case atStart => exact ⟨0, rfl, by omega, Below.refl _ _, rfl⟩
  case round =>
    obtain ⟨j, rfl, hj, D1, HA⟩ := hrel
    have hcr := (D1.cell (p := ⟨g, 0, none⟩) hgl).trans hc
    have hjj : j = 0 ∨ j = 1 ∨ j = 2 ∨ j = 3 ∨ j = 4 ∨ j = 5 := by omega
    clear hg hc hj
    rcases hjj with rfl | rfl | rfl | rfl | rfl | rfl
    · have hc2 := cell_alN hcr (.cells #[.string ⟨#[104, 111, 115, 116]⟩, .int .i64 1, .int .i64 3] 141)
      have D2 := Below.alN D1 (.cells #[.string ⟨#[104, 111, 115, 116]⟩, .int .i64 1, .int .i64 3] 141)
      rcases h1 : ([104, 111, 115, 116] == s.toList) with _ | _
      · have HV : Hid (kindL dlines s.toList (n : Int) = kindL (dlines.drop 1) s.toList (n : Int)) := HA.out.trans (kindL_no1 h1)
        clear HA
        go_wp2_with fail
        go_region
        all_goals
          go_wp2_with fail
          go_roundw
          case rel => exact ⟨1, rfl, by omega, D2.drew, HV⟩
          case measure => simp [intOf]
      · rcases h2 : ((3 : Int) == (n : Int)) with _ | _
        · have HV : Hid (kindL dlines s.toList (n : Int) = kindL (dlines.drop 1) s.toList (n : Int)) := HA.out.trans (kindL_no2 h2)
          clear HA
          go_wp2_with fail
          go_region
          all_goals
            go_wp2_with fail
            go_roundw
            case rel => exact ⟨1, rfl, by omega, D2.drew, HV⟩
            case measure => simp [intOf]
        · have HV : Hid (kindL dlines s.toList (n : Int) = 1) := HA.out.trans (kindL_yes h1 h2)
          clear HA
          go_wp2_with fail
          go_region
          all_goals
            go_wp2_with fail
            go_ret2
            rw [HV.out]
            exact ⟨rfl, D2.drew⟩
    · have hc2 := cell_alN hcr (.cells #[.string ⟨#[114, 111, 117, 116, 101, 114]⟩, .int .i64 2, .int .i64 2] 141)
      have D2 := Below.alN D1 (.cells #[.string ⟨#[114, 111, 117, 116, 101, 114]⟩, .int .i64 2, .int .i64 2] 141)
      rcases h1 : ([114, 111, 117, 116, 101, 114] == s.toList) with _ | _
      · have HV : Hid (kindL dlines s.toList (n : Int) = kindL (dlines.drop 2) s.toList (n : Int)) := HA.out.trans (kindL_no1 h1)
        clear HA
        go_wp2_with fail
        go_region
        all_goals
          go_wp2_with fail
          go_roundw
          case rel => exact ⟨2, rfl, by omega, D2.drew, HV⟩
          case measure => simp [intOf]
      · rcases h2 : ((2 : Int) == (n : Int)) with _ | _
        · have HV : Hid (kindL dlines s.toList (n : Int) = kindL (dlines.drop 2) s.toList (n : Int)) := HA.out.trans (kindL_no2 h2)
          clear HA
          go_wp2_with fail
          go_region
          all_goals
            go_wp2_with fail
            go_roundw
            case rel => exact ⟨2, rfl, by omega, D2.drew, HV⟩
            case measure => simp [intOf]
        · have HV : Hid (kindL dlines s.toList (n : Int) = 2) := HA.out.trans (kindL_yes h1 h2)
          clear HA
          go_wp2_with fail
          go_region
          all_goals
            go_wp2_with fail
            go_ret2
            rw [HV.out]
            exact ⟨rfl, D2.drew⟩
    · have hc2 := cell_alN hcr (.cells #[.string ⟨#[102, 105, 114, 101]⟩, .int .i64 3, .int .i64 2] 141)
      have D2 := Below.alN D1 (.cells #[.string ⟨#[102, 105, 114, 101]⟩, .int .i64 3, .int .i64 2] 141)
      rcases h1 : ([102, 105, 114, 101] == s.toList) with _ | _
      · have HV : Hid (kindL dlines s.toList (n : Int) = kindL (dlines.drop 3) s.toList (n : Int)) := HA.out.trans (kindL_no1 h1)
        clear HA
        go_wp2_with fail
        go_region
        all_goals
          go_wp2_with fail
          go_roundw
          case rel => exact ⟨3, rfl, by omega, D2.drew, HV⟩
          case measure => simp [intOf]
      · rcases h2 : ((2 : Int) == (n : Int)) with _ | _
        · have HV : Hid (kindL dlines s.toList (n : Int) = kindL (dlines.drop 3) s.toList (n : Int)) := HA.out.trans (kindL_no2 h2)
          clear HA
          go_wp2_with fail
          go_region
          all_goals
            go_wp2_with fail
            go_roundw
            case rel => exact ⟨3, rfl, by omega, D2.drew, HV⟩
            case measure => simp [intOf]
        · have HV : Hid (kindL dlines s.toList (n : Int) = 3) := HA.out.trans (kindL_yes h1 h2)
          clear HA
          go_wp2_with fail
          go_region
          all_goals
            go_wp2_with fail
            go_ret2
            rw [HV.out]
            exact ⟨rfl, D2.drew⟩
    · have hc2 := cell_alN hcr (.cells #[.string ⟨#[110, 97, 116]⟩, .int .i64 4, .int .i64 4] 141)
      have D2 := Below.alN D1 (.cells #[.string ⟨#[110, 97, 116]⟩, .int .i64 4, .int .i64 4] 141)
      rcases h1 : ([110, 97, 116] == s.toList) with _ | _
      · have HV : Hid (kindL dlines s.toList (n : Int) = kindL (dlines.drop 4) s.toList (n : Int)) := HA.out.trans (kindL_no1 h1)
        clear HA
        go_wp2_with fail
        go_region
        all_goals
          go_wp2_with fail
          go_roundw
          case rel => exact ⟨4, rfl, by omega, D2.drew, HV⟩
          case measure => simp [intOf]
      · rcases h2 : ((4 : Int) == (n : Int)) with _ | _
        · have HV : Hid (kindL dlines s.toList (n : Int) = kindL (dlines.drop 4) s.toList (n : Int)) := HA.out.trans (kindL_no2 h2)
          clear HA
          go_wp2_with fail
          go_region
          all_goals
            go_wp2_with fail
            go_roundw
            case rel => exact ⟨4, rfl, by omega, D2.drew, HV⟩
            case measure => simp [intOf]
        · have HV : Hid (kindL dlines s.toList (n : Int) = 4) := HA.out.trans (kindL_yes h1 h2)
          clear HA
          go_wp2_with fail
          go_region
          all_goals
            go_wp2_with fail
            go_ret2
            rw [HV.out]
            exact ⟨rfl, D2.drew⟩
    · have hc2 := cell_alN hcr (.cells #[.string ⟨#[108, 98]⟩, .int .i64 5, .int .i64 4] 141)
      have D2 := Below.alN D1 (.cells #[.string ⟨#[108, 98]⟩, .int .i64 5, .int .i64 4] 141)
      rcases h1 : ([108, 98] == s.toList) with _ | _
      · have HV : Hid (kindL dlines s.toList (n : Int) = kindL (dlines.drop 5) s.toList (n : Int)) := HA.out.trans (kindL_no1 h1)
        clear HA
        go_wp2_with fail
        go_region
        all_goals
          go_wp2_with fail
          go_roundw
          case rel => exact ⟨5, rfl, by omega, D2.drew, HV⟩
          case measure => simp [intOf]
      · rcases h2 : ((4 : Int) == (n : Int)) with _ | _
        · have HV : Hid (kindL dlines s.toList (n : Int) = kindL (dlines.drop 5) s.toList (n : Int)) := HA.out.trans (kindL_no2 h2)
          clear HA
          go_wp2_with fail
          go_region
          all_goals
            go_wp2_with fail
            go_roundw
            case rel => exact ⟨5, rfl, by omega, D2.drew, HV⟩
            case measure => simp [intOf]
        · have HV : Hid (kindL dlines s.toList (n : Int) = 5) := HA.out.trans (kindL_yes h1 h2)
          clear HA
          go_wp2_with fail
          go_region
          all_goals
            go_wp2_with fail
            go_ret2
            rw [HV.out]
            exact ⟨rfl, D2.drew⟩
    · have HV : Hid (kindL dlines s.toList (n : Int) = 0) := HA.out
      clear HA
      go_wp2_with fail
      go_ret2
      rw [HV.out]
      exact ⟨rfl, D1⟩
end Go.Proofs.YtnkgjkoncglfjaaGreatDoor


