/-
  The document's answer: readRows.
-/
import Derived.Test.YtejefincnjhlpaaDoorR1
import Derived.Test.YtejefincnjhlpaaDoorR0
import Derived.Test.YtejefincnjhlpaaDoorM4
namespace Go.Proofs.YtejefincnjhlpaaDoor
open Go.RowKit

/-- A set's bits, or -1. -/
def optV (o : Option Nat) : Int := match o with
  | none => -1
  | some z => z

theorem or_bit (z n : Nat) (hz : z < 2 ^ 16) (hn : n < 16) : Go.bits .or .i64 (z : Int) (wrap64 (2 ^ n)) = ((z ||| 2 ^ n : Nat) : Int) := by
  have p1 : 2 ^ n < 2 ^ 16 := Nat.pow_lt_pow_right (by omega) hn
  have e1 : wrap64 ((2 : Int) ^ n) = ((2 ^ n : Nat) : Int) := by
    rw [show (2 : Int) ^ n = ((2 ^ n : Nat) : Int) by simp, ← IntWalk.i64_left]
    generalize 2 ^ n = q at *
    exact IntWalk.i64_in _ (by omega)
  rw [e1]
  generalize 2 ^ n = m at *
  have hle : z ||| m < 2 ^ 16 := Nat.or_lt_two_pow hz p1
  have hmm : (BitVec.ofInt 64 (z : Int) ||| BitVec.ofInt 64 (m : Int)).toNat = z ||| m := by
    rw [show BitVec.ofInt 64 (z : Int) = BitVec.ofNat 64 z by simp, show BitVec.ofInt 64 (m : Int) = BitVec.ofNat 64 m by simp, BitVec.toNat_or, BitVec.toNat_ofNat, BitVec.toNat_ofNat, Nat.mod_eq_of_lt (by omega), Nat.mod_eq_of_lt (by omega)]
  show IntKind.i64.wrap ((BitVec.ofInt 64 (z : Int) ||| BitVec.ofInt 64 (m : Int)).toNat : Int) = _
  rw [hmm, IntWalk.i64_in _ (by omega)]

theorem own_cell {w : World} {B g m cap : Nat} {ps : List (List UInt8)} (h : w.ownsRow B 9 1 (.slice (some ⟨g, 0, none⟩) m cap) m (strs ps)) (hm : m = ps.length) {j : Nat} {x : List UInt8} (hx : ps[j]? = some x) : w.cell? ⟨g, j, none⟩ = some (.string ⟨x.toArray⟩) := by
  have hj := (List.getElem?_eq_some_iff.1 hx).1
  rw [h.cellAt j (by omega)]
  unfold strs
  rw [List.getElem?_map, hx]
  rfl
theorem own_lt {w : World} {B g m cap : Nat} {xs : List Value} (h : w.ownsRow B 9 1 (.slice (some ⟨g, 0, none⟩) m cap) m xs) : g < w.heap.size := by
  rcases h.2 with ⟨h', _⟩ | ⟨g', cap', cur, h', _, hg, _⟩
  · cases h'
  · simp only [Value.slice.injEq, Option.some.injEq, Addr.mk.injEq, and_true, true_and] at h'
    obtain ⟨rfl, _⟩ := h'
    exact (Array.getElem?_eq_some_iff.1 hg).1

set_option maxHeartbeats 4000000 in
set_option maxRecDepth 100000 in
theorem readRows_loop (s : ByteArray) (size : Nat) (w : World) (hsz : size = 16 ∨ size = 8) (hs : s.size ≤ 300) (e1 : (s.toList == [42]) = false) (e2 : (s.toList == [45]) = false) :
    Calls Tryd.prog 35 #[.string s, .int .i64 (size : Int)] w fun e w' => e = .returned (.int .i64 (optV (Mt.acc size 0 (Pk.pieces 44 s.data.toList)))) ∧ Below w.heap.size w w' := by
  have hz16 : size ≤ 16 := by omega
  have PC : Hid (∀ w, Calls Tryd.prog 29 #[.string s, .int .u8 44] w fun e w' => ∃ v, e = .returned v ∧ w'.ownsRow w.heap.size 9 1 v (Pk.pieces 44 s.data.toList).length (strs (Pk.pieces 44 s.data.toList)) ∧ Below w.heap.size w w') := fun w => pieces_any s 44 w (by omega)
  have hsl : ∀ (j : Nat) x, (Pk.pieces 44 s.data.toList)[j]? = some x → x.length ≤ 300 := fun j x hj => by
    have := spl_len 44 s.data.toList x (by rw [← Mt.pieces_spl]; exact List.mem_of_getElem? hj)
    rw [← Lib.size_eq] at this
    omega
  have hpl := Pk.pieces_len 44 s.data.toList
  have hcl : s.data.toList.count 44 ≤ 300 := by
    have := List.count_le_length (a := (44 : UInt8)) (l := s.data.toList)
    rw [← Lib.size_eq] at this
    omega
  have HSL : Hid (∀ (j : Nat) x, (Pk.pieces 44 s.data.toList)[j]? = some x → x.length ≤ 300) := hsl
  have hL1 : 1 ≤ (Pk.pieces 44 s.data.toList).length := by omega
  have hL2 : (Pk.pieces 44 s.data.toList).length ≤ 301 := by omega
  clear hsl hpl hcl
  generalize Pk.pieces 44 s.data.toList = L at *
  have wr1 : IntKind.i64.wrap ((size : Int) - 1) = (size : Int) - 1 := IntWalk.i64_in _ (by omega)
  go_enter Tryd.func35, Tryd.ntmps35
  go_wp2_with fail
  refine (PC.out _).mono ?_
  rintro e w1 ⟨v, rfl, ho, D1⟩
  obtain ⟨g, cap, rfl, hg, hcap⟩ : ∃ g cap, v = .slice (some ⟨g, 0, none⟩) L.length cap ∧ w.heap.size ≤ g ∧ L.length ≤ cap := by
    obtain ⟨m, hm⟩ : ∃ m, L.length = m + 1 := ⟨L.length - 1, by omega⟩
    rw [hm] at ho ⊢
    exact own_shape ho
  clear PC
  go_wp2_with fail
  go_loopw [7, 5] (fun i b wr => ∃ k z : Nat, i = .int .i64 (k : Int) ∧ b = .int .i64 (z : Int) ∧ k ≤ L.length ∧ z < 2 ^ size ∧ Mt.acc size z (L.drop k) = Mt.acc size 0 L ∧ Below w1.heap.size w1 wr) (fun i _ _ => L.length - (intOf i).toNat)
  case atStart => exact ⟨0, 0, rfl, rfl, Nat.zero_le _, Nat.two_pow_pos _, rfl, Below.refl _ _⟩
  case round =>
    obtain ⟨k, z, rfl, rfl, hk, hz, hac, hbw⟩ := hrel
    have hz' : z < 2 ^ 16 := Nat.lt_of_lt_of_le hz (Nat.pow_le_pow_right (by omega) hz16)
    have HA : Hid (Mt.acc size z (L.drop k) = Mt.acc size 0 L) := hac
    have HZ : Hid (z < 2 ^ size) := hz
    clear hac hz
    by_cases hlt : k < L.length
    · obtain ⟨x, hxk⟩ : ∃ x, L[k]? = some x := ⟨L[k], List.getElem?_eq_getElem hlt⟩
      have hc := own_cell (own_below ho hbw) rfl hxk
      have hx300 := HSL.out k x hxk
      have hdrop : L.drop k = x :: L.drop (k + 1) := by
        rw [List.drop_eq_getElem_cons hlt]
        rw [List.getElem?_eq_getElem hlt] at hxk
        rw [Option.some.inj hxk]
      have HQ : Hid (Mt.acc size 0 L = match Mt.rowP size x with
          | none => none
          | some p => Mt.acc size (z ||| Mt.mask p) (L.drop (k + 1))) := by
        show _ = _
        rw [← HA.out, hdrop, Mt.acc]
        cases Mt.rowP size x <;> rfl
      have PX : Hid (∀ w, Calls Tryd.prog 29 #[.string ⟨x.toArray⟩, .int .u8 45] w fun e w' => ∃ v, e = .returned v ∧ w'.ownsRow w.heap.size 9 1 v (Pk.pieces 45 x).length (strs (Pk.pieces 45 x)) ∧ Below w.heap.size w w') := fun w => by
        have := pieces_any ⟨x.toArray⟩ 45 w (by rw [Lib.size_eq]; simp; omega)
        simpa using this
      have hml := Mt.rowP_many size x
      have hfw := Mt.rowP_few size x
      have HML : Hid (2 < (Pk.pieces 45 x).length → Mt.rowP size x = none) := hml
      have hP1 : 1 ≤ (Pk.pieces 45 x).length := by have := Pk.pieces_len 45 x; omega
      have hP2 : (Pk.pieces 45 x).length ≤ 301 := by
        have := Pk.pieces_len 45 x
        have := List.count_le_length (a := (45 : UInt8)) (l := x)
        omega
      have hpx : ∀ (j : Nat) y, (Pk.pieces 45 x)[j]? = some y → y.length ≤ 300 := fun j y hj => by
        have := spl_len 45 x y (by rw [← Mt.pieces_spl]; exact List.mem_of_getElem? hj)
        omega
      clear hml hdrop HA hxk
      generalize Pk.pieces 45 x = P at *
      go_wp2_with fail
      refine (PX.out _).mono ?_
      rintro e w2 ⟨v2, rfl, ho2, hb2⟩
      have D2 := chain hb2 hbw
      obtain ⟨g2, cap2, rfl, hg2, hcap2⟩ : ∃ g cap, v2 = .slice (some ⟨g, 0, none⟩) P.length cap ∧ wr.heap.size ≤ g ∧ P.length ≤ cap := by
        obtain ⟨m, hm⟩ : ∃ m, P.length = m + 1 := ⟨P.length - 1, by omega⟩
        rw [hm] at ho2 ⊢
        exact own_shape ho2
      clear PX hb2 hbw hc
      by_cases hmany : 2 < P.length
      · have HN : Hid (Mt.acc size 0 L = none) := by
          show _ = _
          rw [HQ.out, HML.out hmany]
        have DD := D1.trans (D2.mono D1.size)
        go_wp2_with fail
        go_ret
        exact ⟨by rw [HN.out]; rfl, DD⟩
      · obtain ⟨ra, rb, ha, hb, _, hcase⟩ := hfw (by omega)
        have la := hpx _ _ ha
        have lb := hpx _ _ hb
        have ca := own_cell ho2 rfl ha
        have cb := own_cell ho2 rfl hb
        clear hfw hpx HML ha hb
        have DA : Hid (∀ w, Calls Tryd.prog 30 #[.string ⟨ra.toArray⟩, .int .i64 ((size : Int) - 1)] w fun e w' => e = .returned (.int .i64 (Pk.dg ((size : Int) - 1) ra)) ∧ w' = w) := fun w => by
          have := digits_any ⟨ra.toArray⟩ ((size : Int) - 1) w (by rw [Lib.size_eq]; unfold maxLen; simp; omega)
          simpa using this
        have DB : Hid (∀ w, Calls Tryd.prog 30 #[.string ⟨rb.toArray⟩, .int .i64 ((size : Int) - 1)] w fun e w' => e = .returned (.int .i64 (Pk.dg ((size : Int) - 1) rb)) ∧ w' = w) := fun w => by
          have := digits_any ⟨rb.toArray⟩ ((size : Int) - 1) w (by rw [Lib.size_eq]; unfold maxLen; simp; omega)
          simpa using this
        have hP : P.length = 1 ∨ P.length = 2 := by omega
        have ho2l := own_lt ho2
        generalize P.length = n2 at *
        clear ho2
        rcases hP with rfl | rfl
        · have cb' : w2.cell? ⟨g2, 0, none⟩ = some (.string ⟨rb.toArray⟩) := cb
          obtain rfl : ra = rb := by
            rw [ca] at cb'
            simp only [Option.some.injEq, Value.string.injEq, ByteArray.mk.injEq] at cb'
            have := congrArg Array.toList cb'
            simpa using this
          clear cb cb' DB
          generalize Pk.dg ((size : Int) - 1) ra = lo at *
          go_wp2_with fail
          go_quiet ((go_at_call 30; exact Calls.quiet_of_same (DA.out _)))
          have D3 := below_drewN D2 nq
          have DD := below_drewN (D1.trans (D2.mono D1.size)) nq
          rcases hcase with ⟨⟨pl, ph⟩, hrow, hl1, hl2, hle, hlt2⟩ | ⟨hrow, hbad⟩
          · obtain rfl : pl = ph := by
              simp only at hl1 hl2
              omega
            subst hl1
            have HV : Hid (Mt.acc size 0 L = Mt.acc size (z ||| Mt.mask (pl, pl)) (L.drop (k + 1))) := by
              show _ = _
              rw [HQ.out, hrow]
            have HL : Hid (z ||| Mt.mask (pl, pl) < 2 ^ size) := Nat.or_lt_two_pow HZ.out (Mt.mask_le (pl, pl) size hlt2)
            simp only at hle hlt2
            clear HQ hrow ca DA DD D2
            go_wp2_with fail
            go_loopw [11, 5] (fun n b wq => ∃ m : Nat, n = .int .i64 (m : Int) ∧ pl ≤ m ∧ m ≤ pl + 1 ∧ b = .int .i64 ((z ||| (2 ^ m - 2 ^ pl) : Nat) : Int) ∧ Below w1.heap.size w1 wq) (fun n _ _ => pl + 1 - (intOf n).toNat)
            case atStart => exact ⟨pl, rfl, Nat.le_refl _, by omega, by simp, D3⟩
            case round =>
              obtain ⟨m, rfl, hm1, hm2, rfl, hbq⟩ := hrel
              have hzm : z ||| (2 ^ m - 2 ^ pl) < 2 ^ 16 := Nat.or_lt_two_pow hz' (by
                have : 2 ^ m ≤ 2 ^ 16 := Nat.pow_le_pow_right (by omega) (by omega)
                have := Nat.two_pow_pos pl
                have := Nat.two_pow_pos m
                omega)
              by_cases hmp : m ≤ pl
              · have HO : Hid (Go.bits .or .i64 ((z ||| (2 ^ m - 2 ^ pl) : Nat) : Int) (wrap64 (2 ^ m)) = ((z ||| (2 ^ (m + 1) - 2 ^ pl) : Nat) : Int)) := by
                  show _ = _
                  rw [or_bit _ m hzm (by omega), Mt.or_step z pl m hm1]
                generalize z ||| (2 ^ m - 2 ^ pl) = zm at *
                go_wp2_with fail
                go_roundw
                case rel => exact ⟨m + 1, congrArg (Value.int .i64) (by omega), by omega, by omega, congrArg (Value.int .i64) HO.out, hbq⟩
                case measure => simp [intOf]; omega
              · obtain rfl : m = pl + 1 := by omega
                have HE : Hid ((z ||| (2 ^ (pl + 1) - 2 ^ pl)) = z ||| Mt.mask (pl, pl)) := rfl
                generalize z ||| (2 ^ (pl + 1) - 2 ^ pl) = zm at *
                go_wp2_with fail
                go_roundw
                case rel => exact ⟨k + 1, z ||| Mt.mask (pl, pl), congrArg (Value.int .i64) (by omega), by rw [HE.out], by omega, HL.out, HV.out.symm, hbq⟩
                case measure => simp [intOf]; omega
          · have HN : Hid (Mt.acc size 0 L = none) := by
              show _ = _
              rw [HQ.out, hrow]
            clear HQ hrow ca DA D3 D2
            by_cases b1 : lo < 0
            · go_wp2_with fail
              go_ret
              exact ⟨by rw [HN.out]; rfl, DD⟩
            · exact absurd hbad (by omega)
        · have cb' : w2.cell? ⟨g2, 1, none⟩ = some (.string ⟨rb.toArray⟩) := cb
          clear cb
          have h21 : IntKind.i64.wrap (((2 : Nat) : Int) - 1) = 1 := by kernel_rfl
          have h22 : IntKind.i64.wrap ((2 : Int) - 1) = 1 := by kernel_rfl
          generalize Pk.dg ((size : Int) - 1) ra = lo at *
          generalize Pk.dg ((size : Int) - 1) rb = hi at *
          go_wp2_with fail
          go_quiet ((first | (go_at_call_of 30 (Value.string ⟨ra.toArray⟩); exact Calls.quiet_of_same (DA.out _)) | (go_at_call_of 30 (Value.string ⟨rb.toArray⟩); exact Calls.quiet_of_same (DB.out _))))
          have D3 := below_drewN D2 nq
          have DD := below_drewN (D1.trans (D2.mono D1.size)) nq
          rcases hcase with ⟨⟨pl, ph⟩, hrow, rfl, rfl, hle, hlt2⟩ | ⟨hrow, hbad⟩
          · have HV : Hid (Mt.acc size 0 L = Mt.acc size (z ||| Mt.mask (pl, ph)) (L.drop (k + 1))) := by
              show _ = _
              rw [HQ.out, hrow]
            have HL : Hid (z ||| Mt.mask (pl, ph) < 2 ^ size) := Nat.or_lt_two_pow HZ.out (Mt.mask_le (pl, ph) size hlt2)
            simp only at hle hlt2
            clear HQ hrow ca cb' DA DB DD D2
            go_wp2_with fail
            go_loopw [11, 5] (fun n b wq => ∃ m : Nat, n = .int .i64 (m : Int) ∧ pl ≤ m ∧ m ≤ ph + 1 ∧ b = .int .i64 ((z ||| (2 ^ m - 2 ^ pl) : Nat) : Int) ∧ Below w1.heap.size w1 wq) (fun n _ _ => ph + 1 - (intOf n).toNat)
            case atStart => exact ⟨pl, rfl, Nat.le_refl _, by omega, by simp, D3⟩
            case round =>
              obtain ⟨m, rfl, hm1, hm2, rfl, hbq⟩ := hrel
              have hzm : z ||| (2 ^ m - 2 ^ pl) < 2 ^ 16 := Nat.or_lt_two_pow hz' (by
                have : 2 ^ m ≤ 2 ^ 16 := Nat.pow_le_pow_right (by omega) (by omega)
                have := Nat.two_pow_pos pl
                have := Nat.two_pow_pos m
                omega)
              by_cases hmp : m ≤ ph
              · have HO : Hid (Go.bits .or .i64 ((z ||| (2 ^ m - 2 ^ pl) : Nat) : Int) (wrap64 (2 ^ m)) = ((z ||| (2 ^ (m + 1) - 2 ^ pl) : Nat) : Int)) := by
                  show _ = _
                  rw [or_bit _ m hzm (by omega), Mt.or_step z pl m hm1]
                generalize z ||| (2 ^ m - 2 ^ pl) = zm at *
                go_wp2_with fail
                go_roundw
                case rel => exact ⟨m + 1, congrArg (Value.int .i64) (by omega), by omega, by omega, congrArg (Value.int .i64) HO.out, hbq⟩
                case measure => simp [intOf]; omega
              · obtain rfl : m = ph + 1 := by omega
                have HE : Hid ((z ||| (2 ^ (ph + 1) - 2 ^ pl)) = z ||| Mt.mask (pl, ph)) := rfl
                generalize z ||| (2 ^ (ph + 1) - 2 ^ pl) = zm at *
                go_wp2_with fail
                go_roundw
                case rel => exact ⟨k + 1, z ||| Mt.mask (pl, ph), congrArg (Value.int .i64) (by omega), by rw [HE.out], by omega, HL.out, HV.out.symm, hbq⟩
                case measure => simp [intOf]; omega
          · have HN : Hid (Mt.acc size 0 L = none) := by
              show _ = _
              rw [HQ.out, hrow]
            clear HQ hrow ca cb' DA DB D3 D2
            by_cases b1 : lo < 0
            · go_wp2_with fail
              go_ret
              exact ⟨by rw [HN.out]; rfl, DD⟩
            by_cases b2 : hi < 0
            · go_wp2_with fail
              go_ret
              exact ⟨by rw [HN.out]; rfl, DD⟩
            · have b3 : hi < lo := by omega
              go_wp2_with fail
              go_ret
              exact ⟨by rw [HN.out]; rfl, DD⟩
    · have HV : Hid (Mt.acc size 0 L = some z) := by
        show _ = _
        rw [← HA.out, List.drop_of_length_le (by omega), Mt.acc]
      have DD := D1.trans (hbw.mono D1.size)
      go_wp2_with fail
      go_ret
      exact ⟨by rw [HV.out]; rfl, DD⟩

set_option maxHeartbeats 1000000 in
theorem readRows_star (size : Nat) (hsz : size = 16 ∨ size = 8) (w : World) :
    Calls Tryd.prog 35 #[.string ⟨#[42]⟩, .int .i64 (size : Int)] w fun e w' => e = .returned (.int .i64 (optV (some (2 ^ size - 1)))) ∧ Below w.heap.size w w' := by
  rcases hsz with rfl | rfl
  all_goals
    go_enter Tryd.func35, Tryd.ntmps35
    go_wp2_with fail
    go_ret
    exact ⟨rfl, Below.refl _ _⟩
set_option maxHeartbeats 1000000 in
theorem readRows_dash (size : Nat) (w : World) :
    Calls Tryd.prog 35 #[.string ⟨#[45]⟩, .int .i64 (size : Int)] w fun e w' => e = .returned (.int .i64 (optV (some 0))) ∧ Below w.heap.size w w' := by
  go_enter Tryd.func35, Tryd.ntmps35
  go_wp2_with fail
  go_ret
  exact ⟨rfl, Below.refl _ _⟩
theorem readRows_any (s : ByteArray) (size : Nat) (w : World) (hsz : size = 16 ∨ size = 8) (hs : s.size ≤ 300) :
    Calls Tryd.prog 35 #[.string s, .int .i64 (size : Int)] w fun e w' => e = .returned (.int .i64 (optV (Mt.setP size s.data.toList))) ∧ Below w.heap.size w w' := by
  unfold Mt.setP
  by_cases h1 : s.data.toList = [42]
  · rw [if_pos h1, bytes_of s _ h1]
    exact readRows_star size hsz w
  · rw [if_neg h1]
    by_cases h2 : s.data.toList = [45]
    · rw [if_pos h2, bytes_of s _ h2]
      exact readRows_dash size w
    · rw [if_neg h2, ← Mt.pieces_spl]
      exact readRows_loop s size w hsz hs (by rw [Lib.toList_data]; simpa using h1) (by rw [Lib.toList_data]; simpa using h2)
end Go.Proofs.YtejefincnjhlpaaDoor
