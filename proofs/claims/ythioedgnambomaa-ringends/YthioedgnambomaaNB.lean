/-
  Package net: backs.
-/
import Derived.Test.YthioedgnambomaaNF
namespace Go.Proofs.Ythioedgnambomaa
open Go.RowKit

set_option maxHeartbeats 4000000 in
set_option maxRecDepth 100000 in
theorem indexI_any (A : Option Addr) (n cap : Nat) (bs : List Int) (x : Int) (base : Nat) (w : World) (hB : Hid (SlAt base w 1 IsI (.slice A n cap) bs)) :
    Calls Try.prog 76 #[.slice A n cap, .int .i64 x] w fun e w' => ∃ j : Int, e = .returned (.int .i64 j) ∧ Hid (decide (0 ≤ j) = bs.any (fun y => y == x)) ∧ w' = w := by
  obtain ⟨A', cap', e, _, h1, h2, _⟩ := id hB.out
  cases e
  unfold maxLen at h2
  generalize hres : bs.any (fun y => y == x) = res
  have HR : Hid (bs.any (fun y => y == x) = res) := hres
  clear hres
  go_enter Try.func76, Try.ntmps76
  go_wp2_with fail
  go_loop [8] (fun i => ∃ k : Nat, i = .int .i64 (k : Int) ∧ k ≤ bs.length ∧ Hid ((bs.take k).any (fun y => y == x) = false)) (fun i => bs.length - (intOf i).toNat)
  case atStart => exact ⟨0, rfl, by omega, rfl⟩
  case round =>
    obtain ⟨k, rfl, hk, hno⟩ := hrel
    by_cases hlt : k < bs.length
    · obtain ⟨y, hxk⟩ : ∃ y, bs[k]? = some y := ⟨_, List.getElem?_eq_getElem hlt⟩
      obtain ⟨b, o, rfl, _, hcell⟩ := Ints.at hB.out hxk
      have c0 := hcell k y hxk
      have HT : Hid ((bs.take (k + 1)).any (fun z => z == x) = ((bs.take k).any (fun z => z == x) || (y == x))) := any_takeI hxk
      have HM : Hid (y == x → bs.any (fun y => y == x) = true) := fun h => List.any_eq_true.2 ⟨y, List.mem_of_getElem? hxk, h⟩
      have k1 : (0 : Int) ≤ (k : Int) := by omega
      have k2 : (k : Int) < (bs.length : Int) := by omega
      clear hxk hcell hB
      cases hv : (y == x)
      · have hv2 : (x == y) = false := by rw [BEq.comm]; exact hv
        have HV : Hid ((bs.take (k + 1)).any (fun z => z == x) = false) := by
          show _ = _
          rw [HT.out, hno.out, hv]
          rfl
        clear HT HM hno hv
        go_wp2_with fail
        go_round
        case rel => exact ⟨k + 1, by go_num, by omega, HV⟩
        case measure => simp [intOf]; omega
      · have hv2 : (x == y) = true := by rw [BEq.comm]; exact hv
        have HV : Hid (res = true) := by
          show _ = _
          rw [← HR.out, HM.out hv]
        clear HT HM hno hv
        go_wp2_with fail
        go_ret
        exact ⟨_, rfl, (by show _ = _; rw [HV.out]; simp), rfl⟩
    · have HV : Hid (res = false) := by
        show _ = _
        rw [← HR.out]
        have := hno.out
        rw [show k = bs.length by omega, List.take_length] at this
        exact this
      go_wp2_with fail
      go_ret
      exact ⟨_, rfl, (by show _ = _; rw [HV.out]; simp), rfl⟩
set_option maxHeartbeats 1000000 in
theorem containsI_any (A : Option Addr) (n cap : Nat) (bs : List Int) (x : Int) (base : Nat) (w : World) (hB : Hid (SlAt base w 1 IsI (.slice A n cap) bs)) :
    Calls Try.prog 67 #[.slice A n cap, .int .i64 x] w fun e w' => e = .returned (.bool (bs.any (fun y => y == x))) ∧ w' = w := by
  have IX : Hid (∀ w', w' = w → Calls Try.prog 76 #[.slice A n cap, .int .i64 x] w' fun e w' => ∃ j : Int, e = .returned (.int .i64 j) ∧ Hid (decide (0 ≤ j) = bs.any (fun y => y == x)) ∧ w' = w) := fun w' h => by subst h; exact indexI_any A n cap bs x base w' hB
  clear hB
  generalize bs.any (fun y => y == x) = v at *
  go_enter Try.func67, Try.ntmps67
  go_wp2_with fail
  refine (IX.out _ rfl).mono ?_
  rintro e w2 ⟨j, rfl, hj, rfl⟩
  clear IX
  go_wp2_with fail
  go_ret
  exact ⟨by rw [← hj.out]; rfl, rfl⟩
theorem backsFrom_vals (bs : List Int) (ad : Int) : ∀ (m k : Nat), bs.length - k ≤ m → backsFrom bs ad k = 0 ∨ backsFrom bs ad k = 1
  | 0, k, h => by rw [backsFrom_end (by omega)]; simp
  | m + 1, k, h => by
    by_cases hk : k < bs.length
    · rw [backsFrom_at (List.getElem?_eq_getElem hk)]
      split
      · exact backsFrom_vals bs ad m (k + 1) (by omega)
      · simp
    · rw [backsFrom_end (by omega)]; simp
def backsF (k ad : Int) (bs : List Int) : Bool := (decide (0 < bs.length) == (k == 5)) && decide (backsFrom bs ad 0 = 0)
set_option maxHeartbeats 8000000 in
set_option maxRecDepth 100000 in
theorem backsFit_loop (nm : ByteArray) (k ad : Int) (pl : Nat) (A : Option Addr) (cap : Nat) (bs : List Int) (vr vt : Value) (res : Bool) (w : World) (hB : Hid (SlAt w.heap.size w 1 IsI (.slice A bs.length cap) bs)) (hcap : bs.length ≤ cap) (hmax : cap ≤ maxLen) (hne : (decide (0 < bs.length) == (k == 5)) = true) (HR : Hid (decide (backsFrom bs ad 0 = 0) = res)) :
    Calls Try.prog 48 #[devA nm k ad pl (.slice A bs.length cap) vr vt] w fun e w' => e = .returned (.bool res) ∧ Below w.heap.size w w' := by
  unfold maxLen at hmax
  have D0 := Below.alN (Below.refl w.heap.size w) (.cells #[.string nm, .int .i64 k, .int .i64 ad, .int .u8 (pl : Int), .slice A bs.length cap, vr, vt] 42)
  have V0 := seven_new w (.string nm) (.int .i64 k) (.int .i64 ad) (.int .u8 (pl : Int)) (.slice A bs.length cap) vr vt 42
  have BW := SlAt.below hB.out D0 (fun _ _ _ h => h)
  have hne2 : (decide ((0 : Int) < (bs.length : Int)) == (k == 5)) = true := by
    rw [← hne]
    congr 1
    rw [decide_eq_decide]
    omega
  have hne3 : (decide (0 < bs.length)) = (k == 5) := eq_of_beq hne
  have hne4 : (decide ((0 : Int) < (bs.length : Int))) = (k == 5) := eq_of_beq hne2
  cases h5 : (k == 5)
  all_goals
    rw [h5] at hne3 hne4
    clear hne hne2
    go_enter Try.func48, Try.ntmps48
    go_wp2_with fail
    go_loop [16] (fun i => ∃ j : Nat, i = .int .i64 (j : Int) ∧ j ≤ bs.length ∧ Hid (decide (backsFrom bs ad j = 0) = res)) (fun i => bs.length - (intOf i).toNat)
    case atStart => exact ⟨0, rfl, by omega, HR⟩
    case round =>
      obtain ⟨j, rfl, hj, hl⟩ := hrel
      by_cases hlt : j < bs.length
      · obtain ⟨x, hxk⟩ : ∃ x, bs[j]? = some x := ⟨_, List.getElem?_eq_getElem hlt⟩
        obtain ⟨b, o, rfl, _, hcell⟩ := Ints.at BW hxk
        have c0 := hcell j x hxk
        have HT : Hid (backsFrom bs ad j = if (decide (0 ≤ x) && decide (x ≤ 15)) && !(x == ad) && !((bs.take j).any (fun y => y == x)) then backsFrom bs ad (j + 1) else 1) := backsFrom_at hxk
        have IA : Hid (∀ w, Calls Try.prog 66 #[.int .i64 x] w fun e w' => e = .returned (.bool (addrB x)) ∧ w' = w) := fun w => isAddr_any x w
        have CO : Hid (Calls Try.prog 67 #[.slice (some ⟨b, o, none⟩) j cap, .int .i64 x] (w.alloc (.cells #[.string nm, .int .i64 k, .int .i64 ad, .int .u8 (pl : Int), .slice (some ⟨b, o, none⟩) bs.length cap, vr, vt] 42)) fun e w' => e = .returned (.bool ((bs.take j).any (fun y => y == x))) ∧ w' = (w.alloc (.cells #[.string nm, .int .i64 k, .int .i64 ad, .int .u8 (pl : Int), .slice (some ⟨b, o, none⟩) bs.length cap, vr, vt] 42))) := containsI_any _ j cap (bs.take j) x w.heap.size _ (SlAt.take BW j (by omega))
        have ea : (decide (0 ≤ x) && decide (x ≤ 15)) = addrB x := by
          unfold addrB
          congr 1
          rw [decide_eq_decide]
          omega
        rw [ea] at HT
        have k1 : (0 : Int) ≤ (j : Int) := by omega
        have k2 : (j : Int) < (bs.length : Int) := by omega
        have k3 : (j : Int) ≤ (cap : Int) := by omega
        obtain ⟨_, q0, q1, q2, q3, q4, q5, q6⟩ := id V0
        clear hxk hcell hB ea BW
        generalize addrB x = x0 at *
        generalize (bs.take j).any (fun y => y == x) = x2 at *
        cases x0
        · have HV : Hid (res = false) := by
            show _ = _
            rw [← hl.out, HT.out]
            simp
          clear HT hl
          go_wp2_with (go_at_call 66; refine (IA.out _).mono ?_; rintro e w' ⟨rfl, rfl⟩)
          go_ret
          exact ⟨by rw [HV.out]; rfl, D0⟩
        · cases x1 : (x == ad)
          · cases x2
            · have HV : Hid (decide (backsFrom bs ad (j + 1) = 0) = res) := by
                show _ = _
                rw [← hl.out, HT.out, x1]
                simp
              clear HT hl
              go_wp2_with (first | (go_at_call 66; refine (IA.out _).mono ?_; rintro e w' ⟨rfl, rfl⟩) | (go_at_call 67; refine CO.out.mono ?_; rintro e w' ⟨rfl, rfl⟩))
              go_round
              case rel => exact ⟨j + 1, by go_num, by omega, HV⟩
              case measure => simp [intOf]; omega
            · have HV : Hid (res = false) := by
                show _ = _
                rw [← hl.out, HT.out, x1]
                simp
              clear HT hl
              go_wp2_with (first | (go_at_call 66; refine (IA.out _).mono ?_; rintro e w' ⟨rfl, rfl⟩) | (go_at_call 67; refine CO.out.mono ?_; rintro e w' ⟨rfl, rfl⟩))
              go_ret
              exact ⟨by rw [HV.out]; rfl, D0⟩
          · have HV : Hid (res = false) := by
              show _ = _
              rw [← hl.out, HT.out, x1]
              simp
            clear HT hl
            go_wp2_with (go_at_call 66; refine (IA.out _).mono ?_; rintro e w' ⟨rfl, rfl⟩)
            go_ret
            exact ⟨by rw [HV.out]; rfl, D0⟩
      · have HV : Hid (res = true) := by
          show _ = _
          rw [← hl.out, backsFrom_end (by omega)]
          rfl
        go_wp2_with fail
        go_ret
        exact ⟨by rw [HV.out]; rfl, D0⟩
set_option maxHeartbeats 1000000 in
theorem backsFit_any (nm : ByteArray) (k ad : Int) (pl : Nat) (A : Option Addr) (cap : Nat) (bs : List Int) (vr vt : Value) (w : World) (hB : SlAt w.heap.size w 1 IsI (.slice A bs.length cap) bs) (hcap : bs.length ≤ cap) (hmax : cap ≤ maxLen) :
    Calls Try.prog 48 #[devA nm k ad pl (.slice A bs.length cap) vr vt] w fun e w' => e = .returned (.bool (backsF k ad bs)) ∧ Below w.heap.size w w' := by
  unfold backsF
  cases hne : (decide (0 < bs.length) == (k == 5))
  · rw [Bool.false_and]
    have D0 := Below.alN (Below.refl w.heap.size w) (.cells #[.string nm, .int .i64 k, .int .i64 ad, .int .u8 (pl : Int), .slice A bs.length cap, vr, vt] 42)
    have e1 : decide (0 < bs.length) = decide ((0 : Int) < (bs.length : Int)) := by
      rw [decide_eq_decide]
      omega
    rw [e1] at hne
    clear e1 hB hcap hmax
    cases h5 : (k == 5) <;> cases h0 : decide ((0 : Int) < (bs.length : Int))
    · rw [h5, h0] at hne; cases hne
    · clear hne
      have n0 : 0 < bs.length := by simpa using h0
      go_enter Try.func48, Try.ntmps48
      go_wp2_with fail
      go_ret
      exact ⟨rfl, D0⟩
    · clear hne
      have n0 : ¬ 0 < bs.length := by simpa using h0
      go_enter Try.func48, Try.ntmps48
      go_wp2_with fail
      go_ret
      exact ⟨rfl, D0⟩
    · rw [h5, h0] at hne; cases hne
  · rw [Bool.true_and]
    exact backsFit_loop nm k ad pl A cap bs vr vt _ w hB hcap hmax hne rfl
end Go.Proofs.Ythioedgnambomaa
