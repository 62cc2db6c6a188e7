/-
  NetReads: the document's answer: a device's line: a word that is no kind.
-/
import Derived.Test.YtnkgjkoncglfjaaGreatDoorNRf
import Derived.Deep.RegionHeldLaw
namespace Go.Proofs.YtnkgjkoncglfjaaGreatDoor
open Go.RowKit

theorem nil_yes (w : World) : (binOp .eql 46 (.slice none 0 0) (.slice none 0 0)).run Tryz.prog w = .ok (.bool true) w := by
  kernel_rfl
theorem nil_no (g n c : Nat) (w : World) : (binOp .eql 46 (.slice (some ⟨g, 0, none⟩) n c) (.slice none 0 0)).run Tryz.prog w = .ok (.bool false) w := by
  kernel_rfl
/-- The words of the kinds, as the document's answer lays them. -/
def kwA : Array Value := #[.string ⟨#[]⟩, .string ⟨#[104, 111, 115, 116]⟩, .string ⟨#[114, 111, 117, 116, 101, 114]⟩, .string ⟨#[102, 105, 114, 101]⟩, .string ⟨#[110, 97, 116]⟩, .string ⟨#[108, 98]⟩]
theorem blk_at (w : World) (c : Array Value) (t : TypeId) (k : Nat) (h : k = w.heap.size) : Blk (w.alloc (.cells c t)) k c t := by subst h; exact blk_new w c t
set_option maxHeartbeats 8000000 in
set_option maxRecDepth 1000000 in
theorem nl_dev_bad (B rb g : Nat) (xs : List (Dv × Sub)) (ls : List Lk) (A C : Option Addr) (cap cap' : Nat) (s0 : ByteArray) (nw cw : Nat) (cs : Array Value) (w : World)
    (hB : B ≤ w.heap.size) (_hrb : B ≤ rb) (K0 : Blk w rb #[.slice A xs.length cap, .slice C ls.length cap'] 25) (R : RdOk B w xs ls (.slice A xs.length cap) (.slice C ls.length cap')) (hn : xs.length ≤ 5000) (_hm : ls.length ≤ 5000)
    (G : Blk w g cs 9) (hg0 : cs[0]? = some (.string s0))
    (q1 : (s0.toList == [112, 101, 114, 109, 105, 116]) = false) (q2 : (s0.toList == [100, 101, 110, 121]) = false) (q3 : (s0.toList == [114, 111, 117, 116, 101]) = false) (q4 : (s0.toList == [108, 105, 110, 107]) = false)
    (kd : Int) (hkd : kd < 1) (hnw : 0 < nw) (hw : nw ≤ 5000) (IX : Hid (∀ W z, Blk W z kwA 9 → Calls Tryz.prog 31 #[.slice (some ⟨z, 0, none⟩) 6 6, .string s0] W fun e w' => e = .returned (.int .i64 kd) ∧ Below W.heap.size W w')) :
    Calls Tryz.prog 11 #[.pointer (some ⟨rb, 0, none⟩), .slice (some ⟨g, 0, none⟩) nw cw] w fun e w' => LineN B rb w none e w' := by
  have hnw' : (0 : Int) < (nw : Int) := by omega
  have cases3 := stands xs.length ls.length A (fun h => own_head R.dev (by omega))
  have k0 : w.cell? ⟨rb, 0, none⟩ = some (.slice A xs.length cap) := K0.cell 0 _ rfl
  have k1 : w.cell? ⟨rb, 1, none⟩ = some (.slice C ls.length cap') := K0.cell 1 _ rfl
  go_enter Tryz.func11, Tryz.ntmps11
  go_upto_region 2 with fail
  go_cut [30] from 17 to 29 (fun v30 wx => v30 = .bool (decide (0 < xs.length ∧ ls.length = 0)) ∧ wx = w)
  case first =>
    rcases cases3 with hz | ⟨_, hn1, hm1⟩ | ⟨⟨gd, k, hk, rfl⟩, hz⟩
    · have k0' : w.cell? ⟨rb, 0, none⟩ = some (.slice A 0 cap) := k0.trans (by rw [hz])
      clear k0
      repeat (first | go_guarded | go_step)
      go_meet
      exact ⟨by simp [hz], rfl⟩
    · repeat (first | go_guarded | go_step)
      go_meet
      exact ⟨by rw [decide_eq_false]; intro h; rw [h.2] at hm1; simp at hm1, rfl⟩
    · have k0' : w.cell? ⟨rb, 0, none⟩ = some (.slice (some ⟨gd, 0, none⟩) (k + 1) cap) := k0.trans (by rw [hk])
      have k1' : w.cell? ⟨rb, 1, none⟩ = some (.slice C 0 cap') := k1.trans (by rw [hz])
      clear k0 k1
      repeat (first | go_guarded | go_step)
      go_meet
      exact ⟨by simp [hz, hk], rfl⟩
  case rest =>
    obtain ⟨rfl, hx⟩ := hcut
    obtain rfl := hx.symm
    generalize hbo : decide (0 < xs.length ∧ ls.length = 0) = bo at *
    go_step
    go_cut [5] from 31 to 41 (fun _ wx => wx = w ∨ wx = w.drew)
    case first =>
      cases bo with
      | true =>
        have hop : 0 < xs.length ∧ ls.length = 0 := of_decide_eq_true hbo
        obtain ⟨gd, hgd⟩ := own_head R.dev (by omega)
        obtain ⟨k, hk⟩ : ∃ k, xs.length = k + 1 := ⟨xs.length - 1, by omega⟩
        have k0' : w.cell? ⟨rb, 0, none⟩ = some (.slice (some ⟨gd, 0, none⟩) (k + 1) cap) := k0.trans (by rw [hk, hgd])
        have hk5 : k ≤ 5000 := by omega
        have e1 : (((k + 1 : Nat) : Int) - 1) = (k : Int) := by omega
        have hk1 : ¬ ((k : Int) < 0) := by omega
        clear k0 k1 cases3 hbo hop hk hgd
        repeat (first | go_guarded | go_step)
        go_region
        repeat (first | go_guarded | go_step)
        go_meet
        exact .inr rfl
      | false =>
        clear k0 k1 cases3 hbo
        repeat (first | go_guarded | go_step)
        go_meet
        exact .inl rfl
    case rest =>
      have D1 : Below w.heap.size w wc := by
        rcases hcut with rfl | rfl
        · exact Below.refl _ _
        · exact (Below.refl _ _).drew
      clear hcut cases3 k0 k1 hbo
      generalize wc = w1 at *
      have g0 := (G.keep D1).cell 0 _ hg0
      have g0a := cell_alN g0 (.cells #[.string ⟨#[]⟩, .string ⟨#[104, 111, 115, 116]⟩, .string ⟨#[114, 111, 117, 116, 101, 114]⟩, .string ⟨#[102, 105, 114, 101]⟩, .string ⟨#[110, 97, 116]⟩, .string ⟨#[108, 98]⟩] 9)
      repeat (first | go_guarded | go_step)
      refine (IX.out _ _ (blk_at w1 kwA 9 _ rfl)).mono ?_
      rintro e w2 ⟨rfl, hb2⟩
      dsimp only
      have D2 : Below w.heap.size w w2 := D1.trans (((Below.refl w1.heap.size w1).alloc (Nat.le_refl _) _).trans (hb2.mono (Below.alloc (Below.refl w1.heap.size w1) (Nat.le_refl _) (.cells kwA 9)).size) |>.mono D1.size)
      clear hb2 D1 g0 g0a IX
      repeat (first | go_guarded | go_step)
      go_ret
      exact ⟨D2.mono hB, rfl⟩
end Go.Proofs.YtnkgjkoncglfjaaGreatDoor
