/-
  Package packet: Check, Flip; package step: pass, stay, what is learned.
-/
import Derived.Test.YthioedgnambomaaSq
import Derived.Laws.EntriesVeiled
namespace Go.Proofs.Ythioedgnambomaa
open Go.RowKit Go.Maps

abbrev pkC (p : Pk) : Obj := .cells #[.int .i64 p.s, .int .i64 p.d, .int .i64 p.sp, .int .i64 p.dp] 29
/-- A packet that leaves. -/
abbrev lvA (q : Int) (p : Pk) (fv : Value) : Value := .agg #[.int .i64 q, .int .i64 p.s, .int .i64 p.d, .int .i64 p.sp, .int .i64 p.dp, fv]
set_option maxHeartbeats 1000000 in
theorem pisAddr_any (n : Int) (w : World) : Calls Try.prog 24 #[.int .i64 n] w fun e w' => e = .returned (.bool (adB n)) ∧ w' = w := by
  unfold adB
  cases h1 : decide (0 ≤ n)
  · go_enter Try.func24, Try.ntmps24
    go_wp2_with fail
    go_ret
    exact ⟨by simp, rfl⟩
  · go_enter Try.func24, Try.ntmps24
    go_wp2_with fail
    go_ret
    exact ⟨by simp, rfl⟩
set_option maxHeartbeats 1000000 in
theorem pisPort_any (n : Int) (w : World) : Calls Try.prog 25 #[.int .i64 n] w fun e w' => e = .returned (.bool (poB n)) ∧ w' = w := by
  unfold poB
  cases h1 : decide (0 ≤ n)
  · go_enter Try.func25, Try.ntmps25
    go_wp2_with fail
    go_ret
    exact ⟨by simp, rfl⟩
  · go_enter Try.func25, Try.ntmps25
    go_wp2_with fail
    go_ret
    exact ⟨by simp, rfl⟩
set_option maxHeartbeats 2000000 in
theorem pcheck_any (p : Pk) (w : World) : Calls Try.prog 14 #[pkV p] w fun e w' => e = .returned (.int .i64 (if pkOk p then 0 else 1)) ∧ Below w.heap.size w w' := by
  obtain ⟨s, d, sp, dp⟩ := p
  have D0 := Below.alN (Below.refl w.heap.size w) (pkC ⟨s, d, sp, dp⟩)
  have A1 : Hid (∀ w, Calls Try.prog 24 #[.int .i64 s] w fun e w' => e = .returned (.bool (adB s)) ∧ w' = w) := fun w => pisAddr_any s w
  have A2 : Hid (∀ w, Calls Try.prog 24 #[.int .i64 d] w fun e w' => e = .returned (.bool (adB d)) ∧ w' = w) := fun w => pisAddr_any d w
  have A3 : Hid (∀ w, Calls Try.prog 25 #[.int .i64 sp] w fun e w' => e = .returned (.bool (poB sp)) ∧ w' = w) := fun w => pisPort_any sp w
  have A4 : Hid (∀ w, Calls Try.prog 25 #[.int .i64 dp] w fun e w' => e = .returned (.bool (poB dp)) ∧ w' = w) := fun w => pisPort_any dp w
  unfold pkOk
  simp only
  generalize adB s = x1 at *
  generalize adB d = x2 at *
  generalize poB sp = x3 at *
  generalize poB dp = x4 at *
  cases x1
  · go_enter Try.func14, Try.ntmps14
    go_wp2_with fail
    refine (A1.out _).mono ?_
    rintro e w' ⟨rfl, rfl⟩
    go_wp2_with fail
    go_ret
    exact ⟨by simp, D0⟩
  cases x2
  · go_enter Try.func14, Try.ntmps14
    go_wp2_with fail
    refine (A1.out _).mono ?_
    rintro e w' ⟨rfl, rfl⟩
    go_wp2_with fail
    refine (A2.out _).mono ?_
    rintro e w' ⟨rfl, rfl⟩
    go_wp2_with fail
    go_ret
    exact ⟨by simp, D0⟩
  cases x3
  · go_enter Try.func14, Try.ntmps14
    go_wp2_with fail
    refine (A1.out _).mono ?_
    rintro e w' ⟨rfl, rfl⟩
    go_wp2_with fail
    refine (A2.out _).mono ?_
    rintro e w' ⟨rfl, rfl⟩
    go_wp2_with fail
    refine (A3.out _).mono ?_
    rintro e w' ⟨rfl, rfl⟩
    go_wp2_with fail
    go_ret
    exact ⟨by simp, D0⟩
  cases x4
  all_goals
    go_enter Try.func14, Try.ntmps14
    go_wp2_with fail
    refine (A1.out _).mono ?_
    rintro e w' ⟨rfl, rfl⟩
    go_wp2_with fail
    refine (A2.out _).mono ?_
    rintro e w' ⟨rfl, rfl⟩
    go_wp2_with fail
    refine (A3.out _).mono ?_
    rintro e w' ⟨rfl, rfl⟩
    go_wp2_with fail
    refine (A4.out _).mono ?_
    rintro e w' ⟨rfl, rfl⟩
    go_wp2_with fail
    go_ret
    exact ⟨by simp, D0⟩
set_option maxHeartbeats 1000000 in
theorem pflip_any (p : Pk) (w : World) : Calls Try.prog 59 #[pkV p] w fun e w' => e = .returned (pkV (flipP p)) ∧ Below w.heap.size w w' := by
  obtain ⟨s, d, sp, dp⟩ := p
  go_enter Try.func59, Try.ntmps59
  go_wp2_with fail
  refine bodyPost_ret (v := pkV ⟨d, s, dp, sp⟩) (by simp [results, Try.results59, go_sem]) rfl ⟨rfl, ?_⟩
  exact Below.alN (Below.alN (Below.refl _ _) _) _
set_option maxHeartbeats 1000000 in
theorem stay_any (w : World) : Calls Try.prog 40 #[] w fun e w' => e = .returned (.tuple #[lvA 0 zeroP .nilFunc, .int .i64 7]) ∧ Below w.heap.size w w' := by
  go_enter Try.func40, Try.ntmps40
  go_wp2_with fail
  refine bodyPost_ret (v := .tuple #[lvA 0 zeroP .nilFunc, .int .i64 7]) (by simp [results, Try.results40, go_sem, zeroP]) rfl ⟨rfl, ?_⟩
  exact Below.alN (Below.refl _ _) _
set_option maxHeartbeats 1000000 in
theorem pass_any (q : Int) (p : Pk) (w : World) : Calls Try.prog 57 #[.int .i64 q, pkV p] w fun e w' => e = .returned (.tuple #[lvA q p (.func (.func 75) #[] #[]), .int .i64 0]) ∧ Below w.heap.size w w' := by
  obtain ⟨s, d, sp, dp⟩ := p
  go_enter Try.func57, Try.ntmps57
  go_wp2_with fail
  refine bodyPost_ret (v := .tuple #[lvA q ⟨s, d, sp, dp⟩ (.func (.func 75) #[] #[]), .int .i64 0]) (by simp [results, Try.results57, go_sem]) rfl ⟨rfl, ?_⟩
  exact Below.alN (Below.alN (Below.refl _ _) _) _
set_option maxHeartbeats 1000000 in
theorem pass1_any (w : World) : Calls Try.prog 75 #[] w fun e w' => e = .returned (.tuple #[]) ∧ w' = w := by
  go_enter Try.func75, Try.ntmps75
  go_wp2_with fail
  go_returns
  exact ⟨rfl, rfl⟩

/-! ### what is learned, and forgotten -/
section
variable {w : World} {m : Mp} {ds : List Dv} {ls : List Lk} {n : Nat} {M : Mnd}
theorem MemAt.ne_f (h : MemAt w m ds ls n M) : m.B ≠ m.f := fun e => by
  obtain ⟨es, c, hb⟩ := h.fl.isMap
  exact h.notMap es c (by rw [e]; exact hb)
theorem MemAt.ne_o (h : MemAt w m ds ls n M) : m.B ≠ m.o := fun e => by
  obtain ⟨es, c, hb⟩ := h.ow.isMap
  exact h.notMap es c (by rw [e]; exact hb)
theorem MemAt.ne_k (h : MemAt w m ds ls n M) : m.B ≠ m.k := fun e => by
  obtain ⟨es, c, hb⟩ := h.bk.isMap
  exact h.notMap es c (by rw [e]; exact hb)
theorem MemAt.turnF {w' : World} {n' : Nat} {g : Int × Pk → Option Unit} (h : MemAt w m ds ls n M) (hn : n ≤ n') (hf : MapAt pofE unitV w' m.f n' g) (ht : w.mapTurned w' m.f) : MemAt w' m ds ls n' { M with fl := g } ∧ HK m w w' := by
  have hc := CK.of_turned ht
  exact ⟨⟨⟨(mapTurned_block ht h.ne_f).trans h.blk.1, h.blk.2⟩, (h.devs.ck hc).mono hc.size, (h.links.ck hc).mono hc.size, hf, (h.ow.same (mapTurned_block ht h.fo.symm)).mono hn, (h.bk.same (mapTurned_block ht h.fk.symm)).mono hn, h.fo, h.fk, h.ok⟩, HK.of_turned ht (by simp)⟩
theorem MemAt.turnO {w' : World} {n' : Nat} {g : Int × Int → Option (Int × Int)} (h : MemAt w m ds ls n M) (hn : n ≤ n') (hf : MapAt prtE endV w' m.o n' g) (ht : w.mapTurned w' m.o) : MemAt w' m ds ls n' { M with ow := g } ∧ HK m w w' := by
  have hc := CK.of_turned ht
  exact ⟨⟨⟨(mapTurned_block ht h.ne_o).trans h.blk.1, h.blk.2⟩, (h.devs.ck hc).mono hc.size, (h.links.ck hc).mono hc.size, (h.fl.same (mapTurned_block ht h.fo)).mono hn, hf, (h.bk.same (mapTurned_block ht h.ok.symm)).mono hn, h.fo, h.fk, h.ok⟩, HK.of_turned ht (by simp)⟩
theorem MemAt.turnK {w' : World} {n' : Nat} {g : Int × Pk → Option Int} (h : MemAt w m ds ls n M) (hn : n ≤ n') (hf : MapAt pofE intV w' m.k n' g) (ht : w.mapTurned w' m.k) : MemAt w' m ds ls n' { M with bk := g } ∧ HK m w w' := by
  have hc := CK.of_turned ht
  exact ⟨⟨⟨(mapTurned_block ht h.ne_k).trans h.blk.1, h.blk.2⟩, (h.devs.ck hc).mono hc.size, (h.links.ck hc).mono hc.size, (h.fl.same (mapTurned_block ht h.fk)).mono hn, (h.ow.same (mapTurned_block ht h.ok)).mono hn, hf, h.fo, h.fk, h.ok⟩, HK.of_turned ht (by simp)⟩
theorem MemAt.learnF (h : MemAt w m ds ls n M) (hn : n < maxLen) {i : Int} {p : Pk} (hi : i64ok i) (hp : p.ok) : ∃ w', (Instr.mapUpdate 67 (.map (some m.f)) (.agg #[.int .i64 i, .int .i64 p.s, .int .i64 p.d, .int .i64 p.sp, .int .i64 p.dp]) (.agg #[])).run Try.prog w = .ok () w' ∧ MemAt w' m ds ls (n + 1) (learnP M (.flow i p)) ∧ HK m w w' := by
  obtain ⟨w', hr, hm, ht⟩ := h.fl.store uMf hn (x := (i, p)) ⟨hi, hp⟩ ()
  exact ⟨w', hr, h.turnF (by omega) hm ht⟩
theorem MemAt.learnO (h : MemAt w m ds ls n M) (hn : n < maxLen) {i k : Int} {s : Int × Int} (hi : i64ok i) (hk : i64ok k) : ∃ w', (Instr.mapUpdate 68 (.map (some m.o)) (.agg #[.int .i64 i, .int .i64 k]) (.agg #[.int .i64 s.1, .int .i64 s.2])).run Try.prog w = .ok () w' ∧ MemAt w' m ds ls (n + 1) (learnP M (.own i k s)) ∧ HK m w w' := by
  obtain ⟨w', hr, hm, ht⟩ := h.ow.store uMo hn (x := (i, k)) ⟨hi, hk⟩ s
  exact ⟨w', hr, h.turnO (by omega) hm ht⟩
theorem MemAt.learnB (h : MemAt w m ds ls n M) (hn : n < maxLen) {i : Int} {p : Pk} {b : Int} (hi : i64ok i) (hp : p.ok) : ∃ w', (Instr.mapUpdate 69 (.map (some m.k)) (.agg #[.int .i64 i, .int .i64 p.s, .int .i64 p.d, .int .i64 p.sp, .int .i64 p.dp]) (.int .i64 b)).run Try.prog w = .ok () w' ∧ MemAt w' m ds ls (n + 1) (learnP M (.back i p b)) ∧ HK m w w' := by
  obtain ⟨w', hr, hm, ht⟩ := h.bk.store uMk hn (x := (i, p)) ⟨hi, hp⟩ b
  exact ⟨w', hr, h.turnK (by omega) hm ht⟩
end
/-- What a function that learns reads: in blocks from N on. -/
def LrnAt (N : Nat) (w : World) (m : Mp) (fv : Value) : Lrn → Prop
  | .no => fv = .func (.func 75) #[] #[]
  | .flow i p => i64ok i ∧ p.ok ∧ ∃ a b, fv = .func (.func 58) #[] #[.pointer (some ⟨a, 0, none⟩), .pointer (some ⟨b, 0, none⟩)] ∧ N ≤ a ∧ N ≤ b ∧ w.cell? ⟨a, 0, none⟩ = some (.pointer (some ⟨m.B, m.z, none⟩)) ∧ w.cell? ⟨b, 0, none⟩ = some (.int .i64 i) ∧ w.cell? ⟨b, 1, none⟩ = some (.int .i64 p.s) ∧ w.cell? ⟨b, 2, none⟩ = some (.int .i64 p.d) ∧ w.cell? ⟨b, 3, none⟩ = some (.int .i64 p.sp) ∧ w.cell? ⟨b, 4, none⟩ = some (.int .i64 p.dp)
  | .own i k s => i64ok i ∧ i64ok k ∧ ∃ a b c d, fv = .func (.func 62) #[] #[.pointer (some ⟨a, 0, none⟩), .pointer (some ⟨b, 0, none⟩), .pointer (some ⟨c, 0, none⟩), .pointer (some ⟨d, 0, none⟩)] ∧ N ≤ a ∧ N ≤ b ∧ N ≤ c ∧ N ≤ d ∧ w.cell? ⟨a, 0, none⟩ = some (.int .i64 s.1) ∧ w.cell? ⟨a, 1, none⟩ = some (.int .i64 s.2) ∧ w.cell? ⟨b, 0, none⟩ = some (.pointer (some ⟨m.B, m.z, none⟩)) ∧ w.cell? ⟨c, 0, none⟩ = some (.int .i64 i) ∧ w.cell? ⟨d, 0, none⟩ = some (.int .i64 k)
  | .back i p x => i64ok i ∧ p.ok ∧ ∃ a b c, fv = .func (.func 63) #[] #[.pointer (some ⟨a, 0, none⟩), .pointer (some ⟨b, 0, none⟩), .pointer (some ⟨c, 0, none⟩)] ∧ N ≤ a ∧ N ≤ b ∧ N ≤ c ∧ w.cell? ⟨a, 0, none⟩ = some (.int .i64 x) ∧ w.cell? ⟨b, 0, none⟩ = some (.pointer (some ⟨m.B, m.z, none⟩)) ∧ w.cell? ⟨c, 0, none⟩ = some (.int .i64 i) ∧ w.cell? ⟨c, 1, none⟩ = some (.int .i64 p.s) ∧ w.cell? ⟨c, 2, none⟩ = some (.int .i64 p.d) ∧ w.cell? ⟨c, 3, none⟩ = some (.int .i64 p.sp) ∧ w.cell? ⟨c, 4, none⟩ = some (.int .i64 p.dp)
theorem LrnAt.keep {N N' : Nat} {w w' : World} {m : Mp} {fv : Value} {l : Lrn} (h : LrnAt N w m fv l) (hN : N' ≤ N) (C : ∀ {b o : Nat} {v : Value}, N ≤ b → w.cell? ⟨b, o, none⟩ = some v → w'.cell? ⟨b, o, none⟩ = some v) : LrnAt N' w' m fv l := by
  cases l with
  | no => exact h
  | flow i p =>
    obtain ⟨hi, hp, a, b, e, n1, n2, h0, h1, h2, h3, h4, h5⟩ := h
    exact ⟨hi, hp, a, b, e, by omega, by omega, C n1 h0, C n2 h1, C n2 h2, C n2 h3, C n2 h4, C n2 h5⟩
  | own i k s =>
    obtain ⟨hi, hp, a, b, c, d, e, n1, n2, n3, n4, h0, h1, h2, h3, h4⟩ := h
    exact ⟨hi, hp, a, b, c, d, e, by omega, by omega, by omega, by omega, C n1 h0, C n1 h1, C n2 h2, C n3 h3, C n4 h4⟩
  | back i p x =>
    obtain ⟨hi, hp, a, b, c, e, n1, n2, n3, h0, h1, h2, h3, h4, h5, h6⟩ := h
    exact ⟨hi, hp, a, b, c, e, by omega, by omega, by omega, C n1 h0, C n2 h1, C n3 h2, C n3 h3, C n3 h4, C n3 h5, C n3 h6⟩
theorem LrnAt.below {N : Nat} {w w' : World} {m : Mp} {fv : Value} {l : Lrn} (h : LrnAt N w m fv l) (hb : Below w.heap.size w w') : LrnAt N w' m fv l :=
  h.keep (Nat.le_refl _) (fun _ hc => (CK.of_below hb).cell hc)
set_option maxHeartbeats 1000000 in
theorem ask1_any (a b : Nat) (m : Mp) (ds : List Dv) (ls : List Lk) (n : Nat) (M : Mnd) (i : Int) (p : Pk) (w : World) (hM : Hid (MemAt w m ds ls n M)) (hn : n < maxLen) (hi : i64ok i) (hp : p.ok) (h0 : w.cell? ⟨a, 0, none⟩ = some (.pointer (some ⟨m.B, m.z, none⟩))) (h1 : w.cell? ⟨b, 0, none⟩ = some (.int .i64 i)) (h2 : w.cell? ⟨b, 1, none⟩ = some (.int .i64 p.s)) (h3 : w.cell? ⟨b, 2, none⟩ = some (.int .i64 p.d)) (h4 : w.cell? ⟨b, 3, none⟩ = some (.int .i64 p.sp)) (h5 : w.cell? ⟨b, 4, none⟩ = some (.int .i64 p.dp)) :
    Calls Try.prog 58 #[.pointer (some ⟨a, 0, none⟩), .pointer (some ⟨b, 0, none⟩)] w fun e w' => e = .returned (.tuple #[]) ∧ MemAt w' m ds ls (n + 1) (learnP M (.flow i p)) ∧ HK m w w' := by
  obtain ⟨w1, hrun, hm, hk⟩ := hM.out.drew.learnF hn hi hp
  have hk' : HK m w w1 := (HK.of_below (Below.drew (Below.refl _ _))).trans hk
  obtain ⟨_, _, q0, _, _⟩ := hM.out.cells
  clear hM hi hp hn hk
  go_enter Try.func58, Try.ntmps58
  go_region
  go_returns
  exact ⟨rfl, hm, hk'⟩
set_option maxHeartbeats 1000000 in
theorem hide1_any (a b c d : Nat) (m : Mp) (ds : List Dv) (ls : List Lk) (n : Nat) (M : Mnd) (i k : Int) (s : Int × Int) (w : World) (hM : Hid (MemAt w m ds ls n M)) (hn : n < maxLen) (hi : i64ok i) (hk : i64ok k) (h0 : w.cell? ⟨a, 0, none⟩ = some (.int .i64 s.1)) (h1 : w.cell? ⟨a, 1, none⟩ = some (.int .i64 s.2)) (h2 : w.cell? ⟨b, 0, none⟩ = some (.pointer (some ⟨m.B, m.z, none⟩))) (h3 : w.cell? ⟨c, 0, none⟩ = some (.int .i64 i)) (h4 : w.cell? ⟨d, 0, none⟩ = some (.int .i64 k)) :
    Calls Try.prog 62 #[.pointer (some ⟨a, 0, none⟩), .pointer (some ⟨b, 0, none⟩), .pointer (some ⟨c, 0, none⟩), .pointer (some ⟨d, 0, none⟩)] w fun e w' => e = .returned (.tuple #[]) ∧ MemAt w' m ds ls (n + 1) (learnP M (.own i k s)) ∧ HK m w w' := by
  obtain ⟨w1, hrun, hm, hk1⟩ := hM.out.drew.learnO hn (s := s) hi hk
  have hk' : HK m w w1 := (HK.of_below (Below.drew (Below.refl _ _))).trans hk1
  obtain ⟨_, _, _, q0, _⟩ := hM.out.cells
  clear hM hi hk hn hk1
  go_enter Try.func62, Try.ntmps62
  go_region
  go_returns
  exact ⟨rfl, hm, hk'⟩
set_option maxHeartbeats 1000000 in
theorem spread1_any (a b c : Nat) (m : Mp) (ds : List Dv) (ls : List Lk) (n : Nat) (M : Mnd) (i : Int) (p : Pk) (x : Int) (w : World) (hM : Hid (MemAt w m ds ls n M)) (hn : n < maxLen) (hi : i64ok i) (hp : p.ok) (h6 : w.cell? ⟨a, 0, none⟩ = some (.int .i64 x)) (h0 : w.cell? ⟨b, 0, none⟩ = some (.pointer (some ⟨m.B, m.z, none⟩))) (h1 : w.cell? ⟨c, 0, none⟩ = some (.int .i64 i)) (h2 : w.cell? ⟨c, 1, none⟩ = some (.int .i64 p.s)) (h3 : w.cell? ⟨c, 2, none⟩ = some (.int .i64 p.d)) (h4 : w.cell? ⟨c, 3, none⟩ = some (.int .i64 p.sp)) (h5 : w.cell? ⟨c, 4, none⟩ = some (.int .i64 p.dp)) :
    Calls Try.prog 63 #[.pointer (some ⟨a, 0, none⟩), .pointer (some ⟨b, 0, none⟩), .pointer (some ⟨c, 0, none⟩)] w fun e w' => e = .returned (.tuple #[]) ∧ MemAt w' m ds ls (n + 1) (learnP M (.back i p x)) ∧ HK m w w' := by
  obtain ⟨w1, hrun, hm, hk⟩ := hM.out.drew.learnB hn (b := x) hi hp
  have hk' : HK m w w1 := (HK.of_below (Below.drew (Below.refl _ _))).trans hk
  obtain ⟨_, _, _, _, q0⟩ := hM.out.cells
  clear hM hi hp hn hk
  go_enter Try.func63, Try.ntmps63
  go_region
  go_returns
  exact ⟨rfl, hm, hk'⟩
end Go.Proofs.Ythioedgnambomaa
