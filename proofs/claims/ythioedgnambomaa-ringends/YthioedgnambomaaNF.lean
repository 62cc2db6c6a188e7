/-
  Package net: a device of a name.
-/
import Derived.Test.YthioedgnambomaaNM
namespace Go.Proofs.Ythioedgnambomaa
open Go.RowKit

/-- The first device of a name, from number k on; -1: none. -/
def findFrom (ds : List Dv) (s : List UInt8) (k : Nat) : Int :=
  if h : k < ds.length then (if ds[k].name.toList == s then (k : Int) else findFrom ds s (k + 1)) else -1
termination_by ds.length - k
theorem findFrom_at {ds : List Dv} {s : List UInt8} {k : Nat} {d : Dv} (h : ds[k]? = some d) : findFrom ds s k = if d.name.toList == s then (k : Int) else findFrom ds s (k + 1) := by
  obtain ⟨hk, e⟩ := List.getElem?_eq_some_iff.1 h
  rw [findFrom, dif_pos hk, e]
theorem findFrom_end {ds : List Dv} {s : List UInt8} {k : Nat} (h : ds.length ≤ k) : findFrom ds s k = -1 := by rw [findFrom, dif_neg (by omega)]
theorem findFrom_any (ds : List Dv) (s : List UInt8) : ∀ (m k : Nat), ds.length - k ≤ m → decide (0 ≤ findFrom ds s k) = (ds.drop k).any (fun x => x.name.toList == s)
  | 0, k, h => by rw [findFrom_end (by omega), List.drop_eq_nil_of_le (by omega)]; rfl
  | m + 1, k, h => by
    by_cases hk : k < ds.length
    · rw [findFrom_at (List.getElem?_eq_getElem hk), List.drop_eq_getElem_cons hk, List.any_cons, ← findFrom_any ds s m (k + 1) (by omega)]
      cases e : (ds[k].name.toList == s)
      · simp
      · simp
    · rw [findFrom_end (by omega), List.drop_eq_nil_of_le (by omega)]; rfl
theorem findFrom_some (ds : List Dv) (s : List UInt8) : decide (0 ≤ findFrom ds s 0) = ds.any (fun x => x.name.toList == s) := findFrom_any ds s ds.length 0 (by omega)
theorem Devs.at {base : Nat} {w : World} {A : Option Addr} {n cap : Nat} {ds : List Dv} (h : Devs base w (.slice A n cap) ds) {k : Nat} {d : Dv} (hk : ds[k]? = some d) :
    ∃ b o vb vr vt, A = some ⟨b, o, none⟩ ∧ b < base ∧ SlAt base w 1 IsI vb d.backs ∧ SlAt base w 5 IsRule vr d.rules ∧ SlAt base w 3 IsRoute vt d.routes ∧
      w.cell? ⟨b, o + k * 7, none⟩ = some (.string d.name) ∧ w.cell? ⟨b, o + k * 7 + 1, none⟩ = some (.int .i64 d.kind) ∧ w.cell? ⟨b, o + k * 7 + 2, none⟩ = some (.int .i64 d.addr) ∧ w.cell? ⟨b, o + k * 7 + 3, none⟩ = some (.int .u8 (d.pool : Int)) ∧ w.cell? ⟨b, o + k * 7 + 4, none⟩ = some vb ∧ w.cell? ⟨b, o + k * 7 + 5, none⟩ = some vr ∧ w.cell? ⟨b, o + k * 7 + 6, none⟩ = some vt := by
  obtain ⟨A', cap', e, _, _, _, h3⟩ := h
  cases e
  obtain ⟨b, o, ea, hl, hr⟩ := h3 (fun e => by subst e; simp at hk)
  obtain ⟨cs, _, ⟨vb, vr, vt, rfl, s1, s2, s3⟩, hc⟩ := hr k d hk
  exact ⟨b, o, vb, vr, vt, ea, hl, s1, s2, s3, hc 0 _ rfl, hc 1 _ rfl, hc 2 _ rfl, hc 3 _ rfl, hc 4 _ rfl, hc 5 _ rfl, hc 6 _ rfl⟩
theorem Devs.len {base : Nat} {w : World} {A : Option Addr} {n cap : Nat} {ds : List Dv} (h : Devs base w (.slice A n cap) ds) : n = ds.length ∧ n ≤ cap ∧ cap ≤ maxLen := by
  obtain ⟨A', cap', e, _, h1, h2, _⟩ := h
  cases e
  exact ⟨rfl, h1, h2⟩
theorem SlAt.take {α : Type} {base : Nat} {w : World} {n : Nat} {R : List Value → α → Prop} {A : Option Addr} {m cap : Nat} {xs : List α} (h : SlAt base w n R (.slice A m cap) xs) (k : Nat) (hk : k ≤ xs.length) : SlAt base w n R (.slice A k cap) (xs.take k) := by
  obtain ⟨A', cap', e, h0, h1, h2, h3⟩ := h
  cases e
  refine ⟨A, cap, by rw [List.length_take, Nat.min_eq_left hk], h0, by rw [List.length_take]; omega, h2, fun hn => ?_⟩
  obtain ⟨b, o, ea, hl, hr⟩ := h3 (fun e => hn (by rw [e, List.take_nil]))
  refine ⟨b, o, ea, hl, fun j x hx => hr j x ?_⟩
  rw [List.getElem?_take] at hx
  split at hx
  · exact hx
  · cases hx
set_option maxHeartbeats 1000000 in
theorem find1_any (nm s : ByteArray) (k ad : Int) (pl : Nat) (vb vr vt : Value) (n0 : Nat) (w : World) (hn : n0 < w.heap.size) (hc : w.cell? ⟨n0, 0, none⟩ = some (.string s)) :
    Calls Try.prog 64 #[devA nm k ad pl vb vr vt, .pointer (some ⟨n0, 0, none⟩)] w fun e w' => e = .returned (.bool (nm.toList == s.toList)) ∧ Below w.heap.size w w' := by
  have D0 := Below.alN (Below.refl w.heap.size w) (.cells #[.string nm, .int .i64 k, .int .i64 ad, .int .u8 (pl : Int), vb, vr, vt] 42)
  have c1 : (w.alloc (.cells #[.string nm, .int .i64 k, .int .i64 ad, .int .u8 (pl : Int), vb, vr, vt] 42)).cell? ⟨n0, 0, none⟩ = some (.string s) := (D0.cell (p := ⟨n0, 0, none⟩) hn).trans hc
  go_enter Try.func64, Try.ntmps64
  go_wp2_with fail
  go_ret
  exact ⟨rfl, D0⟩
set_option maxHeartbeats 4000000 in
set_option maxRecDepth 100000 in
theorem findIdx_any (A : Option Addr) (n cap : Nat) (ds : List Dv) (s : ByteArray) (n0 : Nat) (w : World) (hD : Hid (Devs w.heap.size w (.slice A n cap) ds)) (hn0 : n0 < w.heap.size) (hc0 : Hid (w.cell? ⟨n0, 0, none⟩ = some (.string s))) :
    Calls Try.prog 43 #[.slice A n cap, .func (.func 64) #[] #[.pointer (some ⟨n0, 0, none⟩)]] w fun e w' => e = .returned (.int .i64 (findFrom ds s.toList 0)) ∧ Below w.heap.size w w' := by
  obtain ⟨rfl, hc, hm⟩ := hD.out.len
  unfold maxLen at hm
  generalize hres : findFrom ds s.toList 0 = res
  have HR : Hid (findFrom ds s.toList 0 = res) := hres
  clear hres
  go_enter Try.func43, Try.ntmps43
  go_wp2_with fail
  go_loopw [8] (fun i wr => ∃ k : Nat, i = .int .i64 (k : Int) ∧ k ≤ ds.length ∧ Below w.heap.size w wr ∧ Hid (findFrom ds s.toList k = res)) (fun i _ => ds.length - (intOf i).toNat)
  case atStart => exact ⟨0, rfl, by omega, Below.refl _ _, HR⟩
  case round =>
    obtain ⟨k, rfl, hk, D1, hno⟩ := hrel
    by_cases hlt : k < ds.length
    · obtain ⟨d, hxk⟩ : ∃ d, ds[k]? = some d := ⟨_, List.getElem?_eq_getElem hlt⟩
      obtain ⟨b, o, vb, vr, vt, rfl, hb, _, _, _, c0, c1, c2, c3, c4, c5, c6⟩ := (hD.out.below D1).at hxk
      have PR : Hid (Calls Try.prog 64 #[devA d.name d.kind d.addr d.pool vb vr vt, .pointer (some ⟨n0, 0, none⟩)] wr fun e w' => e = .returned (.bool (d.name.toList == s.toList)) ∧ Below wr.heap.size wr w') := find1_any d.name s d.kind d.addr d.pool vb vr vt n0 wr (Nat.lt_of_lt_of_le hn0 D1.size) ((D1.cell (p := ⟨n0, 0, none⟩) hn0).trans hc0.out)
      have HF : Hid (findFrom ds s.toList k = if d.name.toList == s.toList then (k : Int) else findFrom ds s.toList (k + 1)) := findFrom_at hxk
      have k1 : (0 : Int) ≤ (k : Int) := by omega
      have k2 : (k : Int) < (ds.length : Int) := by omega
      clear hxk hD HR hc0
      generalize (d.name.toList == s.toList) = x at *
      generalize d.name = nm at *
      generalize d.kind = kd at *
      generalize d.addr = ad at *
      generalize d.pool = pl at *
      cases x
      · have HV : Hid (findFrom ds s.toList (k + 1) = res) := by
          show _ = _
          rw [← hno.out, HF.out]
          simp
        clear HF hno
        go_wp2_with fail
        refine PR.out.mono ?_
        rintro e w2 ⟨rfl, hb2⟩
        have D2 := chnN hb2 D1
        clear hb2 D1 c0 c1 c2 c3 c4 c5 c6 PR
        go_wp2_with fail
        go_roundw
        case rel => exact ⟨k + 1, by go_num, by omega, D2, HV⟩
        case measure => simp [intOf]; omega
      · have HV : Hid (res = (k : Int)) := by
          show _ = _
          rw [← hno.out, HF.out]
          simp
        clear HF hno
        go_wp2_with fail
        refine PR.out.mono ?_
        rintro e w2 ⟨rfl, hb2⟩
        have D2 := chnN hb2 D1
        clear hb2 D1 c0 c1 c2 c3 c4 c5 c6 PR
        go_wp2_with fail
        go_ret
        exact ⟨by rw [HV.out]; rfl, D2⟩
    · have HV : Hid (res = -1) := by
        show _ = _
        rw [← hno.out, findFrom_end (by omega)]
      go_wp2_with fail
      go_ret
      exact ⟨by rw [HV.out]; rfl, D1⟩
set_option maxHeartbeats 1000000 in
theorem find_any (A : Option Addr) (n cap : Nat) (ds : List Dv) (s : ByteArray) (w : World) (hD : Devs w.heap.size w (.slice A n cap) ds) :
    Calls Try.prog 45 #[.slice A n cap, .string s] w fun e w' => e = .returned (.tuple #[.int .i64 (if 0 ≤ findFrom ds s.toList 0 then findFrom ds s.toList 0 else 0), .bool (decide (0 ≤ findFrom ds s.toList 0))]) ∧ Below w.heap.size w w' := by
  have D0 := Below.alN (Below.refl w.heap.size w) (.cells #[.string s] 9)
  have FI : Hid (Calls Try.prog 43 #[.slice A n cap, .func (.func 64) #[] #[.pointer (some ⟨w.heap.size, 0, none⟩)]] (w.alloc (.cells #[.string s] 9)) fun e w' => e = .returned (.int .i64 (findFrom ds s.toList 0)) ∧ Below (w.alloc (.cells #[.string s] 9)).heap.size (w.alloc (.cells #[.string s] 9)) w') := findIdx_any A n cap ds s w.heap.size _ ((hD.below D0).mono D0.size) (by simp) (by show _ = _; simp [go_sem])
  clear hD
  generalize findFrom ds s.toList 0 = j at *
  cases h : decide (0 ≤ j)
  · have h1 : ¬ 0 ≤ j := by simpa using h
    have h2 : j < 0 := by omega
    rw [if_neg h1]
    go_enter Try.func45, Try.ntmps45
    go_wp2_with fail
    refine FI.out.mono ?_
    rintro e w1 ⟨rfl, hb1⟩
    have D1 := chnN hb1 D0
    go_wp2_with fail
    go_ret2
    exact ⟨by simp, D1⟩
  · have h1 : 0 ≤ j := by simpa using h
    rw [if_pos h1]
    go_enter Try.func45, Try.ntmps45
    go_wp2_with fail
    refine FI.out.mono ?_
    rintro e w1 ⟨rfl, hb1⟩
    have D1 := chnN hb1 D0
    go_wp2_with fail
    go_ret2
    exact ⟨by simp, D1⟩
end Go.Proofs.Ythioedgnambomaa
