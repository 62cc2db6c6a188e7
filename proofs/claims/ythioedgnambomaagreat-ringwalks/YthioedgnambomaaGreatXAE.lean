/-
  The document's answer on routes: Out of any list, Routes.
-/
import Derived.Test.YthioedgnambomaaGreatXAD
import Derived.Test.YthioedgnambomaaGreatLy
import Derived.Test.YthioedgnambomaaGreatXAC
import Derived.Test.YthioedgnambomaaGreatXAA
import Derived.Test.YthioedgnambomaaGreatProg
import Derived.Maps.OwnSet
import Derived.WalkKit
import Derived.DeepKeys5
namespace Go.Proofs.YthioedgnambomaaGreat
open Go.RowKit

set_option maxHeartbeats 2000000 in
theorem rout_nil (A : Option Addr) (cap : Nat) (d : Int) (w : World) (h0 : 0 ≤ d) (h1 : d < 16) :
    Calls Tryz.prog 32 #[.slice A 0 cap, .int .i64 d] w fun e w' => e = .returned (.tuple #[.int .i64 0, .bool false]) ∧ Below w.heap.size w w' := by
  have IN : Hid (∀ w, Calls Tryz.prog 7 #[.int .i64 d, .int .i64 0, .int .i64 15] w fun e w' => e = .returned (.bool true) ∧ w' = w) := fun w => by
    have := finR d 0 15 w
    rw [show (decide (0 ≤ d) && decide (d ≤ 15)) = true by simp; omega] at this
    exact this
  clear h0 h1
  go_enter Tryz.func32, Tryz.ntmps32
  go_wp2_with fail
  go_loopw [6] (fun i wr => ∃ j : Int, i = .int .i64 j ∧ -1 ≤ j ∧ j ≤ 4 ∧ Below w.heap.size w wr) (fun i _ => (intOf i + 1).toNat)
  case atStart => exact ⟨4, rfl, by omega, by omega, Below.refl _ _⟩
  case round =>
    obtain ⟨j, rfl, hj1, hj2, D1⟩ := hrel
    by_cases hj : j = -1
    · subst hj
      go_wp2_with fail
      go_ret2
      exact ⟨rfl, D1⟩
    · obtain ⟨m, rfl⟩ : ∃ m : Nat, j = m := ⟨j.toNat, by omega⟩
      have tm : decide ((0 : Int) ≤ (m : Int)) = true := by simp
      clear hj hj1
      go_wp2_with fail
      refine (IN.out _).mono ?_
      rintro e w1 ⟨rfl, rfl⟩
      go_wp2_with fail
      go_loopw [7] (fun i wr => i = .int .i64 0 ∧ Below w.heap.size w wr) (fun i _ => 0)
      case atStart => exact ⟨rfl, D1⟩
      case round =>
        clear D1
        obtain ⟨rfl, D1⟩ := hrel
        go_wp2_with fail
        go_roundw
        case rel => exact ⟨(m : Int) - 1, by go_num, by omega, by omega, D1⟩
        case measure => simp [intOf]

set_option maxHeartbeats 1000000 in
theorem rout_wide (v : Value) (d : Int) (w : World) (h : d < 0 ∨ 16 ≤ d) :
    Calls Tryz.prog 32 #[v, .int .i64 d] w fun e w' => e = .returned (.tuple #[.int .i64 0, .bool false]) ∧ Below w.heap.size w w' := by
  have IN : Hid (∀ w, Calls Tryz.prog 7 #[.int .i64 d, .int .i64 0, .int .i64 15] w fun e w' => e = .returned (.bool false) ∧ w' = w) := fun w => by
    have := finR d 0 15 w
    rw [show (decide (0 ≤ d) && decide (d ≤ 15)) = false by
      rcases h with h | h
      · simp; omega
      · simp; omega] at this
    exact this
  clear h
  go_enter Tryz.func32, Tryz.ntmps32
  go_wp2_with fail
  go_loopw [6] (fun i wr => i = .int .i64 4 ∧ wr = w) (fun i _ => 0)
  case atStart => exact ⟨rfl, rfl⟩
  case round =>
    obtain ⟨rfl, rfl⟩ := hrel
    go_wp2_with fail
    refine (IN.out _).mono ?_
    rintro e w1 ⟨rfl, rfl⟩
    go_wp2_with fail
    go_ret2
    exact ⟨rfl, Below.refl _ _⟩

/-- The document's Out. -/
theorem rout_any {v : Value} {xs : List Rt} (d : Int) (w : World) (h : Routes w.heap.size w v xs) :
    Calls Tryz.prog 32 #[v, .int .i64 d] w fun e w' => e = .returned (.tuple #[.int .i64 (outN xs d), .bool (outB xs d)]) ∧ Below w.heap.size w w' := by
  by_cases hd : 0 ≤ d ∧ d < 16
  · obtain ⟨e1, e2⟩ := rout_out xs hd
    rw [← e1, ← e2]
    obtain ⟨A, cap, rfl, _, h1, h2, h3⟩ := h
    by_cases hx : xs = []
    · subst hx
      exact rout_nil A cap d w hd.1 hd.2
    · obtain ⟨b, o, rfl, hb, hr⟩ := h3 hx
      exact rout_row b o cap xs d w hb h1 h2 hr hd.1 hd.2
  · have e1 : outN xs d = 0 := by unfold outN; rw [if_neg hd]
    have e2 : outB xs d = false := by
      unfold outB
      by_cases h0 : 0 ≤ d
      · have : ¬ d < 16 := fun h1 => hd ⟨h0, h1⟩
        simp [this]
      · simp [h0]
    rw [e1, e2]
    exact rout_wide v d w (by omega)

set_option maxHeartbeats 8000000 in
set_option maxRecDepth 100000 in
theorem routes_row (b o cap : Nat) (xs : List Rt) (w : World) (hb : b < w.heap.size) (hr : Hid (TAt w b o xs)) (h8 : xs.length ≤ 8) :
    Calls Tryz.prog 46 #[.slice (some ⟨b, o, none⟩) xs.length cap] w fun e w' => e = .returned (.int .i64 (checkFrom xs 0)) ∧ Below w.heap.size w w' := by
  have t8 : decide ((8 : Int) < (xs.length : Int)) = false := by simp; omega
  go_enter Tryz.func46, Tryz.ntmps46
  go_wp2_with fail
  go_loopw [3] (fun i wr => ∃ k : Nat, i = .int .i64 (k : Int) ∧ k ≤ xs.length ∧ Below w.heap.size w wr ∧ Hid (checkFrom xs 0 = checkFrom xs k)) (fun i _ => xs.length - (intOf i).toNat)
  case atStart => exact ⟨0, rfl, by omega, Below.refl _ _, rfl⟩
  case round =>
    obtain ⟨k, rfl, hk, D1, hl⟩ := hrel
    by_cases hlt : k < xs.length
    · obtain ⟨r, hxk⟩ : ∃ r, xs[k]? = some r := ⟨_, List.getElem?_eq_getElem hlt⟩
      obtain ⟨c0, c1, c2⟩ := (hr.out.below D1 hb).at hxk
      have Hd : Hid (checkFrom xs k = if (if isR r then (if (xs.take k).any (fun a => sameA a r) then 5 else 0) else 1 : Int) = 0 then checkFrom xs (k + 1) else (if isR r then (if (xs.take k).any (fun a => sameA a r) then 5 else 0) else 1 : Int)) := checkFrom_at hxk
      have IS : Hid (∀ w, Calls Tryz.prog 68 #[rtw r.v r.b r.p] w fun e w' => e = .returned (.bool (isR r)) ∧ Below w.heap.size w w') := fun w => rright_any r w
      have HX : Hid (xs[k]? = some r) := hxk
      have k1 : (0 : Int) ≤ (k : Int) := by omega
      have k2 : (k : Int) < (xs.length : Int) := by omega
      clear hxk
      cases hx : isR r
      · rw [hx] at IS Hd
        have fin : Hid (checkFrom xs 0 = 1) := by show _ = _; rw [hl.out, Hd.out]; simp
        clear hl Hd HX hx
        generalize r.v = rv0 at *
        generalize r.b = rb0 at *
        generalize r.p = rp0 at *
        go_wp2_with fail
        refine (IS.out _).mono ?_
        rintro e w3 ⟨rfl, hb3⟩
        have D3 := chn hb3 D1
        clear hb3 D1 c0 c1 c2 IS
        go_wp2_with fail
        go_ret
        exact ⟨by rw [fin.out]; rfl, D3⟩
      · rw [hx] at IS Hd
        clear hx
        go_wp2_with fail
        refine (IS.out _).mono ?_
        rintro e w3 ⟨rfl, hb3⟩
        have D3 := chn hb3 D1
        clear hb3 D1 c0 c1 c2 IS
        go_wp2_with fail
        go_loopw [4] (fun i wr => ∃ j : Nat, i = .int .i64 (j : Int) ∧ j ≤ k ∧ Below w.heap.size w wr ∧ Hid ((xs.take j).any (fun a => sameA a r) = false)) (fun i _ => k - (intOf i).toNat)
        case atStart => exact ⟨0, rfl, by omega, D3, rfl⟩
        case round =>
          clear D3
          obtain ⟨j, rfl, hj, D1, hno⟩ := hrel
          by_cases hjk : j < k
          · obtain ⟨a, hxj⟩ : ∃ a, xs[j]? = some a := ⟨_, List.getElem?_eq_getElem (by omega)⟩
            obtain ⟨c0, c1, c2⟩ := (hr.out.below D1 hb).at HX.out
            obtain ⟨g0, g1, g2⟩ := (hr.out.below D1 hb).at hxj
            have j1 : (0 : Int) ≤ (j : Int) := by omega
            have j2 : (j : Int) < (xs.length : Int) := by omega
            have NX : Hid (((a.v == r.v) && (a.b == r.b)) = false → Hid ((xs.take (j + 1)).any (fun a => sameA a r) = false)) := fun h => by
              show _ = _
              rw [any_take hxj, hno.out]
              exact h
            have HT : Hid (((a.v == r.v) && (a.b == r.b)) = true → checkFrom xs 0 = 5) := fun h => by
              have : (xs.take k).any (fun a => sameA a r) = true := any_here (k := j) (by rw [List.getElem?_take]; simp [hjk]; rw [← hxj]) h
              rw [hl.out, Hd.out, this]
              simp
            clear hxj hno
            generalize a.v = av0 at *
            generalize a.b = ab0 at *
            generalize a.p = ap0 at *
            generalize r.v = rv0 at *
            generalize r.b = rb0 at *
            generalize r.p = rp0 at *
            cases hv : (av0 == rv0)
            · have NX' : Hid (Hid ((xs.take (j + 1)).any (fun a => sameA a r) = false)) := NX.out (by rw [hv]; rfl)
              clear NX HT
              go_wp2_with fail
              go_quiet (fail)
              go_wp2_with fail
              go_roundw
              case rel => exact ⟨j + 1, by go_num, by omega, belowN D1 _, NX'.out⟩
              case measure => simp [intOf]; omega
            · cases hv2 : (ab0 == rb0)
              · have NX' : Hid (Hid ((xs.take (j + 1)).any (fun a => sameA a r) = false)) := NX.out (by rw [hv, hv2]; rfl)
                clear NX HT
                go_wp2_with fail
                go_quiet (fail)
                go_wp2_with fail
                go_roundw
                case rel => exact ⟨j + 1, by go_num, by omega, belowN D1 _, NX'.out⟩
                case measure => simp [intOf]; omega
              · have fin : Hid (checkFrom xs 0 = 5) := HT.out (by rw [hv, hv2]; rfl)
                clear NX HT
                go_wp2_with fail
                go_quiet (fail)
                go_wp2_with fail
                go_ret
                exact ⟨by rw [fin.out]; rfl, belowN D1 _⟩
          · obtain rfl : j = k := by omega
            have HN : Hid (checkFrom xs 0 = checkFrom xs (j + 1)) := by
              show _ = _
              rw [hl.out, Hd.out, hno.out]
              simp
            go_wp2_with fail
            go_roundw
            case rel => exact ⟨j + 1, by go_num, by omega, D1, HN⟩
            case measure => simp [intOf]; omega
    · have fin : Hid (checkFrom xs 0 = 0) := by show _ = _; rw [hl.out, checkFrom_end (by omega)]
      go_wp2_with fail
      go_ret
      exact ⟨by rw [fin.out]; rfl, D1⟩
set_option maxHeartbeats 1000000 in
theorem routes_nil (A : Option Addr) (cap : Nat) (w : World) :
    Calls Tryz.prog 46 #[.slice A 0 cap] w fun e w' => e = .returned (.int .i64 0) ∧ Below w.heap.size w w' := by
  go_enter Tryz.func46, Tryz.ntmps46
  go_wp2_with fail
  go_loopw [3] (fun i wr => i = .int .i64 0 ∧ Below w.heap.size w wr) (fun i _ => 0)
  case atStart => exact ⟨rfl, Below.refl _ _⟩
  case round =>
    obtain ⟨rfl, D1⟩ := hrel
    go_wp2_with fail
    go_ret
    exact ⟨rfl, D1⟩
theorem routes_large (A : Option Addr) (n cap : Nat) (w : World) (h : 8 < n) :
    Calls Tryz.prog 46 #[.slice A n cap] w fun e w' => e = .returned (.int .i64 2) ∧ Below w.heap.size w w' := by
  have t8 : decide ((8 : Int) < (n : Int)) = true := by simp; omega
  go_enter Tryz.func46, Tryz.ntmps46
  go_wp2_with fail
  go_ret
  exact ⟨rfl, Below.refl _ _⟩
/-- The document's Check. -/
theorem routes_any {v : Value} {xs : List Rt} (w : World) (h : Routes w.heap.size w v xs) :
    Calls Tryz.prog 46 #[v] w fun e w' => e = .returned (.int .i64 (checkV xs)) ∧ Below w.heap.size w w' := by
  obtain ⟨A, cap, rfl, _, _, _, h3⟩ := h
  unfold checkV
  by_cases h8 : 8 < xs.length
  · rw [if_pos h8]
    exact routes_large A xs.length cap w h8
  · rw [if_neg h8]
    by_cases hx : xs = []
    · subst hx
      rw [checkFrom_end (by simp)]
      exact routes_nil A cap w
    · obtain ⟨b, o, rfl, hb, hr⟩ := h3 hx
      exact routes_row b o cap xs w hb hr (by omega)
end Go.Proofs.YthioedgnambomaaGreat



namespace Go.Proofs.YthioedgnambomaaGreat
open Go.RowKit

def endsL (ls : List Lk) : List (Int × Int) := ls.flatMap fun l => [(l.a, l.p), (l.b, l.q)]
theorem endsL_snoc (ls : List Lk) (l : Lk) : endsL (ls ++ [l]) = endsL ls ++ [(l.a, l.p), (l.b, l.q)] := by simp [endsL]
theorem endsL_take {ls : List Lk} {k : Nat} {l : Lk} (h : ls[k]? = some l) : endsL (ls.take (k + 1)) = endsL (ls.take k) ++ [(l.a, l.p), (l.b, l.q)] := by
  obtain ⟨hk, e⟩ := List.getElem?_eq_some_iff.1 h
  rw [List.take_succ_eq_append_getElem hk, e, endsL_snoc]
theorem endsL_len : ∀ ls : List Lk, (endsL ls).length = 2 * ls.length
  | [] => rfl
  | l :: ls => by
    have := endsL_len ls
    show (endsL ls).length + 1 + 1 = _
    rw [this, List.length_cons]
    omega
theorem beqI (a b : Int) : (a == b) = (b == a) := by rw [Bool.eq_iff_iff]; simp; exact eq_comm
theorem hasP_meet (l : Lk) : ∀ ls : List Lk, (hasP (endsL ls) (l.a, l.p) || hasP (endsL ls) (l.b, l.q)) = ls.any (fun m => meetB m l)
  | [] => rfl
  | m :: ls => by
    have ih := hasP_meet l ls
    unfold hasP at ih ⊢
    rw [show endsL (m :: ls) = (m.a, m.p) :: (m.b, m.q) :: endsL ls from rfl, List.any_cons, List.any_cons, List.any_cons, List.any_cons, List.any_cons, ← ih]
    unfold meetB
    rw [beqI l.a m.a, beqI l.p m.p, beqI l.b m.a, beqI l.q m.p, beqI l.a m.b, beqI l.p m.q, beqI l.b m.b, beqI l.q m.q]
    generalize ((m.a == l.a) && (m.p == l.p)) = x1
    generalize ((m.a == l.b) && (m.p == l.q)) = x2
    generalize ((m.b == l.a) && (m.q == l.p)) = x3
    generalize ((m.b == l.b) && (m.q == l.q)) = x4
    generalize (endsL ls).any (fun x => ((l.a, l.p) : Int × Int).1 == x.1 && ((l.a, l.p) : Int × Int).2 == x.2) = x5
    generalize (endsL ls).any (fun x => ((l.b, l.q) : Int × Int).1 == x.1 && ((l.b, l.q) : Int × Int).2 == x.2) = x6
    cases x1 <;> cases x2 <;> cases x3 <;> cases x4 <;> cases x5 <;> cases x6 <;> rfl
theorem ownsRow_bel {W W' : World} {B e size n : Nat} {v : Value} {xs : List Value} (h : W.ownsRow B e size v n xs) (hb : Below W.heap.size W W') : W'.ownsRow B e size v n xs := by
  obtain ⟨hl, hc⟩ := h
  refine ⟨hl, ?_⟩
  rcases hc with h0 | ⟨g, cap, cur, rfl, hbg, hg, rest⟩
  · exact .inl h0
  · exact .inr ⟨g, cap, cur, rfl, hbg, (hb.block g (Array.getElem?_eq_some_iff.1 hg).1).trans hg, rest⟩
theorem pl_yes {ds : List Dv} {d p : Int} : isPl ds d p = ((decide (0 ≤ d) && decide (d ≤ (ds.length : Int) - 1)) && (decide (0 ≤ p) && decide (p ≤ portsV (kindAt ds d) - 1))) := by
  unfold isPl
  rw [show decide (d ≤ (ds.length : Int) - 1) = decide (d < (ds.length : Int)) by rw [decide_eq_decide]; omega, show decide (p ≤ portsV (kindAt ds d) - 1) = decide (p < portsV (kindAt ds d)) by rw [decide_eq_decide]; omega, Bool.and_assoc (decide (0 ≤ d) && decide (d < (ds.length : Int)))]
theorem nameOk_eq (s : ByteArray) : nameOk s = ((decide ((1 : Int) ≤ (s.size : Int)) && decide ((s.size : Int) ≤ 8)) && (s.data.toList.drop 0).all nameB) := by
  unfold nameOk
  rw [show decide ((1 : Int) ≤ (s.size : Int)) = decide (1 ≤ s.size) by rw [decide_eq_decide]; omega, show decide ((s.size : Int) ≤ 8) = decide (s.size ≤ 8) by rw [decide_eq_decide]; omega]
  rfl
/-- What the rounds over links keep. -/
def EndS (w W : World) (n1 : Nat) (v1 v2 : Value) (a b c d : Value) (u : Value) (es : List (Int × Int)) : Prop :=
  Below w.heap.size w W ∧ w.heap.size + 1 ≤ W.heap.size ∧ Box2 W w.heap.size v1 v2 ∧ Lk4 W n1 a b c d ∧ W.ownsRow (w.heap.size + 1) 68 2 u es.length (cellsP es)
theorem EndS.keep {w W W' : World} {n1 : Nat} {v1 v2 a b c d u : Value} {es : List (Int × Int)} (h : EndS w W n1 v1 v2 a b c d u es) (hb : Below W.heap.size W W') : EndS w W' n1 v1 v2 a b c d u es :=
  ⟨chnN hb h.1, Nat.le_trans h.2.1 hb.size, h.2.2.1.below hb h.2.2.1.1, h.2.2.2.1.below hb h.2.2.2.1.1, ownsRow_bel h.2.2.2.2 hb⟩
theorem EndS.drewN {w W : World} {n1 : Nat} {v1 v2 a b c d u : Value} {es : List (Int × Int)} (h : EndS w W n1 v1 v2 a b c d u es) (n : Nat) : EndS w (W.drewN n) n1 v1 v2 a b c d u es := h.keep (belowNN (Below.refl _ _) n)
theorem EndS.drew {w W : World} {n1 : Nat} {v1 v2 a b c d u : Value} {es : List (Int × Int)} (h : EndS w W n1 v1 v2 a b c d u es) : EndS w W.drew n1 v1 v2 a b c d u es := h.keep (Below.refl _ _).drew
theorem EndS.cells {w W : World} {n1 : Nat} {v1 v2 a b c d u : Value} {es : List (Int × Int)} (h : EndS w W n1 v1 v2 a b c d u es) : W.cell? ⟨n1, 0, none⟩ = some a ∧ W.cell? ⟨n1, 1, none⟩ = some b ∧ W.cell? ⟨n1, 2, none⟩ = some c ∧ W.cell? ⟨n1, 3, none⟩ = some d := h.2.2.2.1.2
theorem EndS.below {w W : World} {n1 : Nat} {v1 v2 a b c d u : Value} {es : List (Int × Int)} (h : EndS w W n1 v1 v2 a b c d u es) : Below w.heap.size w W := h.1
set_option maxHeartbeats 16000000 in
set_option maxRecDepth 100000 in
theorem rnet_row (A B : Option Addr) (cap cap' : Nat) (ds : List Dv) (ls : List Lk) (res : Int) (w : World) (hD : Hid (Devs w.heap.size w (.slice A ds.length cap) ds)) (hL : Hid (Links w.heap.size w (.slice B ls.length cap') ls)) (h10 : ds.length ≤ 10) (h15 : ls.length ≤ 15) (HR : Hid (res = if devsFrom ds 0 = 0 then linksFrom ds ls 0 else devsFrom ds 0)) :
    Calls Tryz.prog 12 #[.agg #[.slice A ds.length cap, .slice B ls.length cap']] w fun e w' => e = .returned (.int .i64 res) ∧ Below w.heap.size w w' := by
  obtain ⟨_, hc, hm⟩ := hD.out.len
  obtain ⟨_, hc', hm'⟩ := hL.out.len
  unfold maxLen at hm hm'
  have t10 : decide ((10 : Int) < (ds.length : Int)) = false := by simp; omega
  have t15 : decide ((15 : Int) < (ls.length : Int)) = false := by simp; omega
  have D0 := Below.alN (Below.refl w.heap.size w) (.cells #[.slice A ds.length cap, .slice B ls.length cap'] 25)
  have B0 := box2_new w (.slice A ds.length cap) (.slice B ls.length cap') 25
  go_enter Tryz.func12, Tryz.ntmps12
  go_wp2_with fail
  go_loopw [3] (fun i wr => ∃ k : Nat, i = .int .i64 (k : Int) ∧ k ≤ ds.length ∧ Below w.heap.size w wr ∧ Box2 wr w.heap.size (.slice A ds.length cap) (.slice B ls.length cap') ∧ Hid (devsFrom ds 0 = devsFrom ds k)) (fun i _ => ds.length - (intOf i).toNat)
  case atStart => exact ⟨0, rfl, by omega, D0, B0, rfl⟩
  case round =>
    clear D0 B0
    obtain ⟨k, rfl, hk, D1, B1, hl⟩ := hrel
    obtain ⟨_, b0, b1, _⟩ := id B1
    by_cases hlt : k < ds.length
    · obtain ⟨d, hxk⟩ : ∃ d, ds[k]? = some d := ⟨_, List.getElem?_eq_getElem hlt⟩
      obtain ⟨b, o, vb, vr, vt, rfl, hb, z1, z2, z3, c0, c1, c2, c3, c4, c5, c6⟩ := (hD.out.below D1).at hxk
      have y1 := z1
      have y2 := z2
      have y3 := z3
      obtain ⟨Ab, cb, rfl, _, _, _, _⟩ := z1
      obtain ⟨Ar, cr, rfl, _, _, _, _⟩ := z2
      obtain ⟨At, ct, rfl, _, _, _, _⟩ := z3
      have HF : Hid (devsFrom ds k = if devWrong ds k d = 0 then devsFrom ds (k + 1) else devWrong ds k d) := devsFrom_at hxk
      have HW : Hid (devWrong ds k d = if nameOk d.name then (if (ds.take k).any (fun x => x.name.toList == d.name.toList) then 5 else devC d) else 3) := rfl
      have HNM : Hid (∀ j x, ds[j]? = some x → ∀ W, Below w.heap.size w W → W.cell? ⟨b, o + j * 7, none⟩ = some (.string x.name)) := fun j x hx W h => by
        obtain ⟨b', o', _, _, _, e, _, _, _, _, q, _⟩ := (hD.out.below h).at hx
        cases e
        exact q
      have CD : Hid (∀ W, Below w.heap.size w W → Calls Tryz.prog 22 #[devA d.name d.kind d.addr d.pool (.slice Ab d.backs.length cb) (.slice Ar d.rules.length cr) (.slice At d.routes.length ct)] W fun e w' => e = .returned (.int .i64 (devC d)) ∧ Below W.heap.size W w') := fun W h => by
        have hd := hD.out.below h
        obtain ⟨b', o', vb', vr', vt', e1, _, s1, s2, s3, q0, q1, q2, q3, q4, q5, q6⟩ := hd.at hxk
        cases e1
        have g4 := (D1.cell (p := ⟨b, o + k * 7 + 4, none⟩) hb).symm.trans c4
        have g5 := (D1.cell (p := ⟨b, o + k * 7 + 5, none⟩) hb).symm.trans c5
        have g6 := (D1.cell (p := ⟨b, o + k * 7 + 6, none⟩) hb).symm.trans c6
        have f4 := (h.cell (p := ⟨b, o + k * 7 + 4, none⟩) hb).symm.trans q4
        have f5 := (h.cell (p := ⟨b, o + k * 7 + 5, none⟩) hb).symm.trans q5
        have f6 := (h.cell (p := ⟨b, o + k * 7 + 6, none⟩) hb).symm.trans q6
        obtain rfl := Option.some.inj (g4.symm.trans f4)
        obtain rfl := Option.some.inj (g5.symm.trans f5)
        obtain rfl := Option.some.inj (g6.symm.trans f6)
        have t1 := SlAt.mono s1 h.size (fun _ _ _ h => h)
        have t2 := SlAt.mono s2 h.size (fun _ _ _ h => h)
        have t3 := SlAt.mono s3 h.size (fun _ _ _ h => h)
        exact rdevice_any d _ _ _ (checkV (d.routes.map rtOf)) W t1 t2 t3 (fun W' h' => routes_any W' (routes_of (SlAt.mono (SlAt.below t3 h' (fun _ _ _ h => h)) h'.size (fun _ _ _ h => h))))
      have IN : Hid (∀ w, Calls Tryz.prog 7 #[.int .i64 (d.name.size : Int), .int .i64 1, .int .i64 8] w fun e w' => e = .returned (.bool (decide (1 ≤ (d.name.size : Int)) && decide ((d.name.size : Int) ≤ 8))) ∧ w' = w) := fun w => inN _ 1 8 w
      have HS : Hid (((decide ((1 : Int) ≤ (d.name.size : Int)) && decide ((d.name.size : Int) ≤ 8)) && (d.name.data.toList.drop 0).all nameB) = nameOk d.name) := (nameOk_eq d.name).symm
      have hsz := d.hs
      unfold maxLen at hsz
      have k1 : (0 : Int) ≤ (k : Int) := by omega
      have k2 : (k : Int) < (ds.length : Int) := by omega
      have lw := D1.size
      have HX : Hid (ds[k]? = some d) := hxk
      clear hxk y1 y2 y3
      generalize devC d = dc at *
      generalize hnm : d.name = nm at *
      have Hnm : Hid (d.name = nm) := hnm
      clear hnm
      generalize (decide (1 ≤ (nm.size : Int)) && decide ((nm.size : Int) ≤ 8)) = sx at *
      generalize d.backs.length = nb at *
      generalize d.rules.length = nr at *
      generalize d.routes.length = nt at *
      generalize d.kind = kd at *
      generalize d.addr = ad at *
      generalize d.pool = pl at *
      have D2 := Below.alN D1 (.cells #[.string nm, .int .i64 kd, .int .i64 ad, .int .u8 (pl : Int), .slice Ab nb cb, .slice Ar nr cr, .slice At nt ct] 41)
      have B2 := B1.alloc (.cells #[.string nm, .int .i64 kd, .int .i64 ad, .int .u8 (pl : Int), .slice Ab nb cb, .slice Ar nr cr, .slice At nt ct] 41)
      have V2 := seven_new wr (.string nm) (.int .i64 kd) (.int .i64 ad) (.int .u8 (pl : Int)) (.slice Ab nb cb) (.slice Ar nr cr) (.slice At nt ct) 41
      obtain ⟨_, v0, v1, v2, v3, v4, v5, v6⟩ := id V2
      generalize hno : nameOk nm = nok at *
      have Hno : Hid (nameOk nm = nok) := hno
      clear hno
      go_wp2_with fail
      refine (IN.out _).mono ?_
      rintro e w2 ⟨rfl, rfl⟩
      clear c0 c1 c2 c3 c4 c5 c6 IN
      go_wp2_with fail
      go_loop [5, 6] (fun x j => ∃ (y : Bool) (i : Nat), x = .bool y ∧ j = .int .i64 (i : Int) ∧ i ≤ nm.size ∧ Hid ((y && (nm.data.toList.drop i).all nameB) = nok)) (fun _ j => nm.size - (intOf j).toNat)
      case atStart => exact ⟨sx, 0, rfl, rfl, by omega, HS⟩
      case round =>
        clear HS
        obtain ⟨y, i, rfl, rfl, hi, hd⟩ := hrel
        by_cases hil : i < nm.size
        · have HA : Hid ((nm.data.toList.drop i).all nameB = (nameB nm[i] && (nm.data.toList.drop (i + 1)).all nameB)) := all_dropN nm i hil
          have HN : Hid (nameB nm[i] = ((decide (97 ≤ (nm[i].toNat : Int)) && decide ((nm[i].toNat : Int) ≤ 122)) || (decide (48 ≤ (nm[i].toNat : Int)) && decide ((nm[i].toNat : Int) ≤ 57)))) := rfl
          cases y
          · have HV : Hid ((false && (nm.data.toList.drop (i + 1)).all nameB) = nok) := hd
            clear hd HA HN
            go_wp2_with fail
            go_round
            case rel => exact ⟨false, i + 1, rfl, congrArg (Value.int .i64) (by omega), by omega, HV⟩
            case measure => simp [intOf]; omega
          · cases a1 : decide (97 ≤ (nm[i].toNat : Int)) <;> cases a2 : decide ((nm[i].toNat : Int) ≤ 122) <;> cases a3 : decide (48 ≤ (nm[i].toNat : Int)) <;> cases a4 : decide ((nm[i].toNat : Int) ≤ 57)
            all_goals
              rw [a1, a2, a3, a4] at HN
              first
                | (have HV : Hid ((true && (nm.data.toList.drop (i + 1)).all nameB) = nok) := by
                     show _ = _
                     rw [← hd.out, HA.out, HN.out]
                     rfl
                   clear HN HA hd
                   go_wp2_with fail
                   go_round
                   case rel => exact ⟨true, i + 1, rfl, congrArg (Value.int .i64) (by omega), by omega, HV⟩
                   case measure => simp [intOf]; omega)
                | (have HV : Hid ((false && (nm.data.toList.drop (i + 1)).all nameB) = nok) := by
                     show _ = _
                     rw [← hd.out, HA.out, HN.out]
                     rfl
                   clear HN HA hd
                   go_wp2_with fail
                   go_round
                   case rel => exact ⟨false, i + 1, rfl, congrArg (Value.int .i64) (by omega), by omega, HV⟩
                   case measure => simp [intOf]; omega)
        · have HY : Hid (y = nok) := by
            show _ = _
            rw [← hd.out, List.drop_eq_nil_of_le (by rw [← Lib.size_eq]; omega)]
            simp
          clear hd
          cases y
          · have HV : Hid (res = 3) := by
              have e : devWrong ds k d = 3 := by rw [HW.out, ← HY.out]; rfl
              show _ = _
              rw [HR.out, hl.out, HF.out, e]
              rfl
            go_wp2_with fail
            go_ret
            exact ⟨by rw [HV.out]; rfl, D2⟩
          · have HW2 : Hid (devWrong ds k d = if (ds.take k).any (fun x => x.name.toList == nm.toList) then 5 else dc) := by
              show _ = _
              rw [HW.out, ← HY.out]
              rfl
            clear HW HY
            go_wp2_with fail
            go_loopw [8] (fun j wr' => ∃ i : Nat, j = .int .i64 (i : Int) ∧ i ≤ k ∧ Below w.heap.size w wr' ∧ Box2 wr' w.heap.size (.slice (some ⟨b, o, none⟩) ds.length cap) (.slice B ls.length cap') ∧ Seven wr' wr.heap.size (.string nm) (.int .i64 kd) (.int .i64 ad) (.int .u8 (pl : Int)) (.slice Ab nb cb) (.slice Ar nr cr) (.slice At nt ct) ∧ Hid ((ds.take i).any (fun x => x.name.toList == nm.toList) = false)) (fun j _ => k - (intOf j).toNat)
            case atStart => exact ⟨0, rfl, by omega, D2, B2, V2, rfl⟩
            case round =>
              clear D2 B2 V2 v0 v1 v2 v3 v4 v5 v6 b0 b1 B1
              obtain ⟨i, rfl, hik, D3, B3, V3, hno⟩ := hrel
              obtain ⟨_, b0, b1, _⟩ := id B3
              obtain ⟨_, v0, v1, v2, v3, v4, v5, v6⟩ := id V3
              by_cases hij : i < k
              · obtain ⟨x, hx⟩ : ∃ x, ds[i]? = some x := ⟨_, List.getElem?_eq_getElem (by omega)⟩
                have cn := HNM.out i x hx _ D3
                have HT : Hid ((ds.take (i + 1)).any (fun x => x.name.toList == nm.toList) = ((ds.take i).any (fun x => x.name.toList == nm.toList) || (x.name.toList == nm.toList))) := by
                  obtain ⟨hk', e⟩ := List.getElem?_eq_some_iff.1 hx
                  show _ = _
                  rw [List.take_succ_eq_append_getElem hk', e]
                  simp
                have HM : Hid ((x.name.toList == nm.toList) = true → (ds.take k).any (fun x => x.name.toList == nm.toList) = true) := fun h => List.any_eq_true.2 ⟨x, List.mem_of_getElem? (by rw [List.getElem?_take, if_pos hij]; exact hx), h⟩
                have j1 : (0 : Int) ≤ (i : Int) := by omega
                have j2 : (i : Int) < (ds.length : Int) := by omega
                have j3 : decide ((i : Int) < (k : Int)) = true := by simp; omega
                clear hx
                cases hv : (x.name.toList == nm.toList)
                · have HV : Hid ((ds.take (i + 1)).any (fun x => x.name.toList == nm.toList) = false) := by
                    show _ = _
                    rw [HT.out, hno.out, hv]
                    rfl
                  clear HT HM hno
                  go_wp2_with fail
                  go_quiet (fail)
                  go_wp2_with fail
                  go_roundw
                  case rel => exact ⟨i + 1, by go_num, by omega, belowNN D3 _, B3, V3, HV⟩
                  case measure => simp [intOf]; omega
                · have HV : Hid (res = 5) := by
                    have e : devWrong ds k d = 5 := by rw [HW2.out, HM.out hv]; rfl
                    show _ = _
                    rw [HR.out, hl.out, HF.out, e]
                    rfl
                  clear HT HM hno
                  go_wp2_with fail
                  go_quiet (fail)
                  go_wp2_with fail
                  go_ret
                  exact ⟨by rw [HV.out]; rfl, belowNN D3 _⟩
              · have j3 : decide ((i : Int) < (k : Int)) = false := by simp; omega
                have HW3 : Hid (devWrong ds k d = dc) := by
                  have e := hno.out
                  rw [show i = k by omega] at e
                  show _ = _
                  rw [HW2.out, e]
                  rfl
                clear HW2 hno
                go_wp2_with fail
                refine (CD.out _ D3).mono ?_
                rintro e w5 ⟨rfl, hb5⟩
                have D5 := chnN hb5 D3
                have B5 := B3.below hb5 B3.1
                clear hb5 D3 B3 V3 v0 v1 v2 v3 v4 v5 v6 b0 b1 CD
                cases h0 : (dc == 0)
                · have HV : Hid (res = dc) := by
                    have hne : ¬ dc = 0 := by simpa using h0
                    show _ = _
                    rw [HR.out, hl.out, HF.out, HW3.out, if_neg hne, if_neg hne]
                  go_wp2_with fail
                  go_ret
                  exact ⟨by rw [HV.out]; rfl, D5⟩
                · have HV : Hid (devsFrom ds 0 = devsFrom ds (k + 1)) := by
                    have he : dc = 0 := by simpa using h0
                    show _ = _
                    rw [hl.out, HF.out, HW3.out, if_pos he]
                  have h00 : dc = 0 := by simpa using h0
                  subst h00
                  clear h0
                  go_wp2_with fail
                  go_roundw
                  case rel => first | exact ⟨k + 1, by go_num, by omega, D5, B5, HV⟩ | ((repeat apply Exists.intro); exact ⟨⟨k + 1, by go_num, by omega, D5, B5, HV⟩, rfl⟩)
                  case measure => simp [intOf]; omega
    · have HZ : Hid (res = linksFrom ds ls 0) := by
        show _ = _
        rw [HR.out, hl.out, devsFrom_end (by omega), if_pos rfl]
      clear hl HR
      go_wp2_with fail
      go_loopw [10, 11] (fun ve i wr => ∃ k : Nat, i = .int .i64 (k : Int) ∧ k ≤ ls.length ∧ w.heap.size + 1 ≤ wr.heap.size ∧ Below w.heap.size w wr ∧ Box2 wr w.heap.size (.slice A ds.length cap) (.slice B ls.length cap') ∧ wr.ownsRow (w.heap.size + 1) 68 2 ve (endsL (ls.take k)).length (cellsP (endsL (ls.take k))) ∧ Hid (res = linksFrom ds ls k)) (fun _ i _ => ls.length - (intOf i).toNat)
      case atStart => exact ⟨0, rfl, by omega, B1.1, D1, B1, ⟨rfl, .inl ⟨rfl, rfl⟩⟩, HZ⟩
      case round =>
        clear D1 B1 HZ b0 b1
        obtain ⟨j, rfl, hj, hsz, D1, B1, O1, hl⟩ := hrel
        obtain ⟨_, b0, b1, _⟩ := id B1
        by_cases hjl : j < ls.length
        · obtain ⟨l, hxk⟩ : ∃ l, ls[j]? = some l := ⟨_, List.getElem?_eq_getElem hjl⟩
          obtain ⟨b, o, rfl, hb, c0, c1, c2, c3⟩ := (hL.out.below D1).at hxk
          have HF : Hid (linksFrom ds ls j = if linkWrong ds ls j l = 0 then linksFrom ds ls (j + 1) else linkWrong ds ls j l) := linksFrom_at hxk
          have HW : Hid (linkWrong ds ls j l = if isPl ds l.a l.p && isPl ds l.b l.q then (if selfB l || (hasP (endsL (ls.take j)) (l.a, l.p) || hasP (endsL (ls.take j)) (l.b, l.q)) then 5 else 0) else 1) := by
            show _ = _
            rw [hasP_meet]
            rfl
          have HE : Hid (endsL (ls.take (j + 1)) = endsL (ls.take j) ++ [(l.a, l.p), (l.b, l.q)]) := endsL_take hxk
          have LE : Hid ((endsL (ls.take j)).length ≤ 1000) := by show _ ≤ _; rw [endsL_len, List.length_take]; omega
          have HSELF : Hid (selfB l = ((l.a == l.b) && (l.p == l.q))) := rfl
          have k1 : (0 : Int) ≤ (j : Int) := by omega
          have k2 : (j : Int) < (ls.length : Int) := by omega
          have lw := D1.size
          clear hxk
          generalize endsL (ls.take j) = es at *
          generalize selfB l = sf at *
          generalize hla : l.a = la at *
          generalize hlp : l.p = lp at *
          generalize hlb : l.b = lb at *
          generalize hlq : l.q = lq at *
          clear hla hlp hlb hlq
          have D2 := Below.alN D1 (.cells #[.int .i64 la, .int .i64 lp, .int .i64 lb, .int .i64 lq] 67)
          have B2 := B1.alloc (.cells #[.int .i64 la, .int .i64 lp, .int .i64 lb, .int .i64 lq] 67)
          have D3 := Below.alN D2 (.cells #[.int .i64 la, .int .i64 lp, .int .i64 lb, .int .i64 lq] 68)
          have B3 := B2.alloc (.cells #[.int .i64 la, .int .i64 lp, .int .i64 lb, .int .i64 lq] 68)
          have L3 := lk4_new (wr.alloc (.cells #[.int .i64 la, .int .i64 lp, .int .i64 lb, .int .i64 lq] 67)) (.int .i64 la) (.int .i64 lp) (.int .i64 lb) (.int .i64 lq) 68
          rw [World.size_alloc] at L3
          have O3 := ownsRow_bel (ownsRow_bel O1 ((Below.refl _ _).alloc (Nat.le_refl _) (.cells #[.int .i64 la, .int .i64 lp, .int .i64 lb, .int .i64 lq] 67))) ((Below.refl _ _).alloc (Nat.le_refl _) (.cells #[.int .i64 la, .int .i64 lp, .int .i64 lb, .int .i64 lq] 68))
          have E3 : EndS w ((wr.alloc (.cells #[.int .i64 la, .int .i64 lp, .int .i64 lb, .int .i64 lq] 67)).alloc (.cells #[.int .i64 la, .int .i64 lp, .int .i64 lb, .int .i64 lq] 68)) (wr.heap.size + 1) (.slice A ds.length cap) (.slice (some ⟨b, o, none⟩) ls.length cap') (.int .i64 la) (.int .i64 lp) (.int .i64 lb) (.int .i64 lq) u10 es := ⟨D3, by simp; omega, B3, L3, O3⟩
          go_wp2_with fail
          clear c0 c1 c2 c3 D1 D2 B1 B2 O1 b0 b1 D3 B3 L3 O3
          generalize wr.heap.size + 1 = n1 at *
          go_loopw [14] (fun x wr' => ∃ i : Nat, x = .int .i64 (i : Int) ∧ i ≤ 2 ∧ EndS w wr' n1 (.slice A ds.length cap) (.slice (some ⟨b, o, none⟩) ls.length cap') (.int .i64 la) (.int .i64 lp) (.int .i64 lb) (.int .i64 lq) u10 es ∧ Hid ((0 < i → isPl ds la lp = true) ∧ (1 < i → isPl ds lb lq = true))) (fun x _ => 2 - (intOf x).toNat)
          case atStart => exact ⟨0, rfl, by omega, E3, ⟨fun h => by omega, fun h => by omega⟩⟩
          case round =>
            clear E3
            obtain ⟨i, rfl, hi2, E3, HP⟩ := hrel
            obtain ⟨_, b0, b1, _⟩ := id E3.2.2.1
            obtain ⟨m0, m1, m2, m3⟩ := E3.cells
            by_cases hi : i < 2
            · obtain ⟨d, p, cd, cp, HQ⟩ : ∃ d p : Int, wr.cell? ⟨n1, i * 2, none⟩ = some (.int .i64 d) ∧ wr.cell? ⟨n1, i * 2 + 1, none⟩ = some (.int .i64 p) ∧ Hid ((i = 0 ∧ d = la ∧ p = lp) ∨ (i = 1 ∧ d = lb ∧ p = lq)) := by
                by_cases h : i = 0
                · subst h
                  exact ⟨la, lp, m0, m1, Or.inl ⟨rfl, rfl, rfl⟩⟩
                · obtain rfl : i = 1 := by omega
                  exact ⟨lb, lq, m2, m3, Or.inr ⟨rfl, rfl, rfl⟩⟩
              have HBAD : Hid (isPl ds d p = false → res = 1) := fun h => by
                have e : linkWrong ds ls j l = 1 := by
                  rw [HW.out]
                  rcases HQ.out with ⟨_, rfl, rfl⟩ | ⟨_, rfl, rfl⟩
                  · rw [h]; rfl
                  · rw [h, Bool.and_false]; rfl
                rw [hl.out, HF.out, e]
                rfl
              have HGOOD : Hid (isPl ds d p = true → ((0 < i + 1 → isPl ds la lp = true) ∧ (1 < i + 1 → isPl ds lb lq = true))) := fun h => by
                rcases HQ.out with ⟨rfl, rfl, rfl⟩ | ⟨rfl, rfl, rfl⟩
                · exact ⟨fun _ => h, fun h1 => by omega⟩
                · exact ⟨fun _ => HP.out.1 (by omega), fun _ => h⟩
              have HPL : Hid (isPl ds d p = ((decide (0 ≤ d) && decide (d ≤ (ds.length : Int) - 1)) && (decide (0 ≤ p) && decide (p ≤ portsV (kindAt ds d) - 1)))) := pl_yes
              clear HQ HP m0 m1 m2 m3
              have i1 : (0 : Int) ≤ (i : Int) := by omega
              have i2 : (i : Int) < 2 := by omega
              have wl : IntKind.i64.wrap ((ds.length : Int) - 1) = (ds.length : Int) - 1 := by rw [IntKind.wrap_i64] <;> omega
              have I0 : Hid (∀ w, Calls Tryz.prog 7 #[.int .i64 d, .int .i64 0, .int .i64 ((ds.length : Int) - 1)] w fun e w' => e = .returned (.bool (decide (0 ≤ d) && decide (d ≤ (ds.length : Int) - 1))) ∧ w' = w) := fun w => inN _ 0 _ w
              cases hx0 : (decide (0 ≤ d) && decide (d ≤ (ds.length : Int) - 1))
              · have HV : Hid (res = 1) := HBAD.out (by rw [HPL.out, hx0]; rfl)
                rw [hx0] at I0
                clear HBAD HGOOD HPL hx0
                go_wp2_with fail
                go_quiet ((go_at_call 7; exact Calls.quiet_of_same (I0.out _)))
                go_wp2_with fail
                go_ret
                exact ⟨by rw [HV.out]; rfl, (E3.drewN _).below⟩
              · have hd : 0 ≤ d ∧ d ≤ (ds.length : Int) - 1 := by simpa using hx0
                rw [hx0] at I0 HPL
                clear hx0
                obtain ⟨i', rfl⟩ : ∃ i' : Nat, d = (i' : Int) := ⟨d.toNat, by omega⟩
                have hil : i' < ds.length := by omega
                obtain ⟨x, hx⟩ : ∃ x, ds[i']? = some x := ⟨_, List.getElem?_eq_getElem hil⟩
                obtain ⟨bd, od, _, _, _, rfl, hbd, _, _, _, _, ck, _⟩ := (hD.out.below E3.1).at hx
                have ek : kindAt ds (i' : Int) = x.kind := by
                  unfold kindAt
                  rw [Int.toNat_natCast, hx]
                  rfl
                rw [ek] at HPL
                obtain ⟨pk, hpk, hp4⟩ := portsV_nat x.kind
                have PO : Hid (∀ w, Calls Tryz.prog 8 #[.int .i64 x.kind] w fun e w' => e = .returned (.int .i64 (portsV x.kind)) ∧ Below w.heap.size w w') := fun w => rports_any x.kind w
                rw [hpk] at PO HPL
                have wp : IntKind.i64.wrap ((pk : Int) - 1) = (pk : Int) - 1 := by rw [IntKind.wrap_i64] <;> omega
                have I1 : Hid (∀ w, Calls Tryz.prog 7 #[.int .i64 p, .int .i64 0, .int .i64 ((pk : Int) - 1)] w fun e w' => e = .returned (.bool (decide (0 ≤ p) && decide (p ≤ (pk : Int) - 1))) ∧ w' = w) := fun w => inN _ 0 _ w
                have j1 : (0 : Int) ≤ (i' : Int) := by omega
                have j2 : (i' : Int) < (ds.length : Int) := by omega
                clear hx hd ek hpk
                generalize (decide (0 ≤ p) && decide (p ≤ (pk : Int) - 1)) = y at *
                generalize x.kind = kd at *
                have E4 := E3.drew
                go_wp2_with fail
                go_region_held3 (fun w' => w'.cell? ⟨n1, i * 2, none⟩ = some (.int .i64 (i' : Int)) ∧ w'.cell? ⟨n1, i * 2 + 1, none⟩ = some (.int .i64 p) ∧ w'.cell? ⟨w.heap.size, 0, none⟩ = some (.slice (some ⟨bd, od, none⟩) ds.length cap) ∧ w'.cell? ⟨bd, od + i' * 7 + 1, none⟩ = some (.int .i64 kd)) (go_keep) (first | (go_at_call 8; refine (PO.out _).mono ?_; rintro e w4 ⟨rfl, hb4⟩; have E5 := E4.keep hb4; have cd5 := (hb4.cell (p := ⟨n1, i * 2, none⟩) E4.2.2.2.1.1).trans cd; have cp5 := (hb4.cell (p := ⟨n1, i * 2 + 1, none⟩) E4.2.2.2.1.1).trans cp; have ck5 := (hb4.cell (p := ⟨bd, od + i' * 7 + 1, none⟩) (Nat.lt_of_lt_of_le hbd E4.1.size)).trans ck; have b05 := (hb4.cell (p := ⟨w.heap.size, 0, none⟩) E4.2.2.1.1).trans b0) | (go_at_call_of 7 (Value.int .i64 (i' : Int)); refine (I0.out _).mono ?_; rintro e w5 ⟨rfl, rfl⟩) | (go_at_call_of 7 (Value.int .i64 p); refine (I1.out _).mono ?_; rintro e w6 ⟨rfl, rfl⟩))
                cases y
                · have HV : Hid (res = 1) := HBAD.out (by rw [HPL.out]; rfl)
                  clear HBAD HGOOD HPL
                  go_wp2_with fail
                  go_ret
                  exact ⟨by rw [HV.out]; rfl, E5.below⟩
                · have HV := HGOOD.out (by rw [HPL.out]; rfl)
                  clear HBAD HGOOD HPL
                  go_wp2_with fail
                  go_roundw
                  case rel => exact ⟨i + 1, by go_num, by omega, E5, HV⟩
                  case measure => simp [intOf]; omega
            · obtain ⟨hp1, hp2⟩ := HP.out
              have HW2 : Hid (linkWrong ds ls j l = if sf || (hasP es (la, lp) || hasP es (lb, lq)) then 5 else 0) := by
                show _ = _
                rw [HW.out, hp1 (by omega), hp2 (by omega)]
                rfl
              clear hp1 hp2 HP HW m0 m1 m2 m3
              obtain rfl : i = 2 := by omega
              have C1 : Hid (∀ W, EndS w W n1 (.slice A ds.length cap) (.slice (some ⟨b, o, none⟩) ls.length cap') (.int .i64 la) (.int .i64 lp) (.int .i64 lb) (.int .i64 lq) u10 es → Calls Tryz.prog 23 #[u10, prV la lp] W fun e w' => e = .returned (.bool (hasP es (la, lp))) ∧ Below W.heap.size W w') := fun W h => pairHas_any u10 es la lp W (Prs.own h.2.2.2.2)
              have C2 : Hid (∀ W, EndS w W n1 (.slice A ds.length cap) (.slice (some ⟨b, o, none⟩) ls.length cap') (.int .i64 la) (.int .i64 lp) (.int .i64 lb) (.int .i64 lq) u10 es → Calls Tryz.prog 23 #[u10, prV lb lq] W fun e w' => e = .returned (.bool (hasP es (lb, lq))) ∧ Below W.heap.size W w') := fun W h => pairHas_any u10 es lb lq W (Prs.own h.2.2.2.2)
              have APP : Hid (∀ W, EndS w W n1 (.slice A ds.length cap) (.slice (some ⟨b, o, none⟩) ls.length cap') (.int .i64 la) (.int .i64 lp) (.int .i64 lb) (.int .i64 lq) u10 es → ∃ v' w', (Builtin.append_ #[65, 65] 65 #[u10, .slice (some ⟨n1, 0, none⟩) 2 2]).run Tryz.prog W = .ok v' w' ∧ w.heap.size + 1 ≤ w'.heap.size ∧ Below w.heap.size w w' ∧ Box2 w' w.heap.size (.slice A ds.length cap) (.slice (some ⟨b, o, none⟩) ls.length cap') ∧ w'.ownsRow (w.heap.size + 1) 68 2 v' (es ++ [(la, lp), (lb, lq)]).length (cellsP (es ++ [(la, lp), (lb, lq)]))) := fun W h => by
                obtain ⟨h1, h2, h3, h4, h5⟩ := h
                obtain ⟨_, q0, q1, q2, q3⟩ := h4
                obtain ⟨v', w', r1, r2, r3⟩ := app_pairs 65 h5 q0 q1 q2 q3 (by have := LE.out; omega) h2
                have hbl : Below (w.heap.size + 1) W w' := Below.app2 (Below.refl _ _) h5 r3 (Nat.le_refl _) h2
                exact ⟨v', w', r1, Nat.le_trans h2 hbl.size, Below.app2 h1 h5 r3 (by omega) h2, h3.below hbl (by omega), r2⟩
              have PE : ∀ w, (binOp .eql 68 (prV la lp) (prV lb lq)).run Tryz.prog w = .ok (.bool sf) w := fun w => by rw [pair_eq, ← HSELF.out]
              generalize hasP es (la, lp) = x1 at *
              generalize hasP es (lb, lq) = x2 at *
              have E4 := E3.drew
              have H5 : Hid ((sf || (x1 || x2)) = true → res = 5) := fun h => by
                have e : linkWrong ds ls j l = 5 := by rw [HW2.out, h]; rfl
                rw [hl.out, HF.out, e]
                rfl
              have H0 : Hid ((sf || (x1 || x2)) = false → res = linksFrom ds ls (j + 1)) := fun h => by
                have e : linkWrong ds ls j l = 0 := by rw [HW2.out, h]; rfl
                rw [hl.out, HF.out, e]
                rfl
              clear HW2 HF hl HSELF
              cases sf
              · cases x1
                · have H6 : Hid (x2 = true → res = 5) := fun h => H5.out (by rw [h]; rfl)
                  have H7 : Hid (x2 = false → res = linksFrom ds ls (j + 1)) := fun h => H0.out (by rw [h]; rfl)
                  clear H5 H0
                  go_wp2_with fail
                  refine wp_region_held_drew (S := (fun w' => w'.cell? ⟨n1, 0, none⟩ = some (.int .i64 la) ∧ w'.cell? ⟨n1, 1, none⟩ = some (.int .i64 lp) ∧ w'.cell? ⟨n1, 2, none⟩ = some (.int .i64 lb) ∧ w'.cell? ⟨n1, 3, none⟩ = some (.int .i64 lq))) (by kernel_rfl) (EndS.cells (n1 := n1) (by assumption)) (fun hHeld => ?_)
                  refine' tk 0 rfl (by kernel_rfl) (fun _ _ _ h => h) (by rfl) (by assumption) ?y1 ?r1
                  case y1 => (intro w h; (try dsimp only at h); go_simp; (try with_reducible rfl))
                  try simp only [lays]
                  refine' tk 1 rfl (by kernel_rfl) (fun _ _ _ h => h) (by rfl) (by assumption) ?y2 ?r2
                  case y2 => (intro w h; (try dsimp only at h); go_simp; (try with_reducible rfl))
                  try simp only [lays]
                  refine' tk 2 rfl (by kernel_rfl) (fun _ _ _ h => h) (by rfl) (by assumption) ?y3 ?r3
                  case y3 => (intro w h; (try dsimp only at h); go_simp; (try with_reducible rfl))
                  try simp only [lays]
                  refine' tk 3 rfl (by kernel_rfl) (fun _ _ _ h => h) (by rfl) (by assumption) ?y4 ?r4
                  case y4 => (intro w h; (try dsimp only at h); go_simp; (try with_reducible rfl))
                  try simp only [lays]
                  refine' tk 4 rfl (by kernel_rfl) (fun _ _ _ h => h) (by rfl) (by assumption) ?y5 ?r5
                  case y5 => (intro w h; (try dsimp only at h); go_simp; (try with_reducible rfl))
                  try simp only [lays]
                  refine' tk 5 rfl (by kernel_rfl) (fun _ _ _ h => h) (by rfl) (by assumption) ?y6 ?r6
                  case y6 => (intro w h; (try dsimp only at h); go_simp; (try with_reducible rfl))
                  try simp only [lays]
                  refine' tk 6 rfl (by kernel_rfl) (fun _ _ _ h => h) (by rfl) (by assumption) ?y7 ?r7
                  case y7 => (intro w h; (try dsimp only at h); go_simp; (try with_reducible rfl))
                  try simp only [lays]
                  refine' tk 7 rfl (by kernel_rfl) (fun _ _ _ h => h) (by rfl) (by assumption) ?y8 ?r8
                  case y8 => (intro w h; (try dsimp only at h); go_simp; (try with_reducible rfl))
                  try simp only [lays]
                  refine' tk 8 rfl (by kernel_rfl) (fun _ _ _ h => h) (by rfl) (by assumption) ?y9 ?r9
                  case y9 => (intro w h; (try dsimp only at h); go_simp; (try with_reducible rfl))
                  try simp only [lays]
                  refine' tk 9 rfl (by kernel_rfl) (fun _ _ _ h => h) (by rfl) (by assumption) ?y10 ?r10
                  case y10 => (intro w h; (try dsimp only at h); go_simp; (try with_reducible rfl))
                  try simp only [lays]
                  refine' tk 10 rfl (by kernel_rfl) (fun _ _ _ h => h) (by rfl) (by assumption) ?y11 ?r11
                  case y11 => (intro w h; (try dsimp only at h); go_simp; (try with_reducible rfl))
                  try simp only [lays]
                  refine' tk 11 rfl (by kernel_rfl) (fun _ _ _ h => h) (by rfl) (by assumption) ?y12 ?r12
                  case y12 => (intro w h; (try dsimp only at h); go_simp; (try with_reducible rfl))
                  try simp only [lays]
                  refine wpAnyH_ready (rs := [12]) (by kernel_rfl) (by simp) (AllReadyH.cons rfl (fun K hK => ?_) AllReadyH.nil)
                  go_simp
                  refine (C1.out _ (by assumption)).mono ?_; rintro e wz ⟨rfl, hbz⟩; have Ez := EndS.keep (n1 := n1) (by assumption) hbz; clear hbz
                  try go_wp2_with fail
                  clear hHeld
                  refine hK.out _ _ (EndS.cells (n1 := n1) (by assumption)) (fun hHeld => ?_)
                  clear hK K
                  try simp only [lays]
                  refine' tk 13 rfl (by kernel_rfl) (fun _ _ _ h => h) (by rfl) (by assumption) ?y14 ?r14
                  case y14 => (intro w h; (try dsimp only at h); go_simp; (try with_reducible rfl))
                  try simp only [lays]
                  refine' tk 14 rfl (by kernel_rfl) (fun _ _ _ h => h) (by rfl) (by assumption) ?y15 ?r15
                  case y15 => (intro w h; (try dsimp only at h); go_simp; (try with_reducible rfl))
                  try simp only [lays]
                  refine' tk 15 rfl (by kernel_rfl) (fun _ _ _ h => h) (by rfl) (by assumption) ?y16 ?r16
                  case y16 => (intro w h; (try dsimp only at h); go_simp; (try with_reducible rfl))
                  try simp only [lays]
                  refine' tk 16 rfl (by kernel_rfl) (fun _ _ _ h => h) (by rfl) (by assumption) ?y17 ?r17
                  case y17 => (intro w h; (try dsimp only at h); go_simp; (try with_reducible rfl))
                  try simp only [lays]
                  refine' tk 17 rfl (by kernel_rfl) (fun _ _ _ h => h) (by rfl) (by assumption) ?y18 ?r18
                  case y18 => (intro w h; (try dsimp only at h); go_simp; (try with_reducible rfl))
                  try simp only [lays]
                  refine' tk 18 rfl (by kernel_rfl) (fun _ _ _ h => h) (by rfl) (by assumption) ?y19 ?r19
                  case y19 => (intro w h; (try dsimp only at h); go_simp; (try with_reducible rfl))
                  try simp only [lays]
                  refine wpAnyH_ready (rs := [19]) (by kernel_rfl) (by simp) (AllReadyH.cons rfl (fun K hK => ?_) AllReadyH.nil)
                  go_simp
                  refine (C2.out _ (by assumption)).mono ?_; rintro e wz ⟨rfl, hbz⟩; have Ez := EndS.keep (n1 := n1) (by assumption) hbz; clear hbz
                  try go_wp2_with fail
                  clear hHeld
                  refine hK.out _ _ (EndS.cells (n1 := n1) (by assumption)) (fun hHeld => ?_)
                  clear hK K
                  try simp only [lays]
                  refine' tk 20 rfl (by kernel_rfl) (fun _ _ _ h => h) (by rfl) (by assumption) ?y21 ?r21
                  case y21 => (intro w h; (try dsimp only at h); go_simp; (try with_reducible rfl))
                  try simp only [lays]
                  refine wpAnyH_done (by kernel_rfl) ?_ _
                  cases x2
                  · have HV : Hid (res = linksFrom ds ls (j + 1)) := H7.out rfl
                    obtain ⟨v5, w5, r5, s5, D5, B5, O5⟩ := APP.out _ (by assumption)
                    rw [← HE.out] at O5
                    go_wp2_with (at_builtin; refine append_run2 rfl _ _ 65 rfl rfl rfl r5 ?_)
                    go_roundw
                    case rel => first | exact ⟨j + 1, by go_num, by omega, s5, D5, B5, O5, HV⟩ | ((repeat apply Exists.intro); exact ⟨⟨j + 1, by go_num, by omega, s5, D5, B5, O5, HV⟩, rfl⟩)
                    case measure => simp [intOf]; omega
                  · have HV : Hid (res = 5) := H6.out rfl
                    go_wp2_with fail
                    go_ret
                    exact ⟨by rw [HV.out]; rfl, EndS.below (by assumption)⟩
                · have HV : Hid (res = 5) := H5.out rfl
                  clear H5 H0
                  go_wp2_with fail
                  refine wp_region_held_drew (S := (fun w' => w'.cell? ⟨n1, 0, none⟩ = some (.int .i64 la) ∧ w'.cell? ⟨n1, 1, none⟩ = some (.int .i64 lp) ∧ w'.cell? ⟨n1, 2, none⟩ = some (.int .i64 lb) ∧ w'.cell? ⟨n1, 3, none⟩ = some (.int .i64 lq))) (by kernel_rfl) (EndS.cells (n1 := n1) (by assumption)) (fun hHeld => ?_)
                  refine' tk 0 rfl (by kernel_rfl) (fun _ _ _ h => h) (by rfl) (by assumption) ?y23 ?r23
                  case y23 => (intro w h; (try dsimp only at h); go_simp; (try with_reducible rfl))
                  try simp only [lays]
                  refine' tk 1 rfl (by kernel_rfl) (fun _ _ _ h => h) (by rfl) (by assumption) ?y24 ?r24
                  case y24 => (intro w h; (try dsimp only at h); go_simp; (try with_reducible rfl))
                  try simp only [lays]
                  refine' tk 2 rfl (by kernel_rfl) (fun _ _ _ h => h) (by rfl) (by assumption) ?y25 ?r25
                  case y25 => (intro w h; (try dsimp only at h); go_simp; (try with_reducible rfl))
                  try simp only [lays]
                  refine' tk 3 rfl (by kernel_rfl) (fun _ _ _ h => h) (by rfl) (by assumption) ?y26 ?r26
                  case y26 => (intro w h; (try dsimp only at h); go_simp; (try with_reducible rfl))
                  try simp only [lays]
                  refine' tk 4 rfl (by kernel_rfl) (fun _ _ _ h => h) (by rfl) (by assumption) ?y27 ?r27
                  case y27 => (intro w h; (try dsimp only at h); go_simp; (try with_reducible rfl))
                  try simp only [lays]
                  refine' tk 5 rfl (by kernel_rfl) (fun _ _ _ h => h) (by rfl) (by assumption) ?y28 ?r28
                  case y28 => (intro w h; (try dsimp only at h); go_simp; (try with_reducible rfl))
                  try simp only [lays]
                  refine' tk 6 rfl (by kernel_rfl) (fun _ _ _ h => h) (by rfl) (by assumption) ?y29 ?r29
                  case y29 => (intro w h; (try dsimp only at h); go_simp; (try with_reducible rfl))
                  try simp only [lays]
                  refine' tk 7 rfl (by kernel_rfl) (fun _ _ _ h => h) (by rfl) (by assumption) ?y30 ?r30
                  case y30 => (intro w h; (try dsimp only at h); go_simp; (try with_reducible rfl))
                  try simp only [lays]
                  refine' tk 8 rfl (by kernel_rfl) (fun _ _ _ h => h) (by rfl) (by assumption) ?y31 ?r31
                  case y31 => (intro w h; (try dsimp only at h); go_simp; (try with_reducible rfl))
                  try simp only [lays]
                  refine' tk 9 rfl (by kernel_rfl) (fun _ _ _ h => h) (by rfl) (by assumption) ?y32 ?r32
                  case y32 => (intro w h; (try dsimp only at h); go_simp; (try with_reducible rfl))
                  try simp only [lays]
                  refine' tk 10 rfl (by kernel_rfl) (fun _ _ _ h => h) (by rfl) (by assumption) ?y33 ?r33
                  case y33 => (intro w h; (try dsimp only at h); go_simp; (try with_reducible rfl))
                  try simp only [lays]
                  refine' tk 11 rfl (by kernel_rfl) (fun _ _ _ h => h) (by rfl) (by assumption) ?y34 ?r34
                  case y34 => (intro w h; (try dsimp only at h); go_simp; (try with_reducible rfl))
                  try simp only [lays]
                  refine wpAnyH_ready (rs := [12]) (by kernel_rfl) (by simp) (AllReadyH.cons rfl (fun K hK => ?_) AllReadyH.nil)
                  go_simp
                  refine (C1.out _ (by assumption)).mono ?_; rintro e wz ⟨rfl, hbz⟩; have Ez := EndS.keep (n1 := n1) (by assumption) hbz; clear hbz
                  try go_wp2_with fail
                  clear hHeld
                  refine hK.out _ _ (EndS.cells (n1 := n1) (by assumption)) (fun hHeld => ?_)
                  clear hK K
                  try simp only [lays]
                  refine' tk 13 rfl (by kernel_rfl) (fun _ _ _ h => h) (by rfl) (by assumption) ?y36 ?r36
                  case y36 => (intro w h; (try dsimp only at h); go_simp; (try with_reducible rfl))
                  try simp only [lays]
                  refine' tk 14 rfl (by kernel_rfl) (fun _ _ _ h => h) (by rfl) (by assumption) ?y37 ?r37
                  case y37 => (intro w h; (try dsimp only at h); go_simp; (try with_reducible rfl))
                  try simp only [lays]
                  refine' tk0 15 rfl (by kernel_rfl) (fun _ _ _ h => h) (by rfl) (by assumption) ?_
                  try simp only [lays]
                  refine' tk0 16 rfl (by kernel_rfl) (fun _ _ _ h => h) (by rfl) (by assumption) ?_
                  try simp only [lays]
                  refine' tk0 17 rfl (by kernel_rfl) (fun _ _ _ h => h) (by rfl) (by assumption) ?_
                  try simp only [lays]
                  refine' tk0 18 rfl (by kernel_rfl) (fun _ _ _ h => h) (by rfl) (by assumption) ?_
                  try simp only [lays]
                  refine' tk0 19 rfl (by kernel_rfl) (fun _ _ _ h => h) (by rfl) (by assumption) ?_
                  try simp only [lays]
                  refine' tk 20 rfl (by kernel_rfl) (fun _ _ _ h => h) (by rfl) (by assumption) ?y43 ?r43
                  case y43 => (intro w h; (try dsimp only at h); go_simp; (try with_reducible rfl))
                  try simp only [lays]
                  refine wpAnyH_done (by kernel_rfl) ?_ _
                  go_wp2_with fail
                  go_ret
                  exact ⟨by rw [HV.out]; rfl, EndS.below (by assumption)⟩
              · have HV : Hid (res = 5) := H5.out rfl
                clear H5 H0
                go_wp2_with fail
                refine wp_region_held_drew (S := (fun w' => w'.cell? ⟨n1, 0, none⟩ = some (.int .i64 la) ∧ w'.cell? ⟨n1, 1, none⟩ = some (.int .i64 lp) ∧ w'.cell? ⟨n1, 2, none⟩ = some (.int .i64 lb) ∧ w'.cell? ⟨n1, 3, none⟩ = some (.int .i64 lq))) (by kernel_rfl) (EndS.cells (n1 := n1) (by assumption)) (fun hHeld => ?_)
                refine' tk 0 rfl (by kernel_rfl) (fun _ _ _ h => h) (by rfl) (by assumption) ?y45 ?r45
                case y45 => (intro w h; (try dsimp only at h); go_simp; (try with_reducible rfl))
                try simp only [lays]
                refine' tk 1 rfl (by kernel_rfl) (fun _ _ _ h => h) (by rfl) (by assumption) ?y46 ?r46
                case y46 => (intro w h; (try dsimp only at h); go_simp; (try with_reducible rfl))
                try simp only [lays]
                refine' tk 2 rfl (by kernel_rfl) (fun _ _ _ h => h) (by rfl) (by assumption) ?y47 ?r47
                case y47 => (intro w h; (try dsimp only at h); go_simp; (try with_reducible rfl))
                try simp only [lays]
                refine' tk 3 rfl (by kernel_rfl) (fun _ _ _ h => h) (by rfl) (by assumption) ?y48 ?r48
                case y48 => (intro w h; (try dsimp only at h); go_simp; (try with_reducible rfl))
                try simp only [lays]
                refine' tk 4 rfl (by kernel_rfl) (fun _ _ _ h => h) (by rfl) (by assumption) ?y49 ?r49
                case y49 => (intro w h; (try dsimp only at h); go_simp; (try with_reducible rfl))
                try simp only [lays]
                refine' tk 5 rfl (by kernel_rfl) (fun _ _ _ h => h) (by rfl) (by assumption) ?y50 ?r50
                case y50 => (intro w h; (try dsimp only at h); go_simp; (try with_reducible rfl))
                try simp only [lays]
                refine' tk 6 rfl (by kernel_rfl) (fun _ _ _ h => h) (by rfl) (by assumption) ?y51 ?r51
                case y51 => (intro w h; (try dsimp only at h); go_simp; (try with_reducible rfl))
                try simp only [lays]
                refine' tk 7 rfl (by kernel_rfl) (fun _ _ _ h => h) (by rfl) (by assumption) ?y52 ?r52
                case y52 => (intro w h; (try dsimp only at h); go_simp; (try with_reducible rfl))
                try simp only [lays]
                refine' tk0 8 rfl (by kernel_rfl) (fun _ _ _ h => h) (by rfl) (by assumption) ?_
                try simp only [lays]
                refine' tk0 9 rfl (by kernel_rfl) (fun _ _ _ h => h) (by rfl) (by assumption) ?_
                try simp only [lays]
                refine' tk0 10 rfl (by kernel_rfl) (fun _ _ _ h => h) (by rfl) (by assumption) ?_
                try simp only [lays]
                refine' tk0 11 rfl (by kernel_rfl) (fun _ _ _ h => h) (by rfl) (by assumption) ?_
                try simp only [lays]
                refine' tk0 12 rfl (by kernel_rfl) (fun _ _ _ h => h) (by rfl) (by assumption) ?_
                try simp only [lays]
                refine' tk 13 rfl (by kernel_rfl) (fun _ _ _ h => h) (by rfl) (by assumption) ?y58 ?r58
                case y58 => (intro w h; (try dsimp only at h); go_simp; (try with_reducible rfl))
                try simp only [lays]
                refine' tk 14 rfl (by kernel_rfl) (fun _ _ _ h => h) (by rfl) (by assumption) ?y59 ?r59
                case y59 => (intro w h; (try dsimp only at h); go_simp; (try with_reducible rfl))
                try simp only [lays]
                refine' tk0 15 rfl (by kernel_rfl) (fun _ _ _ h => h) (by rfl) (by assumption) ?_
                try simp only [lays]
                refine' tk0 16 rfl (by kernel_rfl) (fun _ _ _ h => h) (by rfl) (by assumption) ?_
                try simp only [lays]
                refine' tk0 17 rfl (by kernel_rfl) (fun _ _ _ h => h) (by rfl) (by assumption) ?_
                try simp only [lays]
                refine' tk0 18 rfl (by kernel_rfl) (fun _ _ _ h => h) (by rfl) (by assumption) ?_
                try simp only [lays]
                refine' tk0 19 rfl (by kernel_rfl) (fun _ _ _ h => h) (by rfl) (by assumption) ?_
                try simp only [lays]
                refine' tk 20 rfl (by kernel_rfl) (fun _ _ _ h => h) (by rfl) (by assumption) ?y65 ?r65
                case y65 => (intro w h; (try dsimp only at h); go_simp; (try with_reducible rfl))
                try simp only [lays]
                refine wpAnyH_done (by kernel_rfl) ?_ _
                go_wp2_with fail
                go_ret
                exact ⟨by rw [HV.out]; rfl, EndS.below (by assumption)⟩
        · have HV : Hid (res = 0) := by
            show _ = _
            rw [hl.out, linksFrom_end (by omega)]
          go_wp2_with fail
          go_ret
          exact ⟨by rw [HV.out]; rfl, D1⟩
end Go.Proofs.YthioedgnambomaaGreat



namespace Go.Proofs.YthioedgnambomaaGreat
open Go.RowKit

set_option maxHeartbeats 1000000 in
set_option maxRecDepth 100000 in
theorem rnet_any (vd vl : Value) (ds : List Dv) (ls : List Lk) (w : World) (hD : Devs w.heap.size w vd ds) (hL : Links w.heap.size w vl ls) :
    Calls Tryz.prog 12 #[.agg #[vd, vl]] w fun e w' => e = .returned (.int .i64 (netV ds ls)) ∧ Below w.heap.size w w' := by
  have hD0 := hD
  have hL0 := hL
  obtain ⟨A, cap, rfl, _, _, _, _⟩ := hD
  obtain ⟨B, cap', rfl, _, _, _, _⟩ := hL
  unfold netV
  by_cases h : 10 < ds.length ∨ 15 < ls.length
  · rw [if_pos h]
    have D0 := Below.alN (Below.refl w.heap.size w) (.cells #[.slice A ds.length cap, .slice B ls.length cap'] 25)
    clear hD0 hL0
    by_cases h10 : 10 < ds.length
    · have t10 : decide ((10 : Int) < (ds.length : Int)) = true := by simp; omega
      clear h
      go_enter Tryz.func12, Tryz.ntmps12
      go_wp2_with fail
      go_ret
      exact ⟨rfl, D0⟩
    · have t10 : decide ((10 : Int) < (ds.length : Int)) = false := by simp; omega
      have t15 : decide ((15 : Int) < (ls.length : Int)) = true := by simp; omega
      clear h
      go_enter Tryz.func12, Tryz.ntmps12
      go_wp2_with fail
      go_ret
      exact ⟨rfl, D0⟩
  · rw [if_neg h]
    exact rnet_row A B cap cap' ds ls _ w hD0 hL0 (by omega) (by omega) rfl


set_option maxHeartbeats 4000000 in
set_option maxRecDepth 100000 in
theorem plain_any (A B : Option Addr) (cap cap' : Nat) (ds : List Dv) (ls : List Lk) (w : World) (hD : Hid (Devs w.heap.size w (.slice A ds.length cap) ds)) (hL : Hid (Links w.heap.size w (.slice B ls.length cap') ls)) :
    Calls Tryz.prog 4 #[.agg #[.slice A ds.length cap, .slice B ls.length cap']] w fun e w' => e = .returned (.int .i64 (ringV ds ls)) ∧ Below w.heap.size w w' := by
  have D0 := Below.alN (Below.refl w.heap.size w) (.cells #[.slice A ds.length cap, .slice B ls.length cap'] 25)
  have B0 := box2_new w (.slice A ds.length cap) (.slice B ls.length cap') 25
  have CK : Hid (∀ W, Below w.heap.size w W → Calls Tryz.prog 12 #[.agg #[.slice A ds.length cap, .slice B ls.length cap']] W fun e w' => e = .returned (.int .i64 (netV ds ls)) ∧ Below W.heap.size W w') := fun W h => rnet_any _ _ ds ls W ((hD.out.below h).mono h.size) ((hL.out.below h).mono h.size)
  have HV : Hid (ringV ds ls = if netV ds ls = 0 then (if ds.any (fun d => remB d.kind) then 1 else 0) else netV ds ls) := rfl
  obtain ⟨_, hc, hm⟩ := hD.out.len
  unfold maxLen at hm
  generalize ringV ds ls = rv at *
  generalize netV ds ls = nv at *
  obtain ⟨_, q0, q1, _⟩ := id B0
  go_enter Tryz.func4, Tryz.ntmps4
  go_wp2_with fail
  refine (CK.out _ D0).mono ?_
  rintro e w1 ⟨rfl, hb1⟩
  have D1 := chnN hb1 D0
  have B1 : Box2 w1 w.heap.size (.slice A ds.length cap) (.slice B ls.length cap') := B0.below hb1 B0.1
  clear hb1 B0 D0 q0 q1 CK
  by_cases hn : nv = 0
  rotate_left
  · have hz1 : (nv == 0) = false := by simpa using hn
    have hv := HV.out
    rw [if_neg hn] at hv
    have HV2 : Hid (rv = nv) := hv
    clear HV hv
    have HNZ : Hid (¬ nv = 0) := hn
    clear hn
    go_wp2_with fail
    all_goals first | exact absurd (by assumption) HNZ.out | skip
    all_goals
      go_ret
      exact ⟨by rw [HV2.out]; first | rfl | simp, D1⟩
  have hv := HV.out
  rw [if_pos hn] at hv
  have HV2 : Hid (rv = if ds.any (fun d => remB d.kind) = true then 1 else 0) := hv
  clear HV hv
  subst hn
  go_wp2_with fail
  go_loopw [4] (fun i wr => ∃ k : Nat, i = .int .i64 (k : Int) ∧ k ≤ ds.length ∧ wr = w1 ∧ Hid ((ds.take k).any (fun d => remB d.kind) = false)) (fun i _ => ds.length - (intOf i).toNat)
  case atStart => exact ⟨0, rfl, by omega, rfl, rfl⟩
  case round =>
    obtain ⟨k, rfl, hk, rfl, hno⟩ := hrel
    obtain ⟨_, q0, q1, _⟩ := id B1
    by_cases hlt : k < ds.length
    · obtain ⟨d, hxk⟩ : ∃ d, ds[k]? = some d := ⟨_, List.getElem?_eq_getElem hlt⟩
      obtain ⟨b, o, vb, vr, vt, rfl, hb, _, _, _, c0, c1, c2, c3, c4, c5, c6⟩ := (hD.out.below D1).at hxk
      have HX : Hid (ds[k]? = some d) := hxk
      have k1 : (0 : Int) ≤ (k : Int) := by omega
      have k2 : (k : Int) < (ds.length : Int) := by omega
      clear hxk hD c0 c2 c3 c4 c5 c6 hL
      cases hv : remB d.kind
      · have HV : Hid ((ds.take (k + 1)).any (fun d => remB d.kind) = false) := by show _ = _; rw [any_takeD HX.out, hno.out, hv]; rfl
        have hkk : d.kind = 1 ∨ d.kind = 2 := by
          unfold remB at hv
          by_cases h1 : d.kind = 1
          · exact Or.inl h1
          · by_cases h2 : d.kind = 2
            · exact Or.inr h2
            · simp [h1, h2] at hv
        clear hv hno HX HV2
        generalize d.kind = kd at *
        rcases hkk with rfl | rfl
        all_goals
          go_wp2_with fail
          go_roundw
          case rel => exact ⟨k + 1, by go_num, by omega, by first | rfl | trivial, HV⟩
          case measure => simp [intOf]; omega
      · have fin : Hid (rv = 1) := by
          show _ = _
          rw [HV2.out, if_pos (List.any_eq_true.2 ⟨d, List.mem_of_getElem? HX.out, hv⟩)]
        have h1 : ¬ d.kind = 1 := by
          intro e
          rw [e] at hv
          cases hv
        have h2 : ¬ d.kind = 2 := by
          intro e
          rw [e] at hv
          cases hv
        clear hv hno HX HV2
        generalize d.kind = kd at *
        have e1 : (kd == 1) = false := by simpa using h1
        have e2 : (kd == 2) = false := by simpa using h2
        have f1 : (kd != 1) = true := by simpa using h1
        have f2 : (kd != 2) = true := by simpa using h2
        go_wp2_with fail
        go_ret
        exact ⟨by rw [fin.out]; rfl, D1⟩
    · have fin : Hid (rv = 0) := by
        have := hno.out
        rw [show k = ds.length by omega, List.take_length] at this
        show _ = _
        rw [HV2.out, this]
        rfl
      go_wp2_with fail
      go_ret
      exact ⟨by rw [fin.out]; rfl, D1⟩
end Go.Proofs.YthioedgnambomaaGreat

namespace Go.Proofs.YthioedgnambomaaGreat
open Go.RowKit Go.Maps

theorem zeroI (w : World) : (zeroValue 3).run Tryz.prog w = .ok (.int .i64 0) w := by kernel_rfl
theorem zeroU (w : World) : (zeroValue 137).run Tryz.prog w = .ok (.agg #[]) w := by kernel_rfl
theorem zeroE (w : World) : (zeroValue 140).run Tryz.prog w = .ok (.agg #[.int .i64 0, .int .i64 0]) w := by kernel_rfl
theorem laidS : laidOutB Tryz.prog = true := by kernel_rfl
theorem sizeS : Tryz.prog.types.size = 169 := by kernel_rfl
theorem cInt : Tryz.prog.cellsOf 3 = 1 := by kernel_rfl
theorem cPkt : Tryz.prog.cellsOf 29 = 4 := by kernel_rfl
theorem lawPk : Keyed Tryz.prog 136 := Keyed.of_law (deep_law_gate (k := 136) laidS (by rw [sizeS]; decide) (by rw [sizeS]; decide) (by kernel_rfl) (by kernel_rfl))
theorem lawPo : Keyed Tryz.prog 145 := Keyed.of_law (deep_law_gate (k := 145) laidS (by rw [sizeS]; decide) (by rw [sizeS]; decide) (by kernel_rfl) (by kernel_rfl))

/-- How values of α are keys of type k. -/
structure KeyEnc (k : TypeId) (α : Type) where
  enc : α → Value
  ok : α → Prop
  lit : α → Lit
  law : Keyed Tryz.prog k
  key : ∀ x, ok x → keyOf Tryz.prog k (enc x) = some (lit x)
  inj : ∀ x y, enc x = enc y → x = y
/-- How values of β are elements of type e. -/
structure ElEnc (e : TypeId) (β : Type) where
  enc : β → Value
  R : Value → Option (DataW Unit × List MemPlace)
  dat : β → DataW Unit
  read : ∀ x, R (enc x) = some (dat x, [])
  inv : ∀ v z, R v = some z → ∃ x, v = enc x ∧ z = (dat x, [])
  inj : ∀ x y, dat x = dat y → x = y
  zero : β
  hz : ∀ w, (zeroValue e).run Tryz.prog w = .ok (enc zero) w

/-- Block b is a map of at most n entries, which are f. -/
def MapAt {k e : TypeId} {α β : Type} (E : KeyEnc k α) (V : ElEnc e β) (w : World) (b n : Nat) (f : α → Option β) : Prop :=
  ∃ D : DataW Unit, w.ownsMap Tryz.prog k V.R b n D ∧ ∀ x, E.ok x → Maps.has D (E.lit x) = (f x).isSome ∧ D.atKey (E.lit x) (V.dat V.zero) = V.dat ((f x).getD V.zero)

open Classical in
noncomputable def putF {α β : Type} (f : α → Option β) (x : α) (v : β) : α → Option β := fun y => if y = x then some v else f y
open Classical in
noncomputable def delF {α β : Type} (f : α → Option β) (x : α) : α → Option β := fun y => if y = x then none else f y
theorem putF_same {α β : Type} (f : α → Option β) (x : α) (v : β) : putF f x v x = some v := by simp [putF]
theorem putF_other {α β : Type} (f : α → Option β) {x y : α} (v : β) (h : y ≠ x) : putF f x v y = f y := by simp [putF, h]
theorem delF_same {α β : Type} (f : α → Option β) (x : α) : delF f x x = none := by simp [delF]
theorem delF_other {α β : Type} (f : α → Option β) {x y : α} (h : y ≠ x) : delF f x y = f y := by simp [delF, h]
theorem putF_id {α β : Type} (f : α → Option β) {x : α} {v : β} (h : f x = some v) : putF f x v = f := by
  funext y
  by_cases e : y = x
  · subst e; rw [putF_same, h]
  · rw [putF_other f v e]

section
variable {k e : TypeId} {α β : Type} {E : KeyEnc k α} {V : ElEnc e β} {w w' : World} {b n : Nat} {f : α → Option β}

theorem MapAt.lt (h : MapAt E V w b n f) : b < w.heap.size := by
  obtain ⟨D, h, _⟩ := h
  exact h.lt
theorem MapAt.isMap (h : MapAt E V w b n f) : ∃ es clock, w.heap[b]? = some (.map es clock) := by
  obtain ⟨D, ⟨es, clock, hb, _⟩, _⟩ := h
  exact ⟨es, clock, hb⟩
theorem MapAt.mono (h : MapAt E V w b n f) {n' : Nat} (hn : n ≤ n') : MapAt E V w b n' f := by
  obtain ⟨D, h, r⟩ := h
  exact ⟨D, h.mono hn, r⟩
theorem MapAt.same (h : MapAt E V w b n f) (hb : w'.heap[b]? = w.heap[b]?) : MapAt E V w' b n f := by
  obtain ⟨D, ⟨es, clock, h1, r⟩, r'⟩ := h
  exact ⟨D, ⟨es, clock, hb.trans h1, r⟩, r'⟩
theorem mapAt_made (E : KeyEnc k α) (V : ElEnc e β) (w : World) : MapAt E V (w.alloc (.map #[] 0)) w.heap.size 0 (fun _ => none) :=
  ⟨.map [], World.ownsMap_made w _ _ _, fun _ _ => ⟨rfl, rfl⟩⟩
theorem MapAt.look (h : MapAt E V w b n f) {t : TypeId} (ht : Tryz.prog.underlying t = some (.map k e)) {x : α} (hx : E.ok x) :
    (Instr.lookup t (.map (some b)) (E.enc x) true).run Tryz.prog w = .ok (.tuple #[V.enc ((f x).getD V.zero), .bool (f x).isSome]) w := by
  obtain ⟨D, h, r⟩ := h
  obtain ⟨v, ps, hrun, hv⟩ := h.look_ok E.law ht (V.hz w) (V.read V.zero) (E.key x hx)
  rw [(r x hx).2] at hv
  obtain ⟨y, rfl, hy⟩ := V.inv _ _ hv
  simp only [Prod.mk.injEq] at hy
  rw [hrun, (r x hx).1, V.inj _ _ hy.1]
theorem MapAt.store (h : MapAt E V w b n f) {t : TypeId} (ht : Tryz.prog.underlying t = some (.map k e)) (hn : n < maxLen) {x : α} (hx : E.ok x) (v : β) :
    ∃ w', (Instr.mapUpdate t (.map (some b)) (E.enc x) (V.enc v)).run Tryz.prog w = .ok () w' ∧ MapAt E V w' b (n + 1) (putF f x v) ∧ w.mapTurned w' b := by
  obtain ⟨D, h, r⟩ := h
  obtain ⟨w', hrun, hown, hgrow⟩ := h.store E.law ht hn (E.key x hx) (V.read v)
  refine ⟨w', hrun, ⟨_, hown, fun y hy => ?_⟩, hgrow⟩
  by_cases e : y = x
  · subst e
    rw [has_put_same h.isMap (E.law.key (E.key y hy)), atKey_put_same h.isMap (E.law.key (E.key y hy)), putF_same]
    exact ⟨rfl, rfl⟩
  · have hne : E.lit y ≠ E.lit x := fun hl => by
      have k1 := E.key y hy
      rw [hl] at k1
      exact e (E.inj _ _ (E.law.inj k1 (E.key x hx)))
    rw [has_put_other hne, atKey_put_other hne, putF_other f v e]
    exact r y hy
theorem MapAt.drop (h : MapAt E V w b n f) {t : TypeId} (ht : Tryz.prog.underlying t = some (.map k e)) {x : α} (hx : E.ok x) (ty : TypeId) :
    ∃ w', (Builtin.delete_ #[t, k] ty #[.map (some b), E.enc x]).run Tryz.prog w = .ok (.tuple #[]) w' ∧ MapAt E V w' b n (delF f x) ∧ w.mapTurned w' b := by
  obtain ⟨D, h, r⟩ := h
  obtain ⟨w', hrun, hown, hgrow⟩ := h.drop E.law ht (E.key x hx) ty
  refine ⟨w', hrun, ⟨_, hown, fun y hy => ?_⟩, hgrow⟩
  by_cases e : y = x
  · subst e
    rw [has_del_same, atKey_del_same, delF_same]
    exact ⟨rfl, rfl⟩
  · have hne : E.lit y ≠ E.lit x := fun hl => by
      have k1 := E.key y hy
      rw [hl] at k1
      exact e (E.inj _ _ (E.law.inj k1 (E.key x hx)))
    rw [has_del_other hne, atKey_del_other hne, delF_other f e]
    exact r y hy
theorem MapAt.cloned (h : MapAt E V w b n f) {es : Array MapEntry} {clock : Nat} (hb : w.heap[b]? = some (.map es clock)) : MapAt E V (w.alloc (.map es clock)) w.heap.size n f := by
  obtain ⟨D, ⟨es', clock', h1, r⟩, r'⟩ := h
  rw [hb] at h1
  simp only [Option.some.injEq, Obj.map.injEq] at h1
  obtain ⟨rfl, rfl⟩ := h1
  exact ⟨D, ⟨es, clock, (MapKept.heap_alloc w _).1, r⟩, r'⟩
end

/-! ### packets, keys, elements -/
structure Pk where
  s : Int
  d : Int
  sp : Int
  dp : Int
def i64ok (n : Int) : Prop := (Lit.int .i64 n).wf = true
theorem i64ok_of {n : Int} (h : -9223372036854775808 ≤ n) (h' : n < 9223372036854775808) : i64ok n := WalkArith.wf_i64 (by omega)
structure Pk.ok (p : Pk) : Prop where
  s : i64ok p.s
  d : i64ok p.d
  sp : i64ok p.sp
  dp : i64ok p.dp
abbrev pkV (p : Pk) : Value := .agg #[.int .i64 p.s, .int .i64 p.d, .int .i64 p.sp, .int .i64 p.dp]
abbrev pofV (x : Int × Pk) : Value := .agg #[.int .i64 x.1, .int .i64 x.2.s, .int .i64 x.2.d, .int .i64 x.2.sp, .int .i64 x.2.dp]
abbrev prtV (x : Int × Int) : Value := .agg #[.int .i64 x.1, .int .i64 x.2]
def pofOk (x : Int × Pk) : Prop := i64ok x.1 ∧ x.2.ok
def prtOk (x : Int × Int) : Prop := i64ok x.1 ∧ i64ok x.2
theorem pofV_inj (x y : Int × Pk) (h : pofV x = pofV y) : x = y := by
  obtain ⟨a, b, c, d, e⟩ := x
  obtain ⟨a', b', c', d', e'⟩ := y
  simp at h
  obtain ⟨rfl, rfl, rfl, rfl, rfl⟩ := h
  rfl
theorem prtV_inj (x y : Int × Int) (h : prtV x = prtV y) : x = y := by
  obtain ⟨a, b⟩ := x
  obtain ⟨a', b'⟩ := y
  simp at h
  obtain ⟨rfl, rfl⟩ := h
  rfl
noncomputable def litOfS (k : TypeId) (v : Value) : Lit := (keyOf Tryz.prog k v).getD (.bool false)
theorem litOfS_some {k : TypeId} {v : Value} (hs : (keyOf Tryz.prog k v).isSome = true) : keyOf Tryz.prog k v = some (litOfS k v) := by
  unfold litOfS
  cases hk : keyOf Tryz.prog k v with
  | none => rw [hk] at hs; cases hs
  | some l => rfl
theorem fuelS : ∃ m, Tryz.prog.types.size + 1 = m + 3 := ⟨169 - 2, by rw [sizeS]⟩
theorem keyPo (n : Int × Int) (h : prtOk n) : keyOf Tryz.prog 145 (prtV n) = some (litOfS 145 (prtV n)) := by
  obtain ⟨w1, w2⟩ := h
  unfold i64ok at w1 w2
  obtain ⟨m, hm⟩ := fuelS
  refine litOfS_some ?_
  unfold keyOf
  simp only [Tryz.underlying145]
  rw [if_pos (by kernel_rfl), hm]
  unfold Program.keyLits
  simp only [Tryz.underlying145, Value.cells]
  rw [if_pos ⟨by kernel_rfl, by kernel_rfl⟩]
  simp [Program.keyLits, Tryz.underlying3, w1, w2, cInt]
theorem keyPk (n : Int × Pk) (h : pofOk n) : keyOf Tryz.prog 136 (pofV n) = some (litOfS 136 (pofV n)) := by
  obtain ⟨w1, ⟨w2, w3, w4, w5⟩⟩ := h
  unfold i64ok at w1 w2 w3 w4 w5
  obtain ⟨m, hm⟩ := fuelS
  refine litOfS_some ?_
  unfold keyOf
  simp only [Tryz.underlying136]
  rw [if_pos (by kernel_rfl), hm]
  unfold Program.keyLits
  simp only [Tryz.underlying136, Value.cells]
  rw [if_pos ⟨by kernel_rfl, by kernel_rfl⟩]
  have hi : Tryz.prog.keyLits (m + 2) 3 [.int .i64 n.1] = some [.int .i64 n.1] := by
    simp [Program.keyLits, Tryz.underlying3, w1]
  have hp : Tryz.prog.keyLits (m + 2) 29 [.int .i64 n.2.s, .int .i64 n.2.d, .int .i64 n.2.sp, .int .i64 n.2.dp] = some [.int .i64 n.2.s, .int .i64 n.2.d, .int .i64 n.2.sp, .int .i64 n.2.dp] := by
    unfold Program.keyLits
    simp only [Tryz.underlying29]
    rw [if_pos ⟨by kernel_rfl, by kernel_rfl⟩]
    simp [Program.keyLits, Tryz.underlying3, w2, w3, w4, w5, cInt]
  simp [hi, hp, cInt, cPkt]
noncomputable def pofE : KeyEnc 136 (Int × Pk) := ⟨pofV, pofOk, fun n => litOfS 136 (pofV n), lawPk, keyPk, pofV_inj⟩
noncomputable def prtE : KeyEnc 145 (Int × Int) := ⟨prtV, prtOk, fun n => litOfS 145 (prtV n), lawPo, keyPo, prtV_inj⟩

def intR : Value → Option (DataW Unit × List MemPlace)
  | .int .i64 a => some (.lit (.int .i64 a), [])
  | _ => none
theorem intR_inv (v : Value) (z : DataW Unit × List MemPlace) (h : intR v = some z) : ∃ x : Int, v = .int .i64 x ∧ z = (.lit (.int .i64 x), []) := by
  unfold intR at h
  split at h
  · cases h; exact ⟨_, rfl, rfl⟩
  · cases h
def intV : ElEnc 3 Int := ⟨fun x => .int .i64 x, intR, fun x => .lit (.int .i64 x), fun _ => rfl, intR_inv, fun x y h => by simpa using h, 0, zeroI⟩
def unitV : ElEnc 137 Unit := ⟨fun _ => .agg #[], unitElem, fun _ => .agg [], fun _ => unitElem_mk, fun _ _ h => ⟨(), (unitElem_inv h).1, (unitElem_inv h).2⟩, fun _ _ _ => rfl, (), zeroU⟩
def twoR : List Value → Option (DataW Unit × List MemPlace)
  | [.int .i64 a, .int .i64 b] => some (.agg [.lit (.int .i64 a), .lit (.int .i64 b)], [])
  | _ => none
theorem twoR_inv (l : List Value) (z : DataW Unit × List MemPlace) (h : twoR l = some z) : ∃ x : Int × Int, l = [.int .i64 x.1, .int .i64 x.2] ∧ z = (.agg [.lit (.int .i64 x.1), .lit (.int .i64 x.2)], []) := by
  unfold twoR at h
  split at h
  · cases h; exact ⟨(_, _), rfl, rfl⟩
  · cases h
def endR : Value → Option (DataW Unit × List MemPlace)
  | .agg cs => twoR cs.toList
  | _ => none
theorem endR_inv (v : Value) (z : DataW Unit × List MemPlace) (h : endR v = some z) : ∃ x : Int × Int, v = prtV x ∧ z = (.agg [.lit (.int .i64 x.1), .lit (.int .i64 x.2)], []) := by
  unfold endR at h
  split at h
  · rename_i cs
    obtain ⟨x, e, rfl⟩ := twoR_inv _ _ h
    refine ⟨x, ?_, rfl⟩
    rw [prtV, ← e]
  · cases h
def endV : ElEnc 140 (Int × Int) := ⟨prtV, endR, fun x => .agg [.lit (.int .i64 x.1), .lit (.int .i64 x.2)], fun _ => rfl, endR_inv, fun x y h => by
  obtain ⟨a, b⟩ := x
  obtain ⟨c, d⟩ := y
  simpa using h, (0, 0), zeroE⟩
end Go.Proofs.YthioedgnambomaaGreat


