/-
  Texts of nets: what was read so far, in memory: rows of the call's own, apart by their elements' types.
-/
import Derived.Test.YthofdiacncgbkaaGreatDoorPA9
import Derived.Test.YthofdiacncgbkaaGreatDoorPW
import Derived.Maps.AppendAt
import Derived.Deep.Heap
import Derived.OneCell
import Derived.Deep.RegionHeldLaw
namespace Go.Proofs.YthofdiacncgbkaaGreatDoor
open Go.RowKit

/-- All blocks but one are as they were. -/
structure KeptB (w w' : World) (row : Option Nat) : Prop where
  size : w.heap.size ≤ w'.heap.size
  block : ∀ k, k < w.heap.size → some k ≠ row → w'.heap[k]? = w.heap[k]?
theorem KeptB.of_below {w w' : World} (h : Below w.heap.size w w') : KeptB w w' none := ⟨h.size, fun k hk _ => h.block k hk⟩
theorem KeptB.trans {w w' w'' : World} {row : Option Nat} (h : KeptB w w' row) (h' : KeptB w' w'' row) : KeptB w w'' row := ⟨Nat.le_trans h.size h'.size, fun k hk hr => (h'.block k (Nat.lt_of_lt_of_le hk h.size) hr).trans (h.block k hk hr)⟩
section
variable {w w' : World} {B e size n : Nat} {v : Value} {xs : List Value} {row : Option Nat}
theorem own_block (h : w.ownsRow B e size v n xs) {g : Nat} (hg : v.ownBlock = some g) : g < w.heap.size ∧ B ≤ g ∧ ∃ cur, w.heap[g]? = some (.cells cur e (0, 0)) := by
  rcases h.2 with ⟨rfl, _⟩ | ⟨g', cap, cur, rfl, hb, hh, _⟩
  · cases hg
  · obtain rfl : g' = g := by simpa [Value.ownBlock] using hg
    exact ⟨(Array.getElem?_eq_some_iff.1 hh).1, hb, cur, hh⟩
theorem own_kept (h : w.ownsRow B e size v n xs) (hk : KeptB w w' row) (hr : ∀ g, v.ownBlock = some g → row ≠ some g) : w'.ownsRow B e size v n xs := by
  refine ⟨h.1, ?_⟩
  rcases h.2 with k | ⟨g, cap, cur, h1, h2, h3, h4⟩
  · exact Or.inl k
  · refine Or.inr ⟨g, cap, cur, h1, h2, ?_, h4⟩
    rw [hk.block g (Array.getElem?_eq_some_iff.1 h3).1 (fun e => hr g (by rw [h1]; rfl) e.symm)]
    exact h3
/-- Rows of elements of two types lie apart. -/
theorem own_apart {B' e' size' n' : Nat} {v' : Value} {xs' : List Value} (h : w.ownsRow B e size v n xs) (h' : w.ownsRow B' e' size' v' n' xs') (he : e ≠ e') : ∀ g, v.ownBlock = some g → v'.ownBlock ≠ some g := fun g hg hg' => by
  obtain ⟨_, _, c, hc⟩ := own_block h hg
  obtain ⟨_, _, c', hc'⟩ := own_block h' hg'
  rw [hc] at hc'
  simp only [Option.some.injEq, Obj.cells.injEq] at hc'
  exact he hc'.2.1
/-- A cell of a row is set. -/
theorem own_setAt (h : w.ownsRow B e size v n xs) {g j : Nat} (hg : v.ownBlock = some g) (u : Value) : (w.setCell ⟨g, j, none⟩ u).ownsRow B e size v n (xs.set j u) := by
  refine ⟨by rw [List.length_set]; exact h.1, ?_⟩
  rcases h.2 with ⟨rfl, _⟩ | ⟨g', cap, cur, rfl, hb, hh, h1, h2, h3, h4⟩
  · cases hg
  · obtain rfl : g' = g := by simpa [Value.ownBlock] using hg
    refine Or.inr ⟨g', cap, cur.setIfInBounds j u, rfl, hb, ?_, h1, h2, by rw [Array.size_setIfInBounds]; exact h3, ?_⟩
    · simp [World.setCell, Array.getElem?_modify, hh]
    · rw [Array.toList_setIfInBounds, List.take_set, h4]
theorem kept_set (w : World) (g j : Nat) (u : Value) : KeptB w (w.setCell ⟨g, j, none⟩ u) (some g) := ⟨by rw [Go.Deep.nblk_setCell]; exact Nat.le_refl _, fun k _ hr => Go.Deep.blk_setCell_other w ⟨g, j, none⟩ u k (fun e => hr (by rw [e]))⟩
end
/-- append, of one element that was just laid, to a row of the call's own. -/
theorem app_el {t e : TypeId} {z : Value} {size bytes : Nat} (hu : Tryz.prog.underlying t = some (.slice e)) (hinfo : (Tryz.prog.info? e).map (fun i => (i.zero, i.size, i.bytes)) = some (some z, size, bytes)) (hz1 : z.cells.size = size) (hs0 : 0 < size) (hby : bytes ≤ 128)
    {base n : Nat} {w : World} {v : Value} {xs us : List Value} (ty : TypeId) (h : w.ownsRow base e size v n xs) (hus : us.length = size) (h1 : ∀ u ∈ us, u.oneCell' = true) (hn : n ≤ 5000) (hb : base ≤ w.heap.size) :
    ∃ v' w', (Builtin.append_ #[t, t] ty #[v, .slice (some ⟨w.heap.size, 0, none⟩) 1 1]).run Tryz.prog (w.alloc (.cells us.toArray e)) = .ok v' w' ∧ w'.ownsRow base e size v' (n + 1) (xs ++ us) ∧ Below base w w' ∧ KeptB w w' v.ownBlock ∧ (v'.ownBlock = v.ownBlock ∨ ∃ g, v'.ownBlock = some g ∧ w.heap.size ≤ g) := by
  obtain ⟨i0, hi, hz0, hz1', hz2⟩ := info_parts hinfo
  have hA : Below w.heap.size w (w.alloc (.cells us.toArray e)) := (Below.refl _ _).alloc (Nat.le_refl _) _
  have ho : (w.alloc (.cells us.toArray e)).ownsRow base e size v n xs := own_kept h (KeptB.of_below hA) (fun g _ => by simp)
  obtain ⟨v', w', hr, h4, h5, _, h7⟩ := run_append_own_at (P := Tryz.prog) (w.alloc (.cells us.toArray e)) base t ty e i0 z size bytes hu hi hz0 hz1' hz2 hz1 hs0 v n xs ho ⟨w.heap.size, 0, none⟩ 1 1 us (by rw [hus, Nat.one_mul]) (fun j x hj => by
    have hg : (w.alloc (.cells us.toArray e)).heap[w.heap.size]? = some (.cells us.toArray e) := Go.Deep.blk_alloc_new w _
    rw [Addr.add_lit, Nat.zero_add]
    simp only [World.cell?, hg]
    simp [hj]) h1 (by unfold maxLen; omega) (by
      have : (n + 1) * bytes ≤ 5001 * 128 := Nat.mul_le_mul (by omega) hby
      omega) (by simp; omega)
  have hsz : (w.alloc (.cells us.toArray e)).heap.size = w.heap.size + 1 := Go.Deep.nblk_alloc w _
  refine ⟨v', w', hr, h4, ?_, ⟨by have := h5.size; omega, fun k hk hne => ?_⟩, ?_⟩
  · exact ((Below.refl base w).alloc hb (.cells us.toArray e)).grown h5 (by simp; omega) (fun k e => (ho.lt k e).1)
  · rw [h5.block k (by omega) hne, Go.Deep.blk_alloc_lt w _ k hk]
  · rcases h7 with h7 | h7
    · exact Or.inl h7
    · exact Or.inr ⟨_, h7, by omega⟩
end Go.Proofs.YthofdiacncgbkaaGreatDoor

namespace Go.Proofs.YthofdiacncgbkaaGreatDoor
open Go.RowKit

abbrev Sub := Value × Value × Value
def subC (x : Dv × Sub) : List Value := [.string x.1.name, .int .i64 x.1.kind, .int .i64 x.1.addr, .int .u8 (x.1.pool : Int), x.2.1, x.2.2.1, x.2.2.2]
def devsC (xs : List (Dv × Sub)) : List Value := xs.flatMap subC
def ruleC (r : NRule) : List Value := [.bool r.ok, .int .u16 (r.a : Int), .int .u16 (r.b : Int), .int .u8 (r.c : Int), .int .u8 (r.d : Int)]
def rulesC (rs : List NRule) : List Value := rs.flatMap ruleC
def routeC (r : NRoute) : List Value := [.int .i64 r.v, .int .i64 r.b, .int .i64 r.p]
def routesC (rs : List NRoute) : List Value := rs.flatMap routeC
def linkC (l : Lk) : List Value := [.int .i64 l.a, .int .i64 l.p, .int .i64 l.b, .int .i64 l.q]
def linksC (ls : List Lk) : List Value := ls.flatMap linkC
theorem Tryz.infoRuleN : (Tryz.prog.info? 60).map (fun i => (i.zero, i.size, i.bytes)) = some (some (.agg #[.bool false, .int .u16 0, .int .u16 0, .int .u8 0, .int .u8 0]), 5, 8) := by kernel_rfl
theorem Tryz.infoRouteN : (Tryz.prog.info? 63).map (fun i => (i.zero, i.size, i.bytes)) = some (some (.agg #[.int .i64 0, .int .i64 0, .int .i64 0]), 3, 24) := by kernel_rfl
theorem Tryz.infoLinkN : (Tryz.prog.info? 52).map (fun i => (i.zero, i.size, i.bytes)) = some (some (.agg #[.int .i64 0, .int .i64 0, .int .i64 0, .int .i64 0]), 4, 32) := by kernel_rfl
theorem Tryz.infoDevN : (Tryz.prog.info? 37).map (fun i => (i.zero, i.size, i.bytes)) = some (some (.agg #[.string ⟨#[]⟩, .int .i64 0, .int .i64 0, .int .u8 0, .slice none 0 0, .slice none 0 0, .slice none 0 0]), 7, 112) := by kernel_rfl
/-- What was read so far: rows of the call's own. -/
structure RdOk (B : Nat) (w : World) (xs : List (Dv × Sub)) (ls : List Lk) (vd vl : Value) : Prop where
  dev : w.ownsRow B 37 7 vd xs.length (devsC xs)
  lnk : w.ownsRow B 52 4 vl ls.length (linksC ls)
  back : ∀ x ∈ xs, w.ownsRow B 3 1 x.2.1 x.1.backs.length (intsC x.1.backs)
  rule : ∀ x ∈ xs, w.ownsRow B 60 5 x.2.2.1 x.1.rules.length (rulesC x.1.rules)
  rout : ∀ x ∈ xs, w.ownsRow B 63 3 x.2.2.2 x.1.routes.length (routesC x.1.routes)
  apR : ∀ (i j : Nat) x y, i < j → xs[i]? = some x → xs[j]? = some y → ∀ g, x.2.2.1.ownBlock = some g → y.2.2.1.ownBlock ≠ some g
  apT : ∀ (i j : Nat) x y, i < j → xs[i]? = some x → xs[j]? = some y → ∀ g, x.2.2.2.ownBlock = some g → y.2.2.2.ownBlock ≠ some g
theorem own_nil (w : World) (B e size : Nat) : w.ownsRow B e size (.slice none 0 0) 0 [] := ⟨by simp, .inl ⟨rfl, rfl⟩⟩
theorem own_one {w : World} {B e size n : Nat} {v : Value} {xs : List Value} (h : w.ownsRow B e size v n xs) : v.oneCell' = true := by
  obtain ⟨A, cap, rfl⟩ := own_slice h
  rfl
section
variable {B : Nat} {w w' : World} {xs : List (Dv × Sub)} {ls : List Lk} {vd vl : Value}
theorem RdOk.start (B : Nat) (w : World) : RdOk B w [] [] (.slice none 0 0) (.slice none 0 0) :=
  ⟨own_nil _ _ _ _, own_nil _ _ _ _, by simp, by simp, by simp, by simp, by simp⟩
/-- Where all its rows stay, all stays. -/
theorem RdOk.kept (h : RdOk B w xs ls vd vl) {row : Option Nat} (hk : KeptB w w' row) (hr : ∀ e cur g, (e = 37 ∨ e = 52 ∨ e = 3 ∨ e = 60 ∨ e = 63) → w.heap[g]? = some (.cells cur e (0, 0)) → row ≠ some g) : RdOk B w' xs ls vd vl := by
  have key : ∀ {e size n : Nat} {v : Value} {ys : List Value}, (e = 37 ∨ e = 52 ∨ e = 3 ∨ e = 60 ∨ e = 63) → w.ownsRow B e size v n ys → w'.ownsRow B e size v n ys := fun he ho => own_kept ho hk (fun g hg => by
    obtain ⟨_, _, cur, hc⟩ := own_block ho hg
    exact hr _ cur g he hc)
  exact ⟨key (by simp) h.dev, key (by simp) h.lnk, fun x hx => key (by simp) (h.back x hx), fun x hx => key (by simp) (h.rule x hx), fun x hx => key (by simp) (h.rout x hx), h.apR, h.apT⟩
theorem RdOk.below (h : RdOk B w xs ls vd vl) (hb : Below w.heap.size w w') : RdOk B w' xs ls vd vl := h.kept (KeptB.of_below hb) (fun _ _ _ _ _ => by simp)
/-- A link more. -/
theorem RdOk.addLink (h : RdOk B w xs ls vd vl) (l : Lk) (hn : ls.length ≤ 5000) (hb : B ≤ w.heap.size) (ty : TypeId) :
    ∃ vl' w', (Builtin.append_ #[23, 23] ty #[vl, .slice (some ⟨w.heap.size, 0, none⟩) 1 1]).run Tryz.prog (w.alloc (.cells (linkC l).toArray 52)) = .ok vl' w' ∧ RdOk B w' xs (ls ++ [l]) vd vl' ∧ Below B w w' ∧ KeptB w w' vl.ownBlock := by
  obtain ⟨v', w', r, O, D, K, _⟩ := app_el (t := 23) (e := 52) Tryz.underlying23 Tryz.infoLinkN rfl (by omega) (by omega) ty h.lnk (us := linkC l) rfl (by simp [linkC, Value.oneCell']) hn hb
  refine ⟨v', w', r, ⟨?_, ?_, ?_, ?_, ?_, h.apR, h.apT⟩, D, K⟩
  · exact own_kept h.dev K (fun g hg e => own_apart h.dev h.lnk (by decide) g hg e)
  · have e1 : (ls ++ [l]).length = ls.length + 1 := by simp
    have e2 : linksC (ls ++ [l]) = linksC ls ++ linkC l := by simp [linksC]
    rw [e1, e2]
    exact O
  · exact fun x hx => own_kept (h.back x hx) K (fun g hg e => own_apart (h.back x hx) h.lnk (by decide) g hg e)
  · exact fun x hx => own_kept (h.rule x hx) K (fun g hg e => own_apart (h.rule x hx) h.lnk (by decide) g hg e)
  · exact fun x hx => own_kept (h.rout x hx) K (fun g hg e => own_apart (h.rout x hx) h.lnk (by decide) g hg e)
/-- A device more. -/
theorem RdOk.addDev (h : RdOk B w xs ls vd vl) (d : Dv) (vb : Value) (h1 : d.rules = []) (h2 : d.routes = []) (hv : w.ownsRow B 3 1 vb d.backs.length (intsC d.backs)) (hn : xs.length ≤ 5000) (hb : B ≤ w.heap.size) (ty : TypeId) :
    ∃ vd' w', (Builtin.append_ #[22, 22] ty #[vd, .slice (some ⟨w.heap.size, 0, none⟩) 1 1]).run Tryz.prog (w.alloc (.cells (subC (d, vb, .slice none 0 0, .slice none 0 0)).toArray 37)) = .ok vd' w' ∧ RdOk B w' (xs ++ [(d, vb, .slice none 0 0, .slice none 0 0)]) ls vd' vl ∧ Below B w w' ∧ KeptB w w' vd.ownBlock := by
  have o1 := own_one hv
  obtain ⟨v', w', r, O, D, K, _⟩ := app_el (t := 22) (e := 37) Tryz.underlying22 Tryz.infoDevN rfl (by omega) (by omega) ty h.dev (us := subC (d, vb, .slice none 0 0, .slice none 0 0)) rfl (fun u hu => by
    simp only [subC, List.mem_cons, List.not_mem_nil, or_false] at hu
    rcases hu with rfl | rfl | rfl | rfl | rfl | rfl | rfl <;> first | rfl | exact o1) hn hb
  have lastNil : ∀ (f : Dv × Sub → Value), f (d, vb, .slice none 0 0, .slice none 0 0) = .slice none 0 0 → (∀ (i j : Nat) x y, i < j → xs[i]? = some x → xs[j]? = some y → ∀ g, (f x).ownBlock = some g → (f y).ownBlock ≠ some g) → ∀ (i j : Nat) x y, i < j → (xs ++ [(d, vb, .slice none 0 0, .slice none 0 0)])[i]? = some x → (xs ++ [(d, vb, .slice none 0 0, .slice none 0 0)])[j]? = some y → ∀ g, (f x).ownBlock = some g → (f y).ownBlock ≠ some g := fun f hf ha i j x y hij hi hj g hg => by
    have hjl := (List.getElem?_eq_some_iff.1 hj).1
    rw [List.length_append, List.length_singleton] at hjl
    by_cases hj2 : j < xs.length
    · rw [List.getElem?_append_left (by omega)] at hi hj
      exact ha i j x y hij hi hj g hg
    · rw [List.getElem?_append_right (by omega), show j - xs.length = 0 by omega] at hj
      obtain rfl := Option.some.inj hj
      rw [hf]
      simp [Value.ownBlock]
  refine ⟨v', w', r, ⟨?_, ?_, ?_, ?_, ?_, lastNil (fun x => x.2.2.1) rfl h.apR, lastNil (fun x => x.2.2.2) rfl h.apT⟩, D, K⟩
  · have e1 : (xs ++ [(d, vb, Value.slice none 0 0, Value.slice none 0 0)]).length = xs.length + 1 := by simp
    have e2 : devsC (xs ++ [(d, vb, .slice none 0 0, .slice none 0 0)]) = devsC xs ++ subC (d, vb, .slice none 0 0, .slice none 0 0) := by simp [devsC]
    rw [e1, e2]
    exact O
  · exact own_kept h.lnk K (fun g hg e => own_apart h.lnk h.dev (by decide) g hg e)
  · intro x hx
    rcases List.mem_append.1 hx with hx | hx
    · exact own_kept (h.back x hx) K (fun g hg e => own_apart (h.back x hx) h.dev (by decide) g hg e)
    · obtain rfl := List.mem_singleton.1 hx
      exact own_kept hv K (fun g hg e => own_apart hv h.dev (by decide) g hg e)
  · intro x hx
    rcases List.mem_append.1 hx with hx | hx
    · exact own_kept (h.rule x hx) K (fun g hg e => own_apart (h.rule x hx) h.dev (by decide) g hg e)
    · obtain rfl := List.mem_singleton.1 hx
      show w'.ownsRow B _ 5 (.slice none 0 0) d.rules.length (rulesC d.rules)
      rw [h1]
      exact own_nil _ _ _ _
  · intro x hx
    rcases List.mem_append.1 hx with hx | hx
    · exact own_kept (h.rout x hx) K (fun g hg e => own_apart (h.rout x hx) h.dev (by decide) g hg e)
    · obtain rfl := List.mem_singleton.1 hx
      show w'.ownsRow B _ 3 (.slice none 0 0) d.routes.length (routesC d.routes)
      rw [h2]
      exact own_nil _ _ _ _
end
end Go.Proofs.YthofdiacncgbkaaGreatDoor

namespace Go.Proofs.YthofdiacncgbkaaGreatDoor
open Go.RowKit

theorem devsC_len (ys : List (Dv × Sub)) : (devsC ys).length = 7 * ys.length := by
  induction ys with
  | nil => rfl
  | cons y ys ih =>
    have e : devsC (y :: ys) = subC y ++ devsC ys := by simp [devsC]
    rw [e, List.length_append, ih, List.length_cons]
    show 7 + _ = _
    omega
theorem devsC_snoc (ys : List (Dv × Sub)) (x : Dv × Sub) : devsC (ys ++ [x]) = devsC ys ++ subC x := by simp [devsC]
theorem own_some {w : World} {B e size n : Nat} {v : Value} {xs : List Value} (h : w.ownsRow B e size v n xs) (hn : n ≠ 0) : ∃ g, v.ownBlock = some g := by
  rcases h.2 with ⟨_, h0⟩ | ⟨g, cap, cur, rfl, _⟩
  · exact absurd h0 hn
  · exact ⟨g, rfl⟩
section
variable {B : Nat} {w : World} {ys : List (Dv × Sub)} {ls : List Lk} {vd vl vb vr vt : Value} {d : Dv}
/-- A rule more, of the last device. -/
theorem RdOk.addRule (h : RdOk B w (ys ++ [(d, vb, vr, vt)]) ls vd vl) (r : NRule) (hn : d.rules.length ≤ 5000) (hb : B ≤ w.heap.size) (ty : TypeId) :
    ∃ gd v' w', vd.ownBlock = some gd ∧ (Builtin.append_ #[34, 34] ty #[vr, .slice (some ⟨w.heap.size, 0, none⟩) 1 1]).run Tryz.prog (w.alloc (.cells (ruleC r).toArray 60)) = .ok v' w' ∧ RdOk B (w'.setCell ⟨gd, 7 * ys.length + 5, none⟩ v') (ys ++ [({ d with rules := d.rules ++ [r] }, vb, v', vt)]) ls vd vl ∧ Below B w (w'.setCell ⟨gd, 7 * ys.length + 5, none⟩ v') ∧ w'.ownsRow B 37 7 vd (ys.length + 1) (devsC (ys ++ [(d, vb, vr, vt)])) ∧ KeptB w w' vr.ownBlock := by
  have hlast : (d, vb, vr, vt) ∈ ys ++ [(d, vb, vr, vt)] := by simp
  have hold := h.rule _ hlast
  obtain ⟨v', w', run, O, D, K, hv⟩ := app_el (t := 34) (e := 60) Tryz.underlying34 Tryz.infoRuleN rfl (by omega) (by omega) ty hold (us := ruleC r) rfl (by simp [ruleC, Value.oneCell']) hn hb
  have hdev := h.dev
  rw [show (ys ++ [(d, vb, vr, vt)]).length = ys.length + 1 by simp] at hdev
  obtain ⟨gd, hgd⟩ := own_some hdev (by omega)
  have dev1 : w'.ownsRow B 37 7 vd (ys.length + 1) (devsC (ys ++ [(d, vb, vr, vt)])) := own_kept hdev K (fun g hg e => own_apart hdev hold (by decide) g hg e)
  have hgB := (own_block hdev hgd).2.1
  have set : ∀ {e size n : Nat} {v : Value} {zs : List Value}, e ≠ 37 → w'.ownsRow B e size v n zs → (w'.setCell ⟨gd, 7 * ys.length + 5, none⟩ v').ownsRow B e size v n zs := fun he ho => ownsRow_setCell_other ho (fun e => own_apart ho dev1 he gd e hgd) _
  have kp : ∀ {e size n : Nat} {v : Value} {zs : List Value}, e ≠ 37 → e ≠ 60 → w.ownsRow B e size v n zs → (w'.setCell ⟨gd, 7 * ys.length + 5, none⟩ v').ownsRow B e size v n zs := fun he he2 ho => set he (own_kept ho K (fun g hg e => own_apart ho hold he2 g hg e))
  have mem : ∀ x, x ∈ ys → x ∈ ys ++ [(d, vb, vr, vt)] := fun x hx => List.mem_append_left _ hx
  refine ⟨gd, v', w', hgd, run, ⟨?_, kp (by decide) (by decide) h.lnk, ?_, ?_, ?_, ?_, ?_⟩, D.setCell (p := ⟨gd, _, none⟩) hgB _, dev1, K⟩
  · have s1 := own_setAt dev1 hgd (j := 7 * ys.length + 5) v'
    rw [devsC_snoc, List.set_append_right _ _ (by rw [devsC_len]; omega), devsC_len, show 7 * ys.length + 5 - 7 * ys.length = 5 by omega] at s1
    rw [devsC_snoc, List.length_append, List.length_singleton]
    exact s1
  · intro x hx
    rcases List.mem_append.1 hx with hx | hx
    · exact kp (by decide) (by decide) (h.back x (mem x hx))
    · obtain rfl := List.mem_singleton.1 hx
      exact kp (by decide) (by decide) (h.back (d, vb, vr, vt) hlast)
  · intro x hx
    rcases List.mem_append.1 hx with hx | hx
    · obtain ⟨i, hi⟩ := List.mem_iff_getElem?.1 hx
      have hil := (List.getElem?_eq_some_iff.1 hi).1
      have ho := h.rule x (mem x hx)
      exact set (by decide) (own_kept ho K (fun g hg e => h.apR i ys.length x (d, vb, vr, vt) hil (by rw [List.getElem?_append_left hil]; exact hi) (by simp) g hg e))
    · obtain rfl := List.mem_singleton.1 hx
      have e1 : (d.rules ++ [r]).length = d.rules.length + 1 := by simp
      have e2 : rulesC (d.rules ++ [r]) = rulesC d.rules ++ ruleC r := by simp [rulesC]
      show World.ownsRow _ B _ 5 v' (d.rules ++ [r]).length (rulesC (d.rules ++ [r]))
      rw [e1, e2]
      exact set (by decide) O
  · intro x hx
    rcases List.mem_append.1 hx with hx | hx
    · exact kp (by decide) (by decide) (h.rout x (mem x hx))
    · obtain rfl := List.mem_singleton.1 hx
      exact kp (by decide) (by decide) (h.rout (d, vb, vr, vt) hlast)
  · intro i j x y hij hi hj g hg
    have hjl := (List.getElem?_eq_some_iff.1 hj).1
    rw [List.length_append, List.length_singleton] at hjl
    have hil : i < ys.length := by omega
    rw [List.getElem?_append_left hil] at hi
    by_cases hj2 : j < ys.length
    · rw [List.getElem?_append_left hj2] at hj
      exact h.apR i j x y hij (by rw [List.getElem?_append_left hil]; exact hi) (by rw [List.getElem?_append_left hj2]; exact hj) g hg
    · rw [List.getElem?_append_right (by omega), show j - ys.length = 0 by omega] at hj
      obtain rfl := Option.some.inj hj
      show v'.ownBlock ≠ some g
      have old := h.apR i ys.length x (d, vb, vr, vt) hil (by rw [List.getElem?_append_left hil]; exact hi) (by simp) g hg
      rcases hv with hv | ⟨g2, hv, hg2⟩
      · rw [hv]
        exact old
      · rw [hv]
        have := (own_block (h.rule x (mem x (List.mem_of_getElem? hi))) hg).1
        intro e
        have := Option.some.inj e
        omega
  · intro i j x y hij hi hj g hg
    have hjl := (List.getElem?_eq_some_iff.1 hj).1
    rw [List.length_append, List.length_singleton] at hjl
    have hil : i < ys.length := by omega
    rw [List.getElem?_append_left hil] at hi
    by_cases hj2 : j < ys.length
    · rw [List.getElem?_append_left hj2] at hj
      exact h.apT i j x y hij (by rw [List.getElem?_append_left hil]; exact hi) (by rw [List.getElem?_append_left hj2]; exact hj) g hg
    · rw [List.getElem?_append_right (by omega), show j - ys.length = 0 by omega] at hj
      obtain rfl := Option.some.inj hj
      exact h.apT i ys.length x (d, vb, vr, vt) hil (by rw [List.getElem?_append_left hil]; exact hi) (by simp) g hg
/-- A route more, of the last device. -/
theorem RdOk.addRoute (h : RdOk B w (ys ++ [(d, vb, vr, vt)]) ls vd vl) (r : NRoute) (hn : d.routes.length ≤ 5000) (hb : B ≤ w.heap.size) (ty : TypeId) :
    ∃ gd v' w', vd.ownBlock = some gd ∧ (Builtin.append_ #[35, 35] ty #[vt, .slice (some ⟨w.heap.size, 0, none⟩) 1 1]).run Tryz.prog (w.alloc (.cells (routeC r).toArray 63)) = .ok v' w' ∧ RdOk B (w'.setCell ⟨gd, 7 * ys.length + 6, none⟩ v') (ys ++ [({ d with routes := d.routes ++ [r] }, vb, vr, v')]) ls vd vl ∧ Below B w (w'.setCell ⟨gd, 7 * ys.length + 6, none⟩ v') ∧ w'.ownsRow B 37 7 vd (ys.length + 1) (devsC (ys ++ [(d, vb, vr, vt)])) ∧ KeptB w w' vt.ownBlock := by
  have hlast : (d, vb, vr, vt) ∈ ys ++ [(d, vb, vr, vt)] := by simp
  have hold := h.rout _ hlast
  obtain ⟨v', w', run, O, D, K, hv⟩ := app_el (t := 35) (e := 63) Tryz.underlying35 Tryz.infoRouteN rfl (by omega) (by omega) ty hold (us := routeC r) rfl (by simp [routeC, Value.oneCell']) hn hb
  have hdev := h.dev
  rw [show (ys ++ [(d, vb, vr, vt)]).length = ys.length + 1 by simp] at hdev
  obtain ⟨gd, hgd⟩ := own_some hdev (by omega)
  have dev1 : w'.ownsRow B 37 7 vd (ys.length + 1) (devsC (ys ++ [(d, vb, vr, vt)])) := own_kept hdev K (fun g hg e => own_apart hdev hold (by decide) g hg e)
  have hgB := (own_block hdev hgd).2.1
  have set : ∀ {e size n : Nat} {v : Value} {zs : List Value}, e ≠ 37 → w'.ownsRow B e size v n zs → (w'.setCell ⟨gd, 7 * ys.length + 6, none⟩ v').ownsRow B e size v n zs := fun he ho => ownsRow_setCell_other ho (fun e => own_apart ho dev1 he gd e hgd) _
  have kp : ∀ {e size n : Nat} {v : Value} {zs : List Value}, e ≠ 37 → e ≠ 63 → w.ownsRow B e size v n zs → (w'.setCell ⟨gd, 7 * ys.length + 6, none⟩ v').ownsRow B e size v n zs := fun he he2 ho => set he (own_kept ho K (fun g hg e => own_apart ho hold he2 g hg e))
  have mem : ∀ x, x ∈ ys → x ∈ ys ++ [(d, vb, vr, vt)] := fun x hx => List.mem_append_left _ hx
  refine ⟨gd, v', w', hgd, run, ⟨?_, kp (by decide) (by decide) h.lnk, ?_, ?_, ?_, ?_, ?_⟩, D.setCell (p := ⟨gd, _, none⟩) hgB _, dev1, K⟩
  · have s1 := own_setAt dev1 hgd (j := 7 * ys.length + 6) v'
    rw [devsC_snoc, List.set_append_right _ _ (by rw [devsC_len]; omega), devsC_len, show 7 * ys.length + 6 - 7 * ys.length = 6 by omega] at s1
    rw [devsC_snoc, List.length_append, List.length_singleton]
    exact s1
  · intro x hx
    rcases List.mem_append.1 hx with hx | hx
    · exact kp (by decide) (by decide) (h.back x (mem x hx))
    · obtain rfl := List.mem_singleton.1 hx
      exact kp (by decide) (by decide) (h.back (d, vb, vr, vt) hlast)
  · intro x hx
    rcases List.mem_append.1 hx with hx | hx
    · exact kp (by decide) (by decide) (h.rule x (mem x hx))
    · obtain rfl := List.mem_singleton.1 hx
      exact kp (by decide) (by decide) (h.rule (d, vb, vr, vt) hlast)
  · intro x hx
    rcases List.mem_append.1 hx with hx | hx
    · obtain ⟨i, hi⟩ := List.mem_iff_getElem?.1 hx
      have hil := (List.getElem?_eq_some_iff.1 hi).1
      have ho := h.rout x (mem x hx)
      exact set (by decide) (own_kept ho K (fun g hg e => h.apT i ys.length x (d, vb, vr, vt) hil (by rw [List.getElem?_append_left hil]; exact hi) (by simp) g hg e))
    · obtain rfl := List.mem_singleton.1 hx
      have e1 : (d.routes ++ [r]).length = d.routes.length + 1 := by simp
      have e2 : routesC (d.routes ++ [r]) = routesC d.routes ++ routeC r := by simp [routesC]
      show World.ownsRow _ B _ 3 v' (d.routes ++ [r]).length (routesC (d.routes ++ [r]))
      rw [e1, e2]
      exact set (by decide) O
  · intro i j x y hij hi hj g hg
    have hjl := (List.getElem?_eq_some_iff.1 hj).1
    rw [List.length_append, List.length_singleton] at hjl
    have hil : i < ys.length := by omega
    rw [List.getElem?_append_left hil] at hi
    by_cases hj2 : j < ys.length
    · rw [List.getElem?_append_left hj2] at hj
      exact h.apR i j x y hij (by rw [List.getElem?_append_left hil]; exact hi) (by rw [List.getElem?_append_left hj2]; exact hj) g hg
    · rw [List.getElem?_append_right (by omega), show j - ys.length = 0 by omega] at hj
      obtain rfl := Option.some.inj hj
      exact h.apR i ys.length x (d, vb, vr, vt) hil (by rw [List.getElem?_append_left hil]; exact hi) (by simp) g hg
  · intro i j x y hij hi hj g hg
    have hjl := (List.getElem?_eq_some_iff.1 hj).1
    rw [List.length_append, List.length_singleton] at hjl
    have hil : i < ys.length := by omega
    rw [List.getElem?_append_left hil] at hi
    by_cases hj2 : j < ys.length
    · rw [List.getElem?_append_left hj2] at hj
      exact h.apT i j x y hij (by rw [List.getElem?_append_left hil]; exact hi) (by rw [List.getElem?_append_left hj2]; exact hj) g hg
    · rw [List.getElem?_append_right (by omega), show j - ys.length = 0 by omega] at hj
      obtain rfl := Option.some.inj hj
      show v'.ownBlock ≠ some g
      have old := h.apT i ys.length x (d, vb, vr, vt) hil (by rw [List.getElem?_append_left hil]; exact hi) (by simp) g hg
      rcases hv with hv | ⟨g2, hv, hg2⟩
      · rw [hv]
        exact old
      · rw [hv]
        have := (own_block (h.rout x (mem x (List.mem_of_getElem? hi))) hg).1
        intro e
        have := Option.some.inj e
        omega
end
end Go.Proofs.YthofdiacncgbkaaGreatDoor

namespace Go.Proofs.YthofdiacncgbkaaGreatDoor
open Go.RowKit

set_option maxHeartbeats 1000000 in
theorem open_none (rb n m cap cap' : Nat) (A C : Option Addr) (w : World) (c0 : w.cell? ⟨rb, 0, none⟩ = some (.slice A n cap)) (c1 : w.cell? ⟨rb, 1, none⟩ = some (.slice C m cap')) (hn : n ≤ 5000) (hm : m ≤ 5000) (h : n = 0 ∨ 0 < m) :
    Calls Tryz.prog 59 #[.pointer (some ⟨rb, 0, none⟩)] w fun e w' => e = .returned (.pointer none) ∧ w' = w := by
  by_cases h0 : n = 0
  · subst h0
    go_enter Tryz.func59, Tryz.ntmps59
    go_wp2_with fail
    go_ret
    exact ⟨rfl, rfl⟩
  · have hm1 : (0 : Int) < (m : Int) := by omega
    have hn1 : ¬ ((n : Int) - 1 < 0) := by omega
    go_enter Tryz.func59, Tryz.ntmps59
    go_wp2_with fail
    go_ret
    exact ⟨rfl, rfl⟩
set_option maxHeartbeats 1000000 in
theorem open_last (rb k cap cap' gd : Nat) (C : Option Addr) (w : World) (c0 : w.cell? ⟨rb, 0, none⟩ = some (.slice (some ⟨gd, 0, none⟩) (k + 1) cap)) (c1 : w.cell? ⟨rb, 1, none⟩ = some (.slice C 0 cap')) (hn : k ≤ 5000) :
    Calls Tryz.prog 59 #[.pointer (some ⟨rb, 0, none⟩)] w fun e w' => e = .returned (.pointer (some ⟨gd, 7 * k, none⟩)) ∧ w' = w := by
  have e1 : (((k + 1 : Nat) : Int) - 1) = (k : Int) := by omega
  have hn1 : ¬ ((k : Int) < 0) := by omega
  go_enter Tryz.func59, Tryz.ntmps59
  go_wp2_with fail
  go_ret
  exact ⟨by simp [Nat.mul_comm], rfl⟩
end Go.Proofs.YthofdiacncgbkaaGreatDoor

namespace Go.Proofs.YthofdiacncgbkaaGreatDoor
open Go.RowKit

theorem flat_at {α : Type} (f : α → List Value) (size : Nat) : ∀ (xs : List α), (∀ x ∈ xs, (f x).length = size) → ∀ (k : Nat) (x : α), xs[k]? = some x → ∀ (j : Nat) (u : Value), (f x)[j]? = some u → (xs.flatMap f)[k * size + j]? = some u
  | [], _, k, x, h, j, u, _ => by simp at h
  | y :: xs, hl, k, x, h, j, u, hu => by
    have hy := hl y (by simp)
    rw [List.flatMap_cons]
    match k, h with
    | 0, h =>
      obtain rfl : y = x := by simpa using h
      have := (List.getElem?_eq_some_iff.1 hu).1
      rw [Nat.zero_mul, Nat.zero_add, List.getElem?_append_left this]
      exact hu
    | k + 1, h =>
      have h' : xs[k]? = some x := by simpa using h
      have e : (k + 1) * size + j = (f y).length + (k * size + j) := by rw [hy, Nat.add_mul]; omega
      rw [e, List.getElem?_append_right (by omega), Nat.add_sub_cancel_left]
      exact flat_at f size xs (fun z hz => hl z (by simp [hz])) k x h' j u hu
/-- A row of the call's own is a slice of what its cells say. -/
theorem own_slAt {α β : Type} {w : World} {B e size : Nat} {v : Value} (f : β → List Value) (q : β → α) (xs : List β) (R : List Value → α → Prop) (h : w.ownsRow B e size v xs.length (xs.flatMap f)) (hl : ∀ x ∈ xs, (f x).length = size) (hR : ∀ x ∈ xs, R (f x) (q x)) : SlAt w.heap.size w size R v (xs.map q) := by
  have hh := h
  obtain ⟨_, hc⟩ := h
  rcases hc with ⟨rfl, h0⟩ | ⟨g, cap, cur, rfl, hb, hg, hn, hcap, hs, ht⟩
  · exact ⟨none, 0, by simp [h0], fun _ => rfl, by simp [h0], by unfold maxLen; omega, fun hn => absurd (by simpa using List.length_eq_zero_iff.1 h0) hn⟩
  · refine ⟨_, cap, by rw [List.length_map], (fun e => by cases e), by rw [List.length_map]; exact hn, hcap, fun _ => ⟨g, 0, rfl, (Array.getElem?_eq_some_iff.1 hg).1, fun k x hk => ?_⟩⟩
    rw [List.getElem?_map] at hk
    obtain ⟨y, hy, rfl⟩ := Option.map_eq_some_iff.1 hk
    have hm := List.mem_of_getElem? hy
    refine ⟨f y, hl y hm, hR y hm, fun j u hj => ?_⟩
    have := hh.cells (g := g) rfl (k * size + j) u (flat_at f size xs hl k y hy j u hj)
    rw [Addr.add_lit] at this
    rw [Nat.zero_add] at this ⊢
    exact this
section
variable {B : Nat} {w : World} {xs : List (Dv × Sub)} {ls : List Lk} {vd vl : Value}
theorem RdOk.links (h : RdOk B w xs ls vd vl) : Links w.heap.size w vl ls := by
  have := own_slAt linkC id ls IsLk h.lnk (fun _ _ => rfl) (fun _ _ => rfl)
  rw [List.map_id] at this
  exact this
theorem RdOk.devs (h : RdOk B w xs ls vd vl) : Devs w.heap.size w vd (xs.map Prod.fst) :=
  own_slAt subC Prod.fst xs (IsDv w.heap.size w) h.dev (fun _ _ => rfl) (fun x hx => ⟨x.2.1, x.2.2.1, x.2.2.2, rfl, ints_own (h.back x hx), by
    have := own_slAt ruleC id x.1.rules IsRule (h.rule x hx) (fun _ _ => rfl) (fun _ _ => rfl)
    rw [List.map_id] at this
    exact this, by
    have := own_slAt routeC id x.1.routes IsRoute (h.rout x hx) (fun _ _ => rfl) (fun _ _ => rfl)
    rw [List.map_id] at this
    exact this⟩)
end
/-- The reader, with what it has read. -/
def Rd (B rb : Nat) (w : World) (ds : List Dv) (ls : List Lk) : Prop :=
  ∃ xs vd vl, xs.map Prod.fst = ds ∧ B ≤ rb ∧ Blk w rb #[vd, vl] 40 ∧ RdOk B w xs ls vd vl
theorem Rd.below {B rb : Nat} {w w' : World} {ds : List Dv} {ls : List Lk} (h : Rd B rb w ds ls) (hb : Below w.heap.size w w') : Rd B rb w' ds ls := by
  obtain ⟨xs, vd, vl, e, h1, h2, h3⟩ := h
  exact ⟨xs, vd, vl, e, h1, h2.keep hb, h3.below hb⟩
theorem Rd.net {B rb : Nat} {w : World} {ds : List Dv} {ls : List Lk} (h : Rd B rb w ds ls) : ∃ vd vl, Blk w rb #[vd, vl] 40 ∧ Devs w.heap.size w vd ds ∧ Links w.heap.size w vl ls := by
  obtain ⟨xs, vd, vl, rfl, h1, h2, h3⟩ := h
  exact ⟨vd, vl, h2, h3.devs, h3.links⟩
theorem Blk.setOther {w : World} {k g j : Nat} {c : Array Value} {t : TypeId} (h : Blk w k c t) (hne : k ≠ g) (u : Value) : Blk (w.setCell ⟨g, j, none⟩ u) k c t := (Go.Deep.blk_setCell_other w ⟨g, j, none⟩ u k hne).trans h
theorem Blk.keptB {w w' : World} {k : Nat} {c : Array Value} {t : TypeId} {row : Option Nat} (h : Blk w k c t) (hk : KeptB w w' row) (hne : some k ≠ row) : Blk w' k c t := (hk.block k h.lt hne).trans h
theorem Blk.set {w : World} {k j : Nat} {c : Array Value} {t : TypeId} (h : Blk w k c t) (u : Value) : Blk (w.setCell ⟨k, j, none⟩ u) k (c.setIfInBounds j u) t := by
  unfold Blk at *
  simp [World.setCell, Array.getElem?_modify, h]
/-- A row's block is not one of another type. -/
theorem Blk.apart {w : World} {k : Nat} {c : Array Value} {t : TypeId} (h : Blk w k c t) {B e size n : Nat} {v : Value} {xs : List Value} (ho : w.ownsRow B e size v n xs) (he : e ≠ t) : v.ownBlock ≠ some k := fun hg => by
  obtain ⟨_, _, cur, hc⟩ := own_block ho hg
  unfold Blk at h
  rw [h] at hc
  simp only [Option.some.injEq, Obj.cells.injEq] at hc
  exact he hc.2.1.symm
end Go.Proofs.YthofdiacncgbkaaGreatDoor

namespace Go.Proofs.YthofdiacncgbkaaGreatDoor
open Go.RowKit

set_option maxHeartbeats 4000000 in
set_option maxRecDepth 100000 in
theorem readLink_go (B rb g : Nat) (xs : List (Dv × Sub)) (ls : List Lk) (vl : Value) (A : Option Addr) (n cap : Nat) (z a p b q : ByteArray) (ia np ib nq : Int) (ba bp bb bq : Bool) (w : World)
    (hB : B ≤ w.heap.size) (hrb : B ≤ rb) (K0 : Blk w rb #[.slice A n cap, vl] 40) (R : RdOk B w xs ls (.slice A n cap) vl) (hn : ls.length ≤ 5000) (T : Texts w g [z, a, p, b, q])
    (F1 : Hid (∀ W, Below w.heap.size w W → Calls Tryz.prog 62 #[.slice A n cap, .string a] W fun e w' => e = .returned (.tuple #[.int .i64 ia, .bool ba]) ∧ Below W.heap.size W w'))
    (F2 : Hid (∀ W, Below w.heap.size w W → Calls Tryz.prog 62 #[.slice A n cap, .string b] W fun e w' => e = .returned (.tuple #[.int .i64 ib, .bool bb]) ∧ Below W.heap.size W w'))
    (A1 : Hid (∀ w, Calls Tryz.prog 63 #[.string p] w fun e w' => e = .returned (.tuple #[.int .i64 np, .bool bp]) ∧ w' = w))
    (A2 : Hid (∀ w, Calls Tryz.prog 63 #[.string q] w fun e w' => e = .returned (.tuple #[.int .i64 nq, .bool bq]) ∧ w' = w)) :
    Calls Tryz.prog 32 #[.pointer (some ⟨rb, 0, none⟩), .slice (some ⟨g, 0, none⟩) 5 5] w fun e w' => Below B w w' ∧ if ba && bp && bb && bq then e = .returned (.bool true) ∧ Rd B rb w' (xs.map Prod.fst) (ls ++ [⟨ia, np, ib, nq⟩]) else e = .returned (.bool false) := by
  have c0 := K0.cell 0 _ rfl
  have t1 := T.2 1 a rfl
  go_enter Tryz.func32, Tryz.ntmps32
  go_wp2_with fail
  go_region_held3 (fun w' => w'.cell? ⟨rb, 0, none⟩ = some (.slice A n cap) ∧ w'.cell? ⟨g, 1, none⟩ = some (.string a)) (go_keep) ((go_at_call 62; refine (F1.out _ (by first | exact Below.refl _ _ | exact (Below.refl _ _).drew)).mono ?_; rintro e w2 ⟨rfl, hb2⟩; have c02 := (hb2.cell (p := ⟨rb, 0, none⟩) K0.lt).trans c0; have t12 := (hb2.cell (p := ⟨g, 1, none⟩) T.1).trans t1))
  have D2 : Below w.heap.size w w2 := (Below.refl _ w).drew.trans hb2
  have T2 := keepTexts D2 T
  have t2 := T2.2 2 p rfl
  clear hb2 c0 t1 c02 t12
  go_wp2_with fail
  refine (A1.out _).mono ?_
  rintro e w3 ⟨rfl, rfl⟩
  have K2 := K0.keep D2
  have c3 := K2.cell 0 _ rfl
  have t3 := T2.2 3 b rfl
  go_wp2_with fail
  go_region_held3 (fun w' => w'.cell? ⟨rb, 0, none⟩ = some (.slice A n cap) ∧ w'.cell? ⟨g, 3, none⟩ = some (.string b)) (go_keep) ((go_at_call 62; refine (F2.out _ (by first | exact D2 | exact D2.drew)).mono ?_; rintro e w4 ⟨rfl, hb4⟩; have c34 := (hb4.cell (p := ⟨rb, 0, none⟩) K2.lt).trans c3; have t34 := (hb4.cell (p := ⟨g, 3, none⟩) T2.1).trans t3))
  have D4 : Below w.heap.size w w4 := D2.drew.trans (hb4.mono D2.size)
  have T4 := keepTexts D4 T
  have t4 := T4.2 4 q rfl
  have K4 := K0.keep D4
  have c4 := K4.cell 1 _ rfl
  have R4 := R.below D4
  clear hb4 c3 t3 c34 t34 t2 K2 T2 D2 F1 F2 A1
  go_wp2_with fail
  refine (A2.out _).mono ?_
  rintro e w5 ⟨rfl, rfl⟩
  clear t4 T4 A2 T K0 R
  have DB : Below B w w5 := D4.mono hB
  cases ba
  · go_wp2_with fail
    go_ret
    exact ⟨DB, rfl⟩
  · cases bp
    · go_wp2_with fail
      go_ret
      exact ⟨DB, rfl⟩
    · cases bb
      · go_wp2_with fail
        go_ret
        exact ⟨DB, rfl⟩
      · cases bq
        · go_wp2_with fail
          go_ret
          exact ⟨DB, rfl⟩
        · obtain ⟨v7, w7, r7, R7, D7, Kp7⟩ := R4.addLink ⟨ia, np, ib, nq⟩ hn (Nat.le_trans hB D4.size) 23
          have K7 := K4.keptB Kp7 (fun e => K4.apart R4.lnk (by decide) e.symm)
          have hR8 := R7.kept (kept_set w7 rb 1 v7) (fun e cur g' he hc h' => by
            obtain rfl := Option.some.inj h'
            unfold Blk at K7
            rw [K7] at hc
            simp only [Option.some.injEq, Obj.cells.injEq] at hc
            have := hc.2.1
            subst this
            revert he
            decide)
          have K8 : Blk (w7.setCell ⟨rb, 1, none⟩ v7) rb #[.slice A n cap, v7] 40 := K7.set v7
          have D8 := (DB.trans D7).setCell (p := ⟨rb, 1, none⟩) hrb v7
          have f1 : w7.frozen? ⟨rb, 1, none⟩ = false := by unfold Blk at K7; simp [World.frozen?, K7]
          have c7 := K7.cell 1 _ rfl
          obtain ⟨A7, cap7, hv7⟩ := own_slice R7.lnk
          rw [List.length_append, List.length_singleton] at hv7
          subst hv7
          clear K4 R4 D4 DB D7 Kp7 R7 K7
          go_wp2_with (at_builtin; refine append_run2 rfl _ _ 23 rfl rfl rfl r7 ?_)
          go_ret
          exact ⟨D8, rfl, xs, _, _, rfl, hrb, K8, hR8⟩
set_option maxHeartbeats 1000000 in
theorem readLink_few (P : Option Addr) (A : Option Addr) (n : Nat) (w : World) (hn : n ≠ 5) :
    Calls Tryz.prog 32 #[.pointer P, .slice A n n] w fun e w' => e = .returned (.bool false) ∧ w' = w := by
  have hne : ((n : Int) == 5) = false := by simp; omega
  go_enter Tryz.func32, Tryz.ntmps32
  go_wp2_with fail
  go_ret
  exact ⟨rfl, rfl⟩
/-- What a line is told as, and what was read then. -/
def LineOut (B rb : Nat) (w : World) (o : Option (List Dv × List Lk)) (e : Ending) (w' : World) : Prop :=
  Below B w w' ∧ match o with
    | none => e = .returned (.bool false)
    | some (ds, ls) => e = .returned (.bool true) ∧ Rd B rb w' ds ls
theorem readLink_any (B rb g : Nat) (ds : List Dv) (ls : List Lk) (ws : List ByteArray) (w : World) (hB : B ≤ w.heap.size) (R : Rd B rb w ds ls) (hn : ls.length ≤ 5000) (T : Texts w g ws) (hs : ∀ x ∈ ws, x.size ≤ 4096) :
    Calls Tryz.prog 32 #[.pointer (some ⟨rb, 0, none⟩), .slice (some ⟨g, 0, none⟩) ws.length ws.length] w fun e w' => LineOut B rb w ((linkP ds ((ws.map (·.data.toList)).drop 1)).map fun l => (ds, ls ++ [l])) e w' := by
  by_cases h5 : ws.length = 5
  · match ws, h5, T, hs with
    | [z, a, p, b, q], _, T, hs =>
      obtain ⟨xs, vd, vl, rfl, hrb, K0, R0⟩ := R
      have dv := R0.devs
      obtain ⟨A, n, rfl⟩ : ∃ A cap, vd = .slice A xs.length cap := own_slice R0.dev
      have mx : ∀ x : ByteArray, x.size ≤ 4096 → x.size ≤ maxLen := fun x hx => by unfold maxLen; omega
      have F : ∀ s : ByteArray, Hid (∀ W, Below w.heap.size w W → Calls Tryz.prog 62 #[.slice A xs.length n, .string s] W fun e w' => e = .returned (.tuple #[.int .i64 (if 0 ≤ findFrom (xs.map Prod.fst) s.data.toList 0 then findFrom (xs.map Prod.fst) s.data.toList 0 else 0), .bool (decide (0 ≤ findFrom (xs.map Prod.fst) s.data.toList 0))]) ∧ Below W.heap.size W w') := fun s W hb => by
        have := find_any A xs.length n (xs.map Prod.fst) s W ((dv.below hb).mono hb.size)
        rw [bytes_list] at this
        exact this
      have N : ∀ s : ByteArray, s.size ≤ 4096 → Hid (∀ w, Calls Tryz.prog 63 #[.string s] w fun e w' => e = .returned (.tuple #[.int .i64 ((pnum s.data.toList).getD 0), .bool (pnum s.data.toList).isSome]) ∧ w' = w) := fun s h w => parseNumber_any s w (mx s h)
      have := readLink_go B rb g xs ls vl A xs.length n z a p b q _ _ _ _ _ _ _ _ w hB hrb K0 R0 hn T (F a) (F b) (N p (hs p (by simp))) (N q (hs q (by simp)))
      refine this.mono fun e w' h => ⟨h.1, ?_⟩
      have h2 := h.2
      show match (linkP (xs.map Prod.fst) [a.data.toList, p.data.toList, b.data.toList, q.data.toList]).map fun l => (xs.map Prod.fst, ls ++ [l]) with
        | none => e = .returned (.bool false)
        | some (ds, ls) => e = .returned (.bool true) ∧ Rd B rb w' ds ls
      rw [linkP]
      by_cases ha : 0 ≤ findFrom (xs.map Prod.fst) a.data.toList 0
      · by_cases hb : 0 ≤ findFrom (xs.map Prod.fst) b.data.toList 0
        · rw [if_pos ⟨ha, hb⟩]
          rw [if_pos ha, if_pos hb] at h2
          simp only [ha, hb, decide_true, Bool.true_and, Bool.and_true] at h2
          rcases hp : pnum p.data.toList with _ | np
          · rw [hp] at h2
            exact h2
          · rcases hq : pnum q.data.toList with _ | nq
            · rw [hp, hq] at h2
              exact h2
            · rw [hp, hq] at h2
              exact h2
        · rw [if_neg (fun h => hb h.2)]
          simp only [hb, decide_false, Bool.and_false, Bool.false_and] at h2
          exact h2
      · rw [if_neg (fun h => ha h.1)]
        simp only [ha, decide_false, Bool.false_and] at h2
        exact h2
  · have e : linkP ds ((ws.map (·.data.toList)).drop 1) = none := by
      match ws, h5 with
      | [], _ => rfl
      | [_], _ => rfl
      | [_, _], _ => rfl
      | [_, _, _], _ => rfl
      | [_, _, _, _], _ => rfl
      | [_, _, _, _, _], h => exact absurd rfl h
      | _ :: _ :: _ :: _ :: _ :: _ :: _, _ => rfl
    rw [e]
    refine (readLink_few _ _ _ w h5).mono ?_
    rintro e w' ⟨rfl, rfl⟩
    exact ⟨Below.refl _ _, rfl⟩
end Go.Proofs.YthofdiacncgbkaaGreatDoor

namespace Go.Proofs.YthofdiacncgbkaaGreatDoor
open Go.RowKit

/-- At a step of a region that draws: append, by its run. -/
theorem step_append_run {P : Program} {w : World} {ops : Array Oper} {o : Oper} {a : Act} {K : Act → World → Prop} {Q : Exit → Act → World → Prop} {E : Prop} (hgd : o.guard = none) (s x : Operand) (t : TypeId)
    (ho : o.op = .call { callee := .builtin .append, args := #[s, x], argTypes := #[t, t] }) (v u v' : Value) (w' : World) (hs : a.eval s = v) (hx : a.eval x = u)
    (hr : (Builtin.append_ #[t, t] o.type #[v, u]).run P w = .ok v' w') (h : K (a.put o.dst v') w') :
    if Region.wanted o (yielded ops a.tmps) = true then Oper.wp P o a w K Q else E := by
  have hw : Region.wanted o (yielded ops a.tmps) = true := by simp [Region.wanted, hgd]
  rw [if_pos hw]
  unfold Oper.wp execOp
  simp only [ho, resolve, invoke, builtin, Sem.run_bind, Sem.run_pure, Result.andThen_ok, List.map_toArray, List.map_cons, List.map_nil, hs, hx, hr]
  exact h
theorem RdOk.reader {B rb : Nat} {w : World} {xs : List (Dv × Sub)} {ls : List Lk} {vd vl : Value} {c : Array Value} (R : RdOk B w xs ls vd vl) (K : Blk w rb c 40) (j : Nat) (u : Value) : RdOk B (w.setCell ⟨rb, j, none⟩ u) xs ls vd vl := R.kept (kept_set w rb j u) (fun e cur g' he hc h' => by
  obtain rfl := Option.some.inj h'
  unfold Blk at K
  rw [K] at hc
  simp only [Option.some.injEq, Obj.cells.injEq] at hc
  have := hc.2.1
  subst this
  revert he
  decide)
theorem Blk.free {w : World} {k : Nat} {c : Array Value} {t : TypeId} (h : Blk w k c t) (j : Nat) : w.frozen? ⟨k, j, none⟩ = false := by unfold Blk at h; simp [World.frozen?, h]
set_option maxHeartbeats 4000000 in
set_option maxRecDepth 100000 in
theorem readDevice_yes (B rb g nw : Nat) (xs : List (Dv × Sub)) (A C : Option Addr) (cap cap' : Nat) (d : Dv) (w : World)
    (hB : B ≤ w.heap.size) (hrb : B ≤ rb) (K0 : Blk w rb #[.slice A xs.length cap, .slice C 0 cap'] 40) (R : RdOk B w xs [] (.slice A xs.length cap) (.slice C 0 cap')) (hn : xs.length ≤ 5000)
    (PD : Hid (Calls Tryz.prog 64 #[.slice (some ⟨g, 0, none⟩) nw nw] w fun e w' => DevOut w (some d) e w')) :
    Calls Tryz.prog 33 #[.pointer (some ⟨rb, 0, none⟩), .slice (some ⟨g, 0, none⟩) nw nw] w fun e w' => LineOut B rb w (some (xs.map Prod.fst ++ [d], [])) e w' := by
  go_enter Tryz.func33, Tryz.ntmps33
  go_wp2_with fail
  refine PD.out.mono ?_
  rintro e w5 ⟨hb5, h1, h2, hl, vb, rfl, O5⟩
  obtain ⟨Ab, capb, rfl⟩ := own_slice O5
  unfold dvA
  have K5 := K0.keep hb5
  have R5 := R.below hb5
  have hB5 := Nat.le_trans hB hb5.size
  have Al := (Below.refl w5.heap.size w5).alloc (Nat.le_refl _) (.cells #[.string d.name, .int .i64 d.kind, .int .i64 d.addr, .int .u8 (d.pool : Int), .slice Ab d.backs.length capb, .slice none 0 0, .slice none 0 0] 37)
  have K6 := K5.keep Al
  have R6 := R5.below (Al.drew)
  have O6 := own_mono (own_kept O5 (KeptB.of_below Al.drew) (fun g _ => by simp)) hB
  have X6 := blk_new w5 #[.string d.name, .int .i64 d.kind, .int .i64 d.addr, .int .u8 (d.pool : Int), .slice Ab d.backs.length capb, .slice none 0 0, .slice none 0 0] 37
  have D6 : Below w.heap.size w (w5.alloc (.cells #[.string d.name, .int .i64 d.kind, .int .i64 d.addr, .int .u8 (d.pool : Int), .slice Ab d.backs.length capb, .slice none 0 0, .slice none 0 0] 37)) := hb5.trans (Al.mono hb5.size)
  have hne : some w5.heap.size ≠ (Value.slice A xs.length cap).ownBlock := fun e => absurd (own_block R5.dev e.symm).1 (Nat.lt_irrefl _)
  have c1 := K6.cell 1 _ rfl
  clear K0 R K5 R5 O5 hb5 Al PD
  go_wp2_with fail
  generalize w5.alloc (.cells #[.string d.name, .int .i64 d.kind, .int .i64 d.addr, .int .u8 (d.pool : Int), .slice Ab d.backs.length capb, .slice none 0 0, .slice none 0 0] 37) = w6 at *
  generalize w5.heap.size = bx at *
  have DB : Below B w w6 := D6.mono hB
  have hB6 : B ≤ w6.drew.heap.size := Nat.le_trans hB D6.size
  obtain ⟨v7, w7, r7, R7, D7, Kp7⟩ := R6.addDev d (.slice Ab d.backs.length capb) h1 h2 O6 hn hB6 22
  have r7' : (Builtin.append_ #[22, 22] 22 #[.slice A xs.length cap, .slice (some ⟨w6.heap.size, 0, none⟩) 1 1]).run Tryz.prog (w6.alloc (.cells #[.string d.name, .int .i64 d.kind, .int .i64 d.addr, .int .u8 (d.pool : Int), .slice Ab d.backs.length capb, .slice none 0 0, .slice none 0 0] 37)).drew = .ok v7 w7 := r7
  have K7 := Blk.keptB (w := w6.drew) K6 Kp7 (fun e => K6.apart (w := w6) R6.dev (by decide) e.symm)
  have X7 := Blk.keptB (w := w6.drew) X6 Kp7 hne
  have R8 := R7.reader K7 0 v7
  have K8 : Blk (w7.setCell ⟨rb, 0, none⟩ v7) rb #[v7, .slice C 0 cap'] 40 := K7.set v7
  have D8 := (DB.drew.trans D7).setCell (p := ⟨rb, 0, none⟩) hrb v7
  have f0 := K7.free 0
  have c0 := K6.cell 0 _ rfl
  have c0a := cell_alN c0 (.cells #[.string d.name, .int .i64 d.kind, .int .i64 d.addr, .int .u8 (d.pool : Int), .slice Ab d.backs.length capb, .slice none 0 0, .slice none 0 0] 37)
  have c7 := K7.cell 0 _ rfl
  have x0 := X6.cell 0 _ rfl
  have x1 := X6.cell 1 _ rfl
  have x2 := X6.cell 2 _ rfl
  have x3 := X6.cell 3 _ rfl
  have x4 := X6.cell 4 _ rfl
  have x5 := X6.cell 5 _ rfl
  have x6 := X6.cell 6 _ rfl
  obtain ⟨A7, cap7, hv7⟩ := own_slice R7.dev
  rw [List.length_append, List.length_singleton] at hv7
  subst hv7
  clear R6 O6 r7 Kp7 D7 DB D6 K6 X6 X7 hne
  go_region_law (refine step_append_run (by rfl) _ _ 22 (by rfl) _ _ _ w7 (by rfl) (by rfl) r7' ?_)
  all_goals
    go_wp2_with fail
    go_ret
    exact ⟨D8, rfl, _, _, _, by simp, hrb, K8, R8⟩
end Go.Proofs.YthofdiacncgbkaaGreatDoor

namespace Go.Proofs.YthofdiacncgbkaaGreatDoor
open Go.RowKit

set_option maxHeartbeats 4000000 in
set_option maxRecDepth 100000 in
theorem readDevice_no (B rb g nw : Nat) (w : World) (hB : B ≤ w.heap.size)
    (PD : Hid (Calls Tryz.prog 64 #[.slice (some ⟨g, 0, none⟩) nw nw] w fun e w' => DevOut w none e w')) :
    Calls Tryz.prog 33 #[.pointer (some ⟨rb, 0, none⟩), .slice (some ⟨g, 0, none⟩) nw nw] w fun e w' => LineOut B rb w none e w' := by
  go_enter Tryz.func33, Tryz.ntmps33
  go_wp2_with fail
  refine PD.out.mono ?_
  rintro e w5 ⟨hb5, rfl⟩
  unfold dvA
  have D6 := (hb5.mono hB).alloc (Nat.le_trans hB hb5.size) (.cells #[.string ⟨#[]⟩, .int .i64 0, .int .i64 0, .int .u8 0, .slice none 0 0, .slice none 0 0, .slice none 0 0] 37)
  go_wp2_with fail
  go_ret
  exact ⟨D6, rfl⟩
set_option maxHeartbeats 4000000 in
set_option maxRecDepth 100000 in
theorem readDevice_late (B rb g nw m cap' : Nat) (C : Option Addr) (d : Dv) (w : World) (hB : B ≤ w.heap.size) (hrb : rb < w.heap.size) (hm : 0 < m) (c1 : w.cell? ⟨rb, 1, none⟩ = some (.slice C m cap'))
    (PD : Hid (Calls Tryz.prog 64 #[.slice (some ⟨g, 0, none⟩) nw nw] w fun e w' => DevOut w (some d) e w')) :
    Calls Tryz.prog 33 #[.pointer (some ⟨rb, 0, none⟩), .slice (some ⟨g, 0, none⟩) nw nw] w fun e w' => LineOut B rb w none e w' := by
  have hm1 : (0 : Int) < (m : Int) := by omega
  go_enter Tryz.func33, Tryz.ntmps33
  go_wp2_with fail
  refine PD.out.mono ?_
  rintro e w5 ⟨hb5, h1, h2, hl, vb, rfl, O5⟩
  obtain ⟨Ab, capb, rfl⟩ := own_slice O5
  unfold dvA
  have c5 := cell_alN ((hb5.cell (p := ⟨rb, 1, none⟩) hrb).trans c1) (.cells #[.string d.name, .int .i64 d.kind, .int .i64 d.addr, .int .u8 (d.pool : Int), .slice Ab d.backs.length capb, .slice none 0 0, .slice none 0 0] 37)
  have D6 := (hb5.mono hB).alloc (Nat.le_trans hB hb5.size) (.cells #[.string d.name, .int .i64 d.kind, .int .i64 d.addr, .int .u8 (d.pool : Int), .slice Ab d.backs.length capb, .slice none 0 0, .slice none 0 0] 37)
  clear O5 hb5 c1
  go_wp2_with fail
  go_ret
  exact ⟨D6, rfl⟩
theorem readDevice_any (B rb g : Nat) (ds : List Dv) (ls : List Lk) (ws : List ByteArray) (w : World) (hB : B ≤ w.heap.size) (R : Rd B rb w ds ls) (hn : ds.length ≤ 5000) (T : Texts w g ws) (hw : ws ≠ []) (hs : ∀ x ∈ ws, x.size ≤ 4096) (hD : DLn 0 w) :
    Calls Tryz.prog 33 #[.pointer (some ⟨rb, 0, none⟩), .slice (some ⟨g, 0, none⟩) ws.length ws.length] w fun e w' => LineOut B rb w (if ls = [] then (devP (ws.map (·.data.toList))).map fun d => (ds ++ [d], ls) else none) e w' := by
  have PD := parseDevice_any g ws w hw T hs hD
  rcases ho : devP (ws.map (·.data.toList)) with _ | d
  · rw [ho] at PD ⊢
    have e : (if ls = [] then ((none : Option Dv).map fun d => (ds ++ [d], ls)) else none) = none := by split <;> rfl
    rw [e]
    exact readDevice_no B rb g ws.length w hB PD
  · rw [ho] at PD ⊢
    obtain ⟨xs, vd, vl, rfl, hrb, K0, R0⟩ := R
    obtain ⟨C, cap', rfl⟩ := own_slice R0.lnk
    cases ls with
    | nil =>
      obtain ⟨A, cap, rfl⟩ := own_slice R0.dev
      rw [if_pos rfl]
      exact readDevice_yes B rb g ws.length xs A C cap cap' d w hB hrb K0 R0 (by simpa using hn) PD
    | cons l r =>
      rw [if_neg (by simp)]
      exact readDevice_late B rb g ws.length (l :: r).length cap' C d w hB K0.lt (by simp) (K0.cell 1 _ rfl) PD
end Go.Proofs.YthofdiacncgbkaaGreatDoor

namespace Go.Proofs.YthofdiacncgbkaaGreatDoor
open Go.RowKit

theorem own_cell {w : World} {B e size n g : Nat} {v : Value} {xs : List Value} (h : w.ownsRow B e size v n xs) (hg : v.ownBlock = some g) {j : Nat} {u : Value} (hj : xs[j]? = some u) : w.cell? ⟨g, j, none⟩ = some u ∧ w.frozen? ⟨g, j, none⟩ = false := by
  rcases h.2 with ⟨rfl, _⟩ | ⟨g', cap, cur, rfl, hb, hh, h1, h2, h3, h4⟩
  · cases hg
  · obtain rfl : g' = g := by simpa [Value.ownBlock] using hg
    rw [← h4, List.getElem?_take] at hj
    split at hj
    · refine ⟨?_, by simp [World.frozen?, hh]⟩
      simp only [World.cell?, hh]
      simpa using hj
    · cases hj
theorem last_cells {w : World} {B g : Nat} {ys : List (Dv × Sub)} {x : Dv × Sub} {v : Value} {n : Nat} (h : w.ownsRow B 37 7 v n (devsC (ys ++ [x]))) (hg : v.ownBlock = some g) {j : Nat} {u : Value} (hj : (subC x)[j]? = some u) : w.cell? ⟨g, 7 * ys.length + j, none⟩ = some u ∧ w.frozen? ⟨g, 7 * ys.length + j, none⟩ = false := by
  refine own_cell h hg ?_
  rw [devsC_snoc, List.getElem?_append_right (by rw [devsC_len]; omega), devsC_len, Nat.add_sub_cancel_left]
  exact hj
set_option maxHeartbeats 4000000 in
set_option maxRecDepth 100000 in
theorem readRoute_yes (B rb g nw gd : Nat) (ys : List (Dv × Sub)) (C : Option Addr) (cap cap' : Nat) (d : Dv) (vb vr : Value) (At : Option Addr) (ct : Nat) (r : NRoute) (w : World)
    (hB : B ≤ w.heap.size) (hrb : B ≤ rb) (K0 : Blk w rb #[.slice (some ⟨gd, 0, none⟩) (ys.length + 1) cap, .slice C 0 cap'] 40) (R : RdOk B w (ys ++ [(d, vb, vr, .slice At d.routes.length ct)]) [] (.slice (some ⟨gd, 0, none⟩) (ys.length + 1) cap) (.slice C 0 cap')) (hn : d.routes.length ≤ 5000) (hy : ys.length ≤ 5000)
    (PR : Hid (Calls Tryz.prog 61 #[.slice (some ⟨g, 0, none⟩) nw nw] w fun e w' => e = .returned (routeV (some r)) ∧ Below w.heap.size w w')) :
    Calls Tryz.prog 31 #[.pointer (some ⟨rb, 0, none⟩), .slice (some ⟨g, 0, none⟩) nw nw] w fun e w' => LineOut B rb w (some (ys.map Prod.fst ++ [{ d with routes := d.routes ++ [r] }], [])) e w' := by
  have OP : Hid (Calls Tryz.prog 59 #[.pointer (some ⟨rb, 0, none⟩)] w fun e w' => e = .returned (.pointer (some ⟨gd, 7 * ys.length, none⟩)) ∧ w' = w) := open_last rb ys.length cap cap' gd C w (K0.cell 0 _ rfl) (K0.cell 1 _ rfl) hy
  go_enter Tryz.func31, Tryz.ntmps31
  go_wp2_with fail
  refine OP.out.mono ?_
  rintro e w1 ⟨rfl, rfl⟩
  go_wp2_with fail
  refine PR.out.mono ?_
  rintro e w5 ⟨rfl, hb5⟩
  unfold routeV routeA
  have K5 := K0.keep hb5
  have R5 := R.below hb5
  have Al := (Below.refl w5.heap.size w5).alloc (Nat.le_refl _) (.cells #[.int .i64 r.v, .int .i64 r.b, .int .i64 r.p] 63)
  have K6 := K5.keep Al
  have R6 := R5.below Al.drew
  have X6 := blk_new w5 #[.int .i64 r.v, .int .i64 r.b, .int .i64 r.p] 63
  have D6 : Below w1.heap.size w1 (w5.alloc (.cells #[.int .i64 r.v, .int .i64 r.b, .int .i64 r.p] 63)) := hb5.trans (Al.mono hb5.size)
  clear K0 R K5 R5 hb5 Al PR OP
  go_wp2_with fail
  generalize w5.alloc (.cells #[.int .i64 r.v, .int .i64 r.b, .int .i64 r.p] 63) = w6 at *
  generalize w5.heap.size = bx at *
  have DB : Below B w1 w6 := D6.mono hB
  have hB6 : B ≤ w6.drew.heap.size := Nat.le_trans hB D6.size
  obtain ⟨gd', v7, w7, e7, r7, R8, D8, dv7, Kp7⟩ := R6.addRoute r hn hB6 35
  obtain rfl : gd = gd' := by simpa [Value.ownBlock] using e7
  have r7' : (Builtin.append_ #[35, 35] 35 #[.slice At d.routes.length ct, .slice (some ⟨w6.heap.size, 0, none⟩) 1 1]).run Tryz.prog (w6.alloc (.cells #[.int .i64 r.v, .int .i64 r.b, .int .i64 r.p] 63)).drew = .ok v7 w7 := r7
  have K7 := Blk.keptB (w := w6.drew) K6 Kp7 (fun e => K6.apart (w := w6) (R6.rout (d, vb, vr, .slice At d.routes.length ct) (by simp)) (by decide) e.symm)
  have hne : rb ≠ gd := fun e => K6.apart (w := w6) R6.dev (by decide) (by rw [e]; rfl)
  have K8 := K7.setOther (j := 7 * ys.length + 6) hne v7
  have c0 := (last_cells (w := w6) R6.dev rfl (j := 6) rfl).1
  have c0a := cell_alN c0 (.cells #[.int .i64 r.v, .int .i64 r.b, .int .i64 r.p] 63)
  obtain ⟨c7, f7⟩ := last_cells dv7 rfl (j := 6) rfl
  have x0 := X6.cell 0 _ rfl
  have x1 := X6.cell 1 _ rfl
  have x2 := X6.cell 2 _ rfl
  have DB8 := DB.drew.trans D8
  have hv := own_slice (R8.rout _ (List.mem_append_right _ (List.mem_singleton.2 rfl)))
  obtain ⟨A7, cap7, hv7⟩ := hv
  simp only [List.length_append, List.length_singleton] at hv7
  subst hv7
  clear R6 r7 Kp7 D8 DB D6 K6 X6 dv7 e7 K7
  go_region_law (refine step_append_run (by rfl) _ _ 35 (by rfl) _ _ _ w7 (by rfl) (by rfl) r7' ?_)
  all_goals
    go_wp2_with fail
    go_ret
    exact ⟨DB8, rfl, _, _, _, by simp, hrb, K8, R8⟩
end Go.Proofs.YthofdiacncgbkaaGreatDoor
