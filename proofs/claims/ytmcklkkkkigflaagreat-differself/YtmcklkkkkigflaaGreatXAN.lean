/-
  XAN.
-/
import Derived.Test.YtmcklkkkkigflaaGreatXAM
import Derived.Test.YtmcklkkkkigflaaGreatXAI
import Derived.Test.YtmcklkkkkigflaaGreatXAJ
import Derived.ProofKit
import Derived.WalkKit
import Derived.Maps.AppendAt
import Derived.Deep.Heap
import Derived.OneCell
import Derived.Laws.AppendOwnNone
import Derived.Deep.RegionHeldLaw
import Derived.Lib.SliceRun
import Derived.Shelf.Sort.Plain
import Derived.Ground.Names2Prog
import Derived.Shelf.Slices.SearchI
import Derived.Test.YtmcklkkkkigflaaGreatProg
import Derived.Test.YtmcklkkkkigflaaGreatXAL
set_option maxHeartbeats 8000000
set_option maxRecDepth 100000
namespace Go.Proofs.YtmcklkkkkigflaaGreat
open Go.RowKit
def addFo (f : List Int) : Option (Int × Int) -> List Int
 | none => f
 | some x => if f.any (fun y => y == x.1) then f else f ++ [x.1]
def portsF (ls : List Lk) (d : Int) : Nat -> List Int -> List Int
 | 0, f => f
 | k + 1, f => addFo (portsF ls d k f) (peerF ls d (k : Int))
def aroundF (ds : List Dv) (ls : List Lk) : Nat -> Nat -> List Int -> List Int
 | 0, _, f => f
 | n + 1, i, f => match f[i]? with
   | none => f
   | some d => aroundF ds ls n (i + 1) (portsF ls d (portsV (kindAt ds d)).toNat f)
structure FOk (ds : List Dv) (f : List Int) : Prop where
 nd : f.Nodup
 lt : ∀ x ∈ f, 0 <= x ∧ x < (ds.length : Int)
section
variable {ds : List Dv} {ls : List Lk} {f : List Int}
theorem FOk.len (h : FOk ds f) : f.length <= ds.length := by
 have h1 : (f.map Int.toNat).Nodup := by
  rw [List.Nodup, List.pairwise_map]
  exact h.nd.imp_of_mem fun {a b} ha hb hne e => hne (by have := (h.lt a ha).1; have := (h.lt b hb).1; omega)
 have := nodup_lt ds.length (f.map Int.toNat) h1 fun x hx => by
  obtain ⟨y, hy, rfl⟩ := List.mem_map.1 hx
  have := h.lt y hy
  omega
 simpa using this
theorem FOk.one {k : Nat} (hk : k < ds.length) : FOk ds [(k : Int)] := ⟨by simp, fun x hx => by
 rw [List.mem_singleton.1 hx]
 omega⟩
theorem FOk.add (h : FOk ds f) {x : Int} (hx : 0 <= x ∧ x < (ds.length : Int)) (hn : f.any (fun y => y == x) = false) : FOk ds (f ++ [x]) := by
 refine ⟨List.nodup_append.2 ⟨h.nd, by simp, fun a ha b hb e => ?_⟩, fun y hy => ?_⟩
 ·rw [List.mem_singleton.1 hb] at e
  subst e
  have := List.any_eq_false.1 hn a ha
  simp at this
 ·rcases List.mem_append.1 hy with h1 | h1
  ·exact h.lt y h1
  ·rw [List.mem_singleton.1 h1]; exact hx
theorem peer_in (hz : netV ds ls = 0) {i q : Int} {t : Int × Int} (h : peerF ls i q = some t) : 0 <= t.1 ∧ t.1 < (ds.length : Int) := by
 obtain ⟨l, hl, he⟩ := peerF_of h
 obtain ⟨h10, _, _, hp⟩ := netV_links hz
 have hpl : isPl ds t.1 t.2 = true := by
  rcases endOf_ends he with ⟨_, rfl⟩ | ⟨_, rfl⟩
  ·exact (hp l hl).2
  ·exact (hp l hl).1
 unfold isPl at hpl
 simp only [Bool.and_eq_true, decide_eq_true_eq] at hpl
 exact ⟨hpl.1.1.1, hpl.1.1.2⟩
theorem FOk.addFo (hz : netV ds ls = 0) (h : FOk ds f) (i q : Int) : FOk ds (addFo f (peerF ls i q)) := by
 cases hp : peerF ls i q with
 | none => exact h
 | some t =>
   cases ha : f.any (fun y => y == t.1) with
   | true => simpa [YtmcklkkkkigflaaGreat.addFo, ha] using h
   | false => simpa [YtmcklkkkkigflaaGreat.addFo, ha] using h.add (peer_in hz hp) ha
theorem FOk.portsF (hz : netV ds ls = 0) (d : Int) : ∀ (k : Nat), FOk ds f -> FOk ds (portsF ls d k f)
 | 0, h => h
 | k + 1, h => FOk.addFo hz (FOk.portsF hz d k h) d (k : Int)
theorem addFo_len (f : List Int) (t : Option (Int × Int)) : f.length <= (addFo f t).length := by
 cases t with
 | none => exact Nat.le_refl _
 | some x =>
   unfold YtmcklkkkkigflaaGreat.addFo
   simp only
   split
   ·exact Nat.le_refl _
   ·simp
theorem portsF_len (d : Int) : ∀ (k : Nat) (f : List Int), f.length <= (portsF ls d k f).length
 | 0, _ => Nat.le_refl _
 | k + 1, f => Nat.le_trans (portsF_len d k f) (addFo_len _ _)
theorem aroundF_end {n i : Nat} (h : f.length <= i) : aroundF ds ls n i f = f := by
 cases n with
 | zero => rfl
 | succ n => simp [aroundF, List.getElem?_eq_none h]
theorem aroundF_step {n i : Nat} {d : Int} (h : f[i]? = some d) : aroundF ds ls (n + 1) i f = aroundF ds ls n (i + 1) (portsF ls d (portsV (kindAt ds d)).toNat f) := by
 simp [aroundF, h]
theorem FOk.aroundF (hz : netV ds ls = 0) : ∀ (n i : Nat) (f : List Int), FOk ds f -> FOk ds (aroundF ds ls n i f)
 | 0, _, _, h => h
 | n + 1, i, f, h => by
   unfold YtmcklkkkkigflaaGreat.aroundF
   split
   ·exact h
   ·exact FOk.aroundF hz n _ _ (FOk.portsF hz _ _ h)
def wholeF (ds : List Dv) (ls : List Lk) (s : Int) : List Int := (aroundF ds ls 10 0 [s]).mergeSort fun x y => decide (x <= y)
theorem FOk.sort (h : FOk ds f) : FOk ds (f.mergeSort fun x y => decide (x <= y)) :=
 ⟨(List.mergeSort_perm f _).nodup_iff.2 h.nd, fun x hx => h.lt x ((List.mergeSort_perm f _).mem_iff.1 hx)⟩
theorem FOk.whole (hz : netV ds ls = 0) {k : Nat} (hk : k < ds.length) : FOk ds (wholeF ds ls (k : Int)) := (FOk.aroundF hz 10 0 _ (FOk.one hk)).sort
theorem sort_rises (f : List Int) : (f.mergeSort fun x y => decide (x <= y)).Pairwise (· <= ·) := by
 have := List.pairwise_mergeSort (le := fun x y : Int => decide (x <= y)) (fun a b c h1 h2 => by simp only [decide_eq_true_eq] at *; omega) (fun a b => by simp only [Bool.or_eq_true, decide_eq_true_eq]; omega) f
 exact this.imp fun h => by simpa using h
def linkF (f : List Int) (l : Lk) : List Lk := if f.contains l.a then [⟨(f.countP (· < l.a) : Nat), l.p, (f.countP (· < l.b) : Nat), l.q⟩] else []
def devsF (ds : List Dv) (f : List Int) : List Dv := f.flatMap fun i => (ds[i.toNat]?).toList
def linksF (ls : List Lk) (f : List Int) : List Lk := ls.flatMap (linkF f)
theorem devsF_lenA : ∀ (f : List Int), (∀ x ∈ f, 0 <= x ∧ x < (ds.length : Int)) -> (devsF ds f).length = f.length
 | [], _ => rfl
 | x :: f, h => by
   have h1 := devsF_lenA f fun y hy => h y (List.mem_cons_of_mem _ hy)
   have h2 := h x List.mem_cons_self
   unfold devsF at h1 ⊢
   rw [List.flatMap_cons, List.length_append, h1, List.getElem?_eq_getElem (by omega), List.length_cons]
   simp
   omega
theorem devsF_len (h : FOk ds f) (k : Nat) : (devsF ds (f.take k)).length = (f.take k).length := devsF_lenA _ fun x hx => h.lt x (List.mem_of_mem_take hx)
theorem devsF_one {x : Int} {d : Dv} (f : List Int) (h : ds[x.toNat]? = some d) : devsF ds (f ++ [x]) = devsF ds f ++ [d] := by simp [devsF, h]
theorem devsF_sub : ∀ d ∈ devsF ds f, d ∈ ds := fun d hd => by
 obtain ⟨i, _, h⟩ := List.mem_flatMap.1 hd
 cases e : ds[i.toNat]? with
 | none => rw [e] at h; cases h
 | some x => rw [e] at h; rw [List.mem_singleton.1 h]; exact List.mem_of_getElem? e
theorem linksF_len : ∀ (ls : List Lk), (linksF ls f).length <= ls.length
 | [] => Nat.le_refl _
 | l :: ls => by
   have := linksF_len ls
   unfold linksF at this ⊢
   rw [List.flatMap_cons, List.length_append, List.length_cons]
   have : (linkF f l).length <= 1 := by
    unfold linkF
    split <;> simp
   omega
end
def hostFrom (ds : List Dv) (s : List UInt8) (k : Nat) : Int :=
 if h : k < ds.length then (if (ds[k].kind == 1) && (ds[k].name.toList == s) then (k : Int) else hostFrom ds s (k + 1)) else -1
termination_by ds.length - k
theorem hostFrom_at {ds : List Dv} {s : List UInt8} {k : Nat} {d : Dv} (h : ds[k]? = some d) : hostFrom ds s k = if (d.kind == 1) && (d.name.toList == s) then (k : Int) else hostFrom ds s (k + 1) := by
 obtain ⟨hk, e⟩ := List.getElem?_eq_some_iff.1 h
 rw [hostFrom, dif_pos hk, e]
theorem hostFrom_end {ds : List Dv} {s : List UInt8} {k : Nat} (h : ds.length <= k) : hostFrom ds s k = -1 := by rw [hostFrom, dif_neg (by omega)]
theorem hostFrom_lt (ds : List Dv) (s : List UInt8) : ∀ (m k : Nat), ds.length - k <= m -> hostFrom ds s k < 0 ∨ ∃ j : Nat, hostFrom ds s k = (j : Int) ∧ j < ds.length
 | 0, k, h => by rw [hostFrom_end (by omega)]; omega
 | m + 1, k, h => by
   by_cases hk : k < ds.length
   ·rw [hostFrom_at (List.getElem?_eq_getElem hk)]
    split
    ·exact Or.inr ⟨k, rfl, hk⟩
    ·exact hostFrom_lt ds s m (k + 1) (by omega)
   ·rw [hostFrom_end (by omega)]; omega
theorem host1_any (nm s : ByteArray) (k ad : Int) (pl : Nat) (vb vr vt : Value) (n0 : Nat) (w : World) (hn : n0 < w.heap.size) (hc : w.cell? ⟨n0, 0, none⟩ = some (.string s)) :
  Calls Tryz.prog 42 #[devA nm k ad pl vb vr vt, .pointer (some ⟨n0, 0, none⟩)] w fun e w' => e = .returned (.bool ((k == 1) && (nm.toList == s.toList))) ∧ Below w.heap.size w w' := by
 have D0 := Below.alN (Below.refl w.heap.size w) (.cells #[.string nm, .int .i64 k, .int .i64 ad, .int .u8 (pl : Int), vb, vr, vt] 91)
 have c1 : (w.alloc (.cells #[.string nm, .int .i64 k, .int .i64 ad, .int .u8 (pl : Int), vb, vr, vt] 91)).cell? ⟨n0, 0, none⟩ = some (.string s) := (D0.cell (p := ⟨n0, 0, none⟩) hn).trans hc
 by_cases hk : k = 1
 ·subst hk
  go_enter Tryz.func42, Tryz.ntmps42
  go_wp2_with fail
  go_ret
  exact ⟨by simp, D0⟩
 ·have hk2 : (k == 1) = false := by simpa using hk
  go_enter Tryz.func42, Tryz.ntmps42
  go_wp2_with fail
  go_ret
  exact ⟨by simp [hk2], D0⟩
theorem hostIdx_any (A : Option Addr) (n cap : Nat) (ds : List Dv) (s : ByteArray) (n0 : Nat) (w : World) (hD : Hid (Devs w.heap.size w (.slice A n cap) ds)) (hn0 : n0 < w.heap.size) (hc0 : Hid (w.cell? ⟨n0, 0, none⟩ = some (.string s))) :
  Calls Tryz.prog 31 #[.slice A n cap, .func (.func 42) #[] #[.pointer (some ⟨n0, 0, none⟩)]] w fun e w' => e = .returned (.int .i64 (hostFrom ds s.toList 0)) ∧ Below w.heap.size w w' := by
 obtain ⟨rfl, hc, hm⟩ := hD.out.len
 unfold maxLen at hm
 generalize hres : hostFrom ds s.toList 0 = res
 have HR : Hid (hostFrom ds s.toList 0 = res) := hres
 clear hres
 go_enter Tryz.func31, Tryz.ntmps31
 go_wp2_with fail
 go_loopw [8] (fun i wr => ∃ k : Nat, i = .int .i64 (k : Int) ∧ k <= ds.length ∧ Below w.heap.size w wr ∧ Hid (hostFrom ds s.toList k = res)) (fun i _ => ds.length - (intOf i).toNat)
 case atStart => exact ⟨0, rfl, by omega, Below.refl _ _, HR⟩
 case round =>
  obtain ⟨k, rfl, hk, D1, hno⟩ := hrel
  by_cases hlt : k < ds.length
  ·obtain ⟨d, hxk⟩ : ∃ d, ds[k]? = some d := ⟨_, List.getElem?_eq_getElem hlt⟩
   obtain ⟨b, o, vb, vr, vt, rfl, hb, _, _, _, c0, c1, c2, c3, c4, c5, c6⟩ := (hD.out.below D1).at hxk
   have PR : Hid (Calls Tryz.prog 42 #[devA d.name d.kind d.addr d.pool vb vr vt, .pointer (some ⟨n0, 0, none⟩)] wr fun e w' => e = .returned (.bool ((d.kind == 1) && (d.name.toList == s.toList))) ∧ Below wr.heap.size wr w') := host1_any d.name s d.kind d.addr d.pool vb vr vt n0 wr (Nat.lt_of_lt_of_le hn0 D1.size) ((D1.cell (p := ⟨n0, 0, none⟩) hn0).trans hc0.out)
   have HF : Hid (hostFrom ds s.toList k = if (d.kind == 1) && (d.name.toList == s.toList) then (k : Int) else hostFrom ds s.toList (k + 1)) := hostFrom_at hxk
   have k1 : (0 : Int) <= (k : Int) := by omega
   have k2 : (k : Int) < (ds.length : Int) := by omega
   clear hxk hD HR hc0
   generalize ((d.kind == 1) && (d.name.toList == s.toList)) = x at *
   generalize d.name = nm at *
   generalize d.kind = kd at *
   generalize d.addr = ad at *
   generalize d.pool = pl at *
   cases x
   ·have HV : Hid (hostFrom ds s.toList (k + 1) = res) := by
     show _ = _
     rw [<- hno.out, HF.out]
     simp
    clear HF hno
    go_wp2_with fail
    refine PR.out.mono ?_
    rintro e w2 ⟨rfl, hb2⟩
    have D2 := chnN hb2 D1
    clear hb2 D1 c0 c1 c2 c3 c4 c5 c6 PR
    go_wp2_with fail
    go_roundw
    case rel => exact ⟨k + 1, by go_num, by omega, D2, HV⟩
    case measure => simp [intOf]; omega
   ·have HV : Hid (res = (k : Int)) := by
     show _ = _
     rw [<- hno.out, HF.out]
     simp
    clear HF hno
    go_wp2_with fail
    refine PR.out.mono ?_
    rintro e w2 ⟨rfl, hb2⟩
    have D2 := chnN hb2 D1
    clear hb2 D1 c0 c1 c2 c3 c4 c5 c6 PR
    go_wp2_with fail
    go_ret
    exact ⟨by rw [HV.out]; rfl, D2⟩
  ·have HV : Hid (res = -1) := by
    show _ = _
    rw [<- hno.out, hostFrom_end (by omega)]
   go_wp2_with fail
   go_ret
   exact ⟨by rw [HV.out]; rfl, D1⟩
theorem home1_any (nm s : ByteArray) (k ad : Int) (pl : Nat) (vb vr vt : Value) (n0 : Nat) (w : World) (hn : n0 < w.heap.size) (hc : w.cell? ⟨n0, 0, none⟩ = some (.string s)) :
  Calls Tryz.prog 32 #[devA nm k ad pl vb vr vt, .pointer (some ⟨n0, 0, none⟩)] w fun e w' => e = .returned (.bool (nm.toList == s.toList)) ∧ Below w.heap.size w w' := by
 have D0 := Below.alN (Below.refl w.heap.size w) (.cells #[.string nm, .int .i64 k, .int .i64 ad, .int .u8 (pl : Int), vb, vr, vt] 91)
 have c1 : (w.alloc (.cells #[.string nm, .int .i64 k, .int .i64 ad, .int .u8 (pl : Int), vb, vr, vt] 91)).cell? ⟨n0, 0, none⟩ = some (.string s) := (D0.cell (p := ⟨n0, 0, none⟩) hn).trans hc
 go_enter Tryz.func32, Tryz.ntmps32
 go_wp2_with fail
 go_ret
 exact ⟨rfl, D0⟩
theorem homeIdx_any (A : Option Addr) (n cap : Nat) (ds : List Dv) (s : ByteArray) (n0 : Nat) (w : World) (hD : Hid (Devs w.heap.size w (.slice A n cap) ds)) (hn0 : n0 < w.heap.size) (hc0 : Hid (w.cell? ⟨n0, 0, none⟩ = some (.string s))) :
  Calls Tryz.prog 31 #[.slice A n cap, .func (.func 32) #[] #[.pointer (some ⟨n0, 0, none⟩)]] w fun e w' => e = .returned (.int .i64 (findFrom ds s.toList 0)) ∧ Below w.heap.size w w' := by
 obtain ⟨rfl, hc, hm⟩ := hD.out.len
 unfold maxLen at hm
 generalize hres : findFrom ds s.toList 0 = res
 have HR : Hid (findFrom ds s.toList 0 = res) := hres
 clear hres
 go_enter Tryz.func31, Tryz.ntmps31
 go_wp2_with fail
 go_loopw [8] (fun i wr => ∃ k : Nat, i = .int .i64 (k : Int) ∧ k <= ds.length ∧ Below w.heap.size w wr ∧ Hid (findFrom ds s.toList k = res)) (fun i _ => ds.length - (intOf i).toNat)
 case atStart => exact ⟨0, rfl, by omega, Below.refl _ _, HR⟩
 case round =>
  obtain ⟨k, rfl, hk, D1, hno⟩ := hrel
  by_cases hlt : k < ds.length
  ·obtain ⟨d, hxk⟩ : ∃ d, ds[k]? = some d := ⟨_, List.getElem?_eq_getElem hlt⟩
   obtain ⟨b, o, vb, vr, vt, rfl, hb, _, _, _, c0, c1, c2, c3, c4, c5, c6⟩ := (hD.out.below D1).at hxk
   have PR : Hid (Calls Tryz.prog 32 #[devA d.name d.kind d.addr d.pool vb vr vt, .pointer (some ⟨n0, 0, none⟩)] wr fun e w' => e = .returned (.bool (d.name.toList == s.toList)) ∧ Below wr.heap.size wr w') := home1_any d.name s d.kind d.addr d.pool vb vr vt n0 wr (Nat.lt_of_lt_of_le hn0 D1.size) ((D1.cell (p := ⟨n0, 0, none⟩) hn0).trans hc0.out)
   have HF : Hid (findFrom ds s.toList k = if d.name.toList == s.toList then (k : Int) else findFrom ds s.toList (k + 1)) := findFrom_at hxk
   have k1 : (0 : Int) <= (k : Int) := by omega
   have k2 : (k : Int) < (ds.length : Int) := by omega
   clear hxk hD HR hc0
   generalize (d.name.toList == s.toList) = x at *
   generalize d.name = nm at *
   generalize d.kind = kd at *
   generalize d.addr = ad at *
   generalize d.pool = pl at *
   cases x
   ·have HV : Hid (findFrom ds s.toList (k + 1) = res) := by
     show _ = _
     rw [<- hno.out, HF.out]
     simp
    clear HF hno
    go_wp2_with fail
    refine PR.out.mono ?_
    rintro e w2 ⟨rfl, hb2⟩
    have D2 := chnN hb2 D1
    clear hb2 D1 c0 c1 c2 c3 c4 c5 c6 PR
    go_wp2_with fail
    go_roundw
    case rel => exact ⟨k + 1, by go_num, by omega, D2, HV⟩
    case measure => simp [intOf]; omega
   ·have HV : Hid (res = (k : Int)) := by
     show _ = _
     rw [<- hno.out, HF.out]
     simp
    clear HF hno
    go_wp2_with fail
    refine PR.out.mono ?_
    rintro e w2 ⟨rfl, hb2⟩
    have D2 := chnN hb2 D1
    clear hb2 D1 c0 c1 c2 c3 c4 c5 c6 PR
    go_wp2_with fail
    go_ret
    exact ⟨by rw [HV.out]; rfl, D2⟩
  ·have HV : Hid (res = -1) := by
    show _ = _
    rw [<- hno.out, findFrom_end (by omega)]
   go_wp2_with fail
   go_ret
   exact ⟨by rw [HV.out]; rfl, D1⟩
end Go.Proofs.YtmcklkkkkigflaaGreat
namespace Go.Proofs.YtmcklkkkkigflaaGreat
open Go.RowKit Go.Maps
structure KeptBS (w w' : World) (row : Option Nat) : Prop where
 size : w.heap.size <= w'.heap.size
 block : ∀ k, k < w.heap.size -> some k ≠ row -> w'.heap[k]? = w.heap[k]?
theorem KeptBS.of_below {w w' : World} (h : Below w.heap.size w w') : KeptBS w w' none := ⟨h.size, fun k hk _ => h.block k hk⟩
section
variable {w w' : World} {B e size n : Nat} {v : Value} {xs : List Value} {row : Option Nat}
theorem own_blockS (h : w.ownsRow B e size v n xs) {g : Nat} (hg : v.ownBlock = some g) : g < w.heap.size ∧ B <= g ∧ ∃ cur, w.heap[g]? = some (.cells cur e (0, 0)) := by
 rcases h.2 with ⟨rfl, _⟩ | ⟨g', cap, cur, rfl, hb, hh, _⟩
 ·cases hg
 ·obtain rfl : g' = g := by simpa [Value.ownBlock] using hg
  exact ⟨(Array.getElem?_eq_some_iff.1 hh).1, hb, cur, hh⟩
theorem own_keptS (h : w.ownsRow B e size v n xs) (hk : KeptBS w w' row) (hr : ∀ g, v.ownBlock = some g -> row ≠ some g) : w'.ownsRow B e size v n xs := by
 refine ⟨h.1, ?_⟩
 rcases h.2 with k | ⟨g, cap, cur, h1, h2, h3, h4⟩
 ·exact Or.inl k
 ·refine Or.inr ⟨g, cap, cur, h1, h2, ?_, h4⟩
  rw [hk.block g (Array.getElem?_eq_some_iff.1 h3).1 (fun e => hr g (by rw [h1]; rfl) e.symm)]
  exact h3
theorem own_apartS {B' e' size' n' : Nat} {v' : Value} {xs' : List Value} (h : w.ownsRow B e size v n xs) (h' : w.ownsRow B' e' size' v' n' xs') (he : e ≠ e') : ∀ g, v.ownBlock = some g -> v'.ownBlock ≠ some g := fun g hg hg' => by
 obtain ⟨_, _, c, hc⟩ := own_blockS h hg
 obtain ⟨_, _, c', hc'⟩ := own_blockS h' hg'
 rw [hc] at hc'
 simp only [Option.some.injEq, Obj.cells.injEq] at hc'
 exact he hc'.2.1
end
theorem app_elS {t e : TypeId} {z : Value} {size bytes : Nat} (hu : Tryz.prog.underlying t = some (.slice e)) (hinfo : (Tryz.prog.info? e).map (fun i => (i.zero, i.size, i.bytes)) = some (some z, size, bytes)) (hz1 : z.cells.size = size) (hs0 : 0 < size) (hby : bytes <= 320)
  {base n : Nat} {w : World} {v : Value} {xs us : List Value} (ty : TypeId) (h : w.ownsRow base e size v n xs) (hus : us.length = size) (h1 : ∀ u ∈ us, u.oneCell' = true) (hn : n <= 700000) (hb : base <= w.heap.size) :
  ∃ v' w', (Builtin.append_ #[t, t] ty #[v, .slice (some ⟨w.heap.size, 0, none⟩) 1 1]).run Tryz.prog (w.alloc (.cells us.toArray e)) = .ok v' w' ∧ w'.ownsRow base e size v' (n + 1) (xs ++ us) ∧ Below base w w' ∧ KeptBS w w' v.ownBlock ∧ (v'.ownBlock = v.ownBlock ∨ ∃ g, v'.ownBlock = some g ∧ w.heap.size <= g) := by
 obtain ⟨i0, hi, hz0, hz1', hz2⟩ := info_parts hinfo
 have hA : Below w.heap.size w (w.alloc (.cells us.toArray e)) := (Below.refl _ _).alloc (Nat.le_refl _) _
 have ho : (w.alloc (.cells us.toArray e)).ownsRow base e size v n xs := own_keptS h (KeptBS.of_below hA) (fun g _ => by simp)
 obtain ⟨v', w', hr, h4, h5, _, h7⟩ := run_append_own_at (P := Tryz.prog) (w.alloc (.cells us.toArray e)) base t ty e i0 z size bytes hu hi hz0 hz1' hz2 hz1 hs0 v n xs ho ⟨w.heap.size, 0, none⟩ 1 1 us (by rw [hus, Nat.one_mul]) (fun j x hj => by
  have hg : (w.alloc (.cells us.toArray e)).heap[w.heap.size]? = some (.cells us.toArray e) := Go.Deep.blk_alloc_new w _
  rw [Addr.add_lit, Nat.zero_add]
  simp only [World.cell?, hg]
  simp [hj]) h1 (by unfold maxLen; omega) (by
   have : (n + 1) * bytes <= 700001 * 320 := Nat.mul_le_mul (by omega) hby
   omega) (by simp; omega)
 have hsz : (w.alloc (.cells us.toArray e)).heap.size = w.heap.size + 1 := Go.Deep.nblk_alloc w _
 refine ⟨v', w', hr, h4, ?_, ⟨by have := h5.size; omega, fun k hk hne => ?_⟩, ?_⟩
 ·exact ((Below.refl base w).alloc hb (.cells us.toArray e)).grown h5 (by simp; omega) (fun k e => (ho.lt k e).1)
 ·rw [h5.block k (by omega) hne, Go.Deep.blk_alloc_lt w _ k hk]
 ·rcases h7 with h7 | h7
  ·exact Or.inl h7
  ·exact Or.inr ⟨_, h7, by omega⟩
theorem step_append_runS {P : Program} {w : World} {ops : Array Oper} {o : Oper} {a : Act} {K : Act -> World -> Prop} {Q : Exit -> Act -> World -> Prop} {E : Prop} (hgd : o.guard = none) (s x : Operand) (t : TypeId)
  (ho : o.op = .call { callee := .builtin .append, args := #[s, x], argTypes := #[t, t] }) (v u v' : Value) (w' : World) (hs : a.eval s = v) (hx : a.eval x = u)
  (hr : (Builtin.append_ #[t, t] o.type #[v, u]).run P w = .ok v' w') (h : K (a.put o.dst v') w') :
  if Region.wanted o (yielded ops a.tmps) = true then Oper.wp P o a w K Q else E := by
 have hw : Region.wanted o (yielded ops a.tmps) = true := by simp [Region.wanted, hgd]
 rw [if_pos hw]
 unfold Oper.wp execOp
 simp only [ho, resolve, invoke, builtin, Sem.run_bind, Sem.run_pure, Result.andThen_ok, List.map_toArray, List.map_cons, List.map_nil, hs, hx, hr]
 exact h
theorem wpList_append_runS {P : Program} {w : World} {ops : Array Oper} {rest : List Oper} {o : Oper} {a : Act} {Q : Exit -> Act -> World -> Prop} (hgd : o.guard = none) (s x : Operand) (t : TypeId)
  (ho : o.op = .call { callee := .builtin .append, args := #[s, x], argTypes := #[t, t] }) (v u v' : Value) (w' : World) (hs : a.eval s = v) (hx : a.eval x = u)
  (hr : (Builtin.append_ #[t, t] o.type #[v, u]).run P w = .ok v' w') (h : wpList P ops Q rest (a.put o.dst v') w') : wpList P ops Q (o :: rest) a w :=
 wpList_plain hgd fun K hK => by
  unfold Oper.wp execOp
  simp only [ho, resolve, invoke, builtin, Sem.run_bind, Sem.run_pure, Result.andThen_ok, List.map_toArray, List.map_cons, List.map_nil, hs, hx, hr]
  exact hK _ _ h
def RowAt (base : Nat) (w : World) (v : Value) (N n : Nat) (cs : List Value) : Prop :=
 ∃ A cap, v = .slice A N cap ∧ (A = none -> cap = 0) ∧ N <= cap ∧ cap <= maxLen ∧ cs.length = N * n ∧ (∀ u ∈ cs, u.oneCell' = true) ∧
   (N ≠ 0 -> ∃ b o, A = some ⟨b, o, none⟩ ∧ b < base ∧ ∀ j u, cs[j]? = some u -> w.cell? ⟨b, o + j, none⟩ = some u)
theorem flat_cells {α : Type} {w : World} {n : Nat} {R : List Value -> α -> Prop} (h1 : ∀ cs x, R cs x -> ∀ u ∈ cs, u.oneCell' = true) {b : Nat} : ∀ (xs : List α) (o : Nat), (∀ k x, xs[k]? = some x -> ∃ c : List Value, c.length = n ∧ R c x ∧ ∀ j u, c[j]? = some u -> w.cell? ⟨b, o + k * n + j, none⟩ = some u) ->
  ∃ cs : List Value, cs.length = xs.length * n ∧ (∀ j u, cs[j]? = some u -> w.cell? ⟨b, o + j, none⟩ = some u) ∧ (∀ u ∈ cs, u.oneCell' = true) ∧ ∀ k x, xs[k]? = some x -> R ((cs.drop (k * n)).take n) x
 | [], _, _ => ⟨[], by simp, (fun j u hj => by simp at hj), (fun u hu => by cases hu), (fun k x hx => by simp at hx)⟩
 | x :: xs, o, h => by
   obtain ⟨c0, l0, r0, e0⟩ := h 0 x rfl
   obtain ⟨cs, l1, e1, o1, r1⟩ := flat_cells h1 xs (o + n) (fun k y hy => by
    obtain ⟨c, l, r, e⟩ := h (k + 1) y (by simpa using hy)
    exact ⟨c, l, r, fun j u hj => by
     have := e j u hj
     rwa [show o + (k + 1) * n + j = o + n + k * n + j by rw [Nat.add_mul, Nat.one_mul]; omega] at this⟩)
   refine ⟨c0 ++ cs, ?_, fun j u hj => ?_, fun u hu => ?_, fun k y hy => ?_⟩
   ·rw [List.length_append, l0, l1, List.length_cons, Nat.add_mul]
    omega
   ·by_cases hl : j < n
    ·rw [List.getElem?_append_left (by omega)] at hj
     have := e0 j u hj
     simpa using this
    ·rw [List.getElem?_append_right (by omega), l0] at hj
     have := e1 (j - n) u hj
     rwa [show o + n + (j - n) = o + j by omega] at this
   ·rcases List.mem_append.1 hu with hu | hu
    ·exact h1 _ _ r0 u hu
    ·exact o1 u hu
   ·cases k with
    | zero =>
      obtain rfl : x = y := by simpa using hy
      rw [Nat.zero_mul, List.drop_zero, <- l0, List.take_left']
      ·exact r0
      ·rfl
    | succ k =>
      have e : (c0 ++ cs).drop ((k + 1) * n) = cs.drop (k * n) := by
       rw [List.drop_append, List.drop_eq_nil_of_le (by rw [Nat.add_mul, l0]; omega), List.nil_append, l0]
       congr 1
       rw [Nat.add_mul]
       omega
      rw [e]
      exact r1 k y (by simpa using hy)
theorem SlAt.row {α : Type} {base n : Nat} {w : World} {R : List Value -> α -> Prop} {v : Value} {xs : List α} (h : SlAt base w n R v xs) (h1 : ∀ cs x, R cs x -> ∀ u ∈ cs, u.oneCell' = true) :
  ∃ cs, RowAt base w v xs.length n cs ∧ ∀ k x, xs[k]? = some x -> R ((cs.drop (k * n)).take n) x := by
 obtain ⟨A, cap, e, h0, hl, hm, h3⟩ := h
 by_cases hx : xs = []
 ·subst hx
  exact ⟨[], ⟨A, cap, e, h0, hl, hm, by simp, (fun u hu => by cases hu), fun hn => absurd rfl hn⟩, fun k x hx => by simp at hx⟩
 ·obtain ⟨b, o, ea, hb, hr⟩ := h3 hx
  obtain ⟨cs, l1, e1, o1, r1⟩ := flat_cells h1 xs o hr
  exact ⟨cs, ⟨A, cap, e, h0, hl, hm, l1, o1, fun _ => ⟨b, o, ea, hb, e1⟩⟩, r1⟩
theorem SlAt.own {α : Type} {base n : Nat} {w : World} {t : TypeId} {R : List Value -> α -> Prop} {v : Value} {xs : List α} {cs : List Value} (h : w.ownsRow base t n v xs.length cs) (hr : ∀ k x, xs[k]? = some x -> R ((cs.drop (k * n)).take n) x) : SlAt w.heap.size w n R v xs := by
 have h' := h
 obtain ⟨hl, hc⟩ := h
 rcases hc with ⟨rfl, h0⟩ | ⟨g, cap, cur, rfl, hb, hg, hn, hcap, hs, ht⟩
 ·exact ⟨none, 0, by rw [h0], fun _ => rfl, by omega, by unfold maxLen; omega, fun hn => absurd (List.length_eq_zero_iff.1 h0) hn⟩
 ·refine ⟨_, cap, rfl, (fun e => by cases e), hn, hcap, fun _ => ⟨g, 0, rfl, (Array.getElem?_eq_some_iff.1 hg).1, fun k x hx => ?_⟩⟩
  have hk := (List.getElem?_eq_some_iff.1 hx).1
  have hle : k * n + n <= cs.length := by
   have hm := Nat.mul_le_mul_right n (show k + 1 <= xs.length from hk)
   rw [Nat.add_mul, Nat.one_mul] at hm
   omega
  refine ⟨(cs.drop (k * n)).take n, ?_, hr k x hx, fun j u hj => ?_⟩
  ·rw [List.length_take, List.length_drop]
   omega
  ·have hjn : j < n := by
    have := (List.getElem?_eq_some_iff.1 hj).1
    rw [List.length_take] at this
    omega
   rw [List.getElem?_take_of_lt hjn, List.getElem?_drop] at hj
   have := h'.cells (g := g) rfl (k * n + j) u hj
   rw [Addr.add_lit] at this
   rwa [show 0 + k * n + j = 0 + (k * n + j) by omega]
theorem append_runC {P : Program} {w w' : World} {ops : Array Oper} {rest : List Oper} {o : Oper} {a : Act} {Q : Exit -> Act -> World -> Prop} (hgd : o.guard = none) (s x : Operand) (t : TypeId)
  (ho : o.op = .call { callee := .builtin .append, args := #[s, x], argTypes := #[t, t] }) {v x' v' : Value} (hs : a.eval s = v) (hx : a.eval x = x') (hr : (Builtin.append_ #[t, t] o.type #[v, x']).run P w = .ok v' w')
  (h : wpList P ops Q rest (a.put o.dst v') w') : wpList P ops Q (o :: rest) a w := by
 refine wpList_plain hgd fun K hK => ?_
 unfold Oper.wp execOp
 simp only [ho, resolve, invoke, builtin, Sem.run_bind, Sem.run_pure, Result.andThen_ok, List.map_toArray, List.map_cons, List.map_nil, hs, hx, hr]
 exact hK _ _ h
theorem Below.appC {B base : Nat} {w0 w w' : World} {t : TypeId} {s n : Nat} {v : Value} {cs : List Value} (h : Below B w0 w) (ho : w.ownsRow base t s v n cs) (hg : w.grownBy w' v.ownBlock) (hB : B <= base) (hb : base <= w.heap.size) : Below B w0 w' :=
 h.grown hg (by omega) (fun k e => by have := (ho.lt k e).1; omega)
theorem oneI (cs : List Value) (x : Int) (h : IsI cs x) : ∀ u ∈ cs, u.oneCell' = true := by
 unfold IsI at h
 subst h
 intro u hu
 simp only [List.mem_cons, List.not_mem_nil, or_false] at hu
 subst hu
 rfl
theorem oneLk (cs : List Value) (x : Lk) (h : IsLk cs x) : ∀ u ∈ cs, u.oneCell' = true := by
 unfold IsLk at h
 subst h
 intro u hu
 simp only [List.mem_cons, List.not_mem_nil, or_false] at hu
 rcases hu with rfl | rfl | rfl | rfl <;> rfl
theorem oneRule (cs : List Value) (x : NRule) (h : IsRule cs x) : ∀ u ∈ cs, u.oneCell' = true := by
 unfold IsRule at h
 subst h
 intro u hu
 simp only [List.mem_cons, List.not_mem_nil, or_false] at hu
 rcases hu with rfl | rfl | rfl | rfl | rfl <;> rfl
theorem oneRoute (cs : List Value) (x : NRoute) (h : IsRoute cs x) : ∀ u ∈ cs, u.oneCell' = true := by
 unfold IsRoute at h
 subst h
 intro u hu
 simp only [List.mem_cons, List.not_mem_nil, or_false] at hu
 rcases hu with rfl | rfl | rfl <;> rfl
theorem oneDv {base : Nat} {w : World} (cs : List Value) (x : Dv) (h : IsDv base w cs x) : ∀ u ∈ cs, u.oneCell' = true := by
 obtain ⟨vb, vr, vt, rfl, h1, h2, h3⟩ := h
 obtain ⟨_, _, rfl, _⟩ := h1
 obtain ⟨_, _, rfl, _⟩ := h2
 obtain ⟨_, _, rfl, _⟩ := h3
 intro u hu
 simp only [List.mem_cons, List.not_mem_nil, or_false] at hu
 rcases hu with rfl | rfl | rfl | rfl | rfl | rfl | rfl <;> rfl
theorem u_ints : Tryz.prog.underlying 66 = some (.slice 3) := by kernel_rfl
theorem info_ints : (Tryz.prog.info? 3).map (fun i => (i.zero, i.size, i.bytes)) = some (some (.int .i64 0), 1, 8) := by kernel_rfl
theorem clone_ints {v : Value} {N : Nat} {cs : List Value} (w : World) (h : RowAt w.heap.size w v N 1 cs) (hs : N <= 1048576) :
  Calls Tryz.prog 91 #[v] w fun e w' => ∃ v', e = .returned v' ∧ w'.ownsRow w.heap.size 3 1 v' N cs ∧ Below w.heap.size w w' := by
 have q : ∀ (w : World) (a : Option Addr) (n c n' c' : Nat), (binOp .eql 66 (.slice a n c) (.slice none n' c')).run Tryz.prog w = .ok (.bool a.isNone) w := fun w a n c n' c' => Lib.run_eql_slice_nil w _ _ a n c n' c' u_ints
 obtain ⟨i0, hi, hz0, hz1, hz2⟩ := info_parts info_ints
 have D0 := Below.alN (Below.refl w.heap.size w) (.cells #[] 3)
 have o0 : (w.alloc (.cells #[] 3)).ownsRow w.heap.size 3 1 (.slice (some ⟨w.heap.size, 0, none⟩) 0 0) 0 [] := World.ownsRow_made w #[] 0 (Nat.le_refl _) (Nat.zero_le _) (by simp)
 obtain ⟨A, cap, rfl, h0, h1, h2, hl, ho, h3⟩ := h
 cases A with
 | none =>
   have hN : N = 0 := by
    by_cases hn : N = 0
    ·exact hn
    ·obtain ⟨_, _, e, _⟩ := h3 hn
     cases e
   subst hN
   have hcs : cs = [] := List.length_eq_zero_iff.1 (by simpa using hl)
   subst hcs
   clear h3 ho hl hs o0
   go_enter Tryz.func91, Tryz.ntmps91
   go_wp2_with fail
   go_ret
   exact ⟨_, rfl, World.ownsRow_nil _ _ _ _, Below.refl _ _⟩
 | some ad =>
   obtain ⟨v', w', hr, h4, h5, _⟩ := run_append_own (P := Tryz.prog) (w.alloc (.cells #[] 3)) w.heap.size 66 66 3 i0 _ 1 8 u_ints hi hz0 hz1 hz2 rfl (by decide) _ 0 [] o0 ad N cap cs hl (fun j u hj => by
    have hn : N ≠ 0 := fun e => by
     subst e
     have : cs = [] := List.length_eq_zero_iff.1 (by simpa using hl)
     subst this
     simp at hj
    obtain ⟨b, o, e, hb, hr⟩ := h3 hn
    cases e
    rw [Addr.add_lit]
    exact (D0.cell (p := ⟨b, o + j, none⟩) hb).trans (hr j u hj)) ho (by unfold maxLen; omega) (by omega) (by simp)
   have D1 := Below.appC D0 o0 h5 (Nat.le_refl _) (by simp)
   simp only [List.nil_append, Nat.zero_add] at h4
   have fin : Hid (w'.ownsRow w.heap.size 3 1 v' N cs ∧ Below w.heap.size w w') := ⟨h4, D1⟩
   clear h0 h1 h2 h3 h5 hs o0 D0 h4 D1 hl ho
   go_enter Tryz.func91, Tryz.ntmps91
   go_wp2_with (at_builtin; refine append_runC rfl _ _ 66 rfl rfl rfl hr ?_)
   go_ret
   exact ⟨_, rfl, fin.out⟩
theorem u_links : Tryz.prog.underlying 23 = some (.slice 135) := by kernel_rfl
theorem info_links : (Tryz.prog.info? 135).map (fun i => (i.zero, i.size, i.bytes)) = some (some (.agg #[.int .i64 0, .int .i64 0, .int .i64 0, .int .i64 0]), 4, 32) := by kernel_rfl
theorem clone_links {v : Value} {N : Nat} {cs : List Value} (w : World) (h : RowAt w.heap.size w v N 4 cs) (hs : N <= 1048576) :
  Calls Tryz.prog 90 #[v] w fun e w' => ∃ v', e = .returned v' ∧ w'.ownsRow w.heap.size 135 4 v' N cs ∧ Below w.heap.size w w' := by
 have q : ∀ (w : World) (a : Option Addr) (n c n' c' : Nat), (binOp .eql 23 (.slice a n c) (.slice none n' c')).run Tryz.prog w = .ok (.bool a.isNone) w := fun w a n c n' c' => Lib.run_eql_slice_nil w _ _ a n c n' c' u_links
 obtain ⟨i0, hi, hz0, hz1, hz2⟩ := info_parts info_links
 have D0 := Below.alN (Below.refl w.heap.size w) (.cells #[] 135)
 have o0 : (w.alloc (.cells #[] 135)).ownsRow w.heap.size 135 4 (.slice (some ⟨w.heap.size, 0, none⟩) 0 0) 0 [] := World.ownsRow_made w #[] 0 (Nat.le_refl _) (Nat.zero_le _) (by simp)
 obtain ⟨A, cap, rfl, h0, h1, h2, hl, ho, h3⟩ := h
 cases A with
 | none =>
   have hN : N = 0 := by
    by_cases hn : N = 0
    ·exact hn
    ·obtain ⟨_, _, e, _⟩ := h3 hn
     cases e
   subst hN
   have hcs : cs = [] := List.length_eq_zero_iff.1 (by simpa using hl)
   subst hcs
   clear h3 ho hl hs o0
   go_enter Tryz.func90, Tryz.ntmps90
   go_wp2_with fail
   go_ret
   exact ⟨_, rfl, World.ownsRow_nil _ _ _ _, Below.refl _ _⟩
 | some ad =>
   obtain ⟨v', w', hr, h4, h5, _⟩ := run_append_own (P := Tryz.prog) (w.alloc (.cells #[] 135)) w.heap.size 23 23 135 i0 _ 4 32 u_links hi hz0 hz1 hz2 rfl (by decide) _ 0 [] o0 ad N cap cs hl (fun j u hj => by
    have hn : N ≠ 0 := fun e => by
     subst e
     have : cs = [] := List.length_eq_zero_iff.1 (by simpa using hl)
     subst this
     simp at hj
    obtain ⟨b, o, e, hb, hr⟩ := h3 hn
    cases e
    rw [Addr.add_lit]
    exact (D0.cell (p := ⟨b, o + j, none⟩) hb).trans (hr j u hj)) ho (by unfold maxLen; omega) (by omega) (by simp)
   have D1 := Below.appC D0 o0 h5 (Nat.le_refl _) (by simp)
   simp only [List.nil_append, Nat.zero_add] at h4
   have fin : Hid (w'.ownsRow w.heap.size 135 4 v' N cs ∧ Below w.heap.size w w') := ⟨h4, D1⟩
   clear h0 h1 h2 h3 h5 hs o0 D0 h4 D1 hl ho
   go_enter Tryz.func90, Tryz.ntmps90
   go_wp2_with (at_builtin; refine append_runC rfl _ _ 23 rfl rfl rfl hr ?_)
   go_ret
   exact ⟨_, rfl, fin.out⟩
theorem u_rules : Tryz.prog.underlying 26 = some (.slice 36) := by kernel_rfl
theorem info_rules : (Tryz.prog.info? 36).map (fun i => (i.zero, i.size, i.bytes)) = some (some (.agg #[.bool false, .int .u16 0, .int .u16 0, .int .u8 0, .int .u8 0]), 5, 8) := by kernel_rfl
theorem clone_rules {v : Value} {N : Nat} {cs : List Value} (w : World) (h : RowAt w.heap.size w v N 5 cs) (hs : N <= 1048576) :
  Calls Tryz.prog 92 #[v] w fun e w' => ∃ v', e = .returned v' ∧ w'.ownsRow w.heap.size 36 5 v' N cs ∧ Below w.heap.size w w' := by
 have q : ∀ (w : World) (a : Option Addr) (n c n' c' : Nat), (binOp .eql 26 (.slice a n c) (.slice none n' c')).run Tryz.prog w = .ok (.bool a.isNone) w := fun w a n c n' c' => Lib.run_eql_slice_nil w _ _ a n c n' c' u_rules
 obtain ⟨i0, hi, hz0, hz1, hz2⟩ := info_parts info_rules
 have D0 := Below.alN (Below.refl w.heap.size w) (.cells #[] 36)
 have o0 : (w.alloc (.cells #[] 36)).ownsRow w.heap.size 36 5 (.slice (some ⟨w.heap.size, 0, none⟩) 0 0) 0 [] := World.ownsRow_made w #[] 0 (Nat.le_refl _) (Nat.zero_le _) (by simp)
 obtain ⟨A, cap, rfl, h0, h1, h2, hl, ho, h3⟩ := h
 cases A with
 | none =>
   have hN : N = 0 := by
    by_cases hn : N = 0
    ·exact hn
    ·obtain ⟨_, _, e, _⟩ := h3 hn
     cases e
   subst hN
   have hcs : cs = [] := List.length_eq_zero_iff.1 (by simpa using hl)
   subst hcs
   clear h3 ho hl hs o0
   go_enter Tryz.func92, Tryz.ntmps92
   go_wp2_with fail
   go_ret
   exact ⟨_, rfl, World.ownsRow_nil _ _ _ _, Below.refl _ _⟩
 | some ad =>
   obtain ⟨v', w', hr, h4, h5, _⟩ := run_append_own (P := Tryz.prog) (w.alloc (.cells #[] 36)) w.heap.size 26 26 36 i0 _ 5 8 u_rules hi hz0 hz1 hz2 rfl (by decide) _ 0 [] o0 ad N cap cs hl (fun j u hj => by
    have hn : N ≠ 0 := fun e => by
     subst e
     have : cs = [] := List.length_eq_zero_iff.1 (by simpa using hl)
     subst this
     simp at hj
    obtain ⟨b, o, e, hb, hr⟩ := h3 hn
    cases e
    rw [Addr.add_lit]
    exact (D0.cell (p := ⟨b, o + j, none⟩) hb).trans (hr j u hj)) ho (by unfold maxLen; omega) (by omega) (by simp)
   have D1 := Below.appC D0 o0 h5 (Nat.le_refl _) (by simp)
   simp only [List.nil_append, Nat.zero_add] at h4
   have fin : Hid (w'.ownsRow w.heap.size 36 5 v' N cs ∧ Below w.heap.size w w') := ⟨h4, D1⟩
   clear h0 h1 h2 h3 h5 hs o0 D0 h4 D1 hl ho
   go_enter Tryz.func92, Tryz.ntmps92
   go_wp2_with (at_builtin; refine append_runC rfl _ _ 26 rfl rfl rfl hr ?_)
   go_ret
   exact ⟨_, rfl, fin.out⟩
theorem u_routes : Tryz.prog.underlying 89 = some (.slice 166) := by kernel_rfl
theorem info_routes : (Tryz.prog.info? 166).map (fun i => (i.zero, i.size, i.bytes)) = some (some (.agg #[.int .i64 0, .int .i64 0, .int .i64 0]), 3, 24) := by kernel_rfl
theorem clone_routes {v : Value} {N : Nat} {cs : List Value} (w : World) (h : RowAt w.heap.size w v N 3 cs) (hs : N <= 1048576) :
  Calls Tryz.prog 93 #[v] w fun e w' => ∃ v', e = .returned v' ∧ w'.ownsRow w.heap.size 166 3 v' N cs ∧ Below w.heap.size w w' := by
 have q : ∀ (w : World) (a : Option Addr) (n c n' c' : Nat), (binOp .eql 89 (.slice a n c) (.slice none n' c')).run Tryz.prog w = .ok (.bool a.isNone) w := fun w a n c n' c' => Lib.run_eql_slice_nil w _ _ a n c n' c' u_routes
 obtain ⟨i0, hi, hz0, hz1, hz2⟩ := info_parts info_routes
 have D0 := Below.alN (Below.refl w.heap.size w) (.cells #[] 166)
 have o0 : (w.alloc (.cells #[] 166)).ownsRow w.heap.size 166 3 (.slice (some ⟨w.heap.size, 0, none⟩) 0 0) 0 [] := World.ownsRow_made w #[] 0 (Nat.le_refl _) (Nat.zero_le _) (by simp)
 obtain ⟨A, cap, rfl, h0, h1, h2, hl, ho, h3⟩ := h
 cases A with
 | none =>
   have hN : N = 0 := by
    by_cases hn : N = 0
    ·exact hn
    ·obtain ⟨_, _, e, _⟩ := h3 hn
     cases e
   subst hN
   have hcs : cs = [] := List.length_eq_zero_iff.1 (by simpa using hl)
   subst hcs
   clear h3 ho hl hs o0
   go_enter Tryz.func93, Tryz.ntmps93
   go_wp2_with fail
   go_ret
   exact ⟨_, rfl, World.ownsRow_nil _ _ _ _, Below.refl _ _⟩
 | some ad =>
   obtain ⟨v', w', hr, h4, h5, _⟩ := run_append_own (P := Tryz.prog) (w.alloc (.cells #[] 166)) w.heap.size 89 89 166 i0 _ 3 24 u_routes hi hz0 hz1 hz2 rfl (by decide) _ 0 [] o0 ad N cap cs hl (fun j u hj => by
    have hn : N ≠ 0 := fun e => by
     subst e
     have : cs = [] := List.length_eq_zero_iff.1 (by simpa using hl)
     subst this
     simp at hj
    obtain ⟨b, o, e, hb, hr⟩ := h3 hn
    cases e
    rw [Addr.add_lit]
    exact (D0.cell (p := ⟨b, o + j, none⟩) hb).trans (hr j u hj)) ho (by unfold maxLen; omega) (by omega) (by simp)
   have D1 := Below.appC D0 o0 h5 (Nat.le_refl _) (by simp)
   simp only [List.nil_append, Nat.zero_add] at h4
   have fin : Hid (w'.ownsRow w.heap.size 166 3 v' N cs ∧ Below w.heap.size w w') := ⟨h4, D1⟩
   clear h0 h1 h2 h3 h5 hs o0 D0 h4 D1 hl ho
   go_enter Tryz.func93, Tryz.ntmps93
   go_wp2_with (at_builtin; refine append_runC rfl _ _ 89 rfl rfl rfl hr ?_)
   go_ret
   exact ⟨_, rfl, fin.out⟩
theorem u_devs : Tryz.prog.underlying 22 = some (.slice 91) := by kernel_rfl
theorem info_devs : (Tryz.prog.info? 91).map (fun i => (i.zero, i.size, i.bytes)) = some (some (.agg #[.string ⟨#[]⟩, .int .i64 0, .int .i64 0, .int .u8 0, .slice none 0 0, .slice none 0 0, .slice none 0 0]), 7, 112) := by kernel_rfl
theorem clone_devs {v : Value} {N : Nat} {cs : List Value} (w : World) (h : RowAt w.heap.size w v N 7 cs) (hs : N <= 1048576) :
  Calls Tryz.prog 89 #[v] w fun e w' => ∃ v', e = .returned v' ∧ w'.ownsRow w.heap.size 91 7 v' N cs ∧ Below w.heap.size w w' := by
 have q : ∀ (w : World) (a : Option Addr) (n c n' c' : Nat), (binOp .eql 22 (.slice a n c) (.slice none n' c')).run Tryz.prog w = .ok (.bool a.isNone) w := fun w a n c n' c' => Lib.run_eql_slice_nil w _ _ a n c n' c' u_devs
 obtain ⟨i0, hi, hz0, hz1, hz2⟩ := info_parts info_devs
 have D0 := Below.alN (Below.refl w.heap.size w) (.cells #[] 91)
 have o0 : (w.alloc (.cells #[] 91)).ownsRow w.heap.size 91 7 (.slice (some ⟨w.heap.size, 0, none⟩) 0 0) 0 [] := World.ownsRow_made w #[] 0 (Nat.le_refl _) (Nat.zero_le _) (by simp)
 obtain ⟨A, cap, rfl, h0, h1, h2, hl, ho, h3⟩ := h
 cases A with
 | none =>
   have hN : N = 0 := by
    by_cases hn : N = 0
    ·exact hn
    ·obtain ⟨_, _, e, _⟩ := h3 hn
     cases e
   subst hN
   have hcs : cs = [] := List.length_eq_zero_iff.1 (by simpa using hl)
   subst hcs
   clear h3 ho hl hs o0
   go_enter Tryz.func89, Tryz.ntmps89
   go_wp2_with fail
   go_ret
   exact ⟨_, rfl, World.ownsRow_nil _ _ _ _, Below.refl _ _⟩
 | some ad =>
   obtain ⟨v', w', hr, h4, h5, _⟩ := run_append_own (P := Tryz.prog) (w.alloc (.cells #[] 91)) w.heap.size 22 22 91 i0 _ 7 112 u_devs hi hz0 hz1 hz2 rfl (by decide) _ 0 [] o0 ad N cap cs hl (fun j u hj => by
    have hn : N ≠ 0 := fun e => by
     subst e
     have : cs = [] := List.length_eq_zero_iff.1 (by simpa using hl)
     subst this
     simp at hj
    obtain ⟨b, o, e, hb, hr⟩ := h3 hn
    cases e
    rw [Addr.add_lit]
    exact (D0.cell (p := ⟨b, o + j, none⟩) hb).trans (hr j u hj)) ho (by unfold maxLen; omega) (by omega) (by simp)
   have D1 := Below.appC D0 o0 h5 (Nat.le_refl _) (by simp)
   simp only [List.nil_append, Nat.zero_add] at h4
   have fin : Hid (w'.ownsRow w.heap.size 91 7 v' N cs ∧ Below w.heap.size w w') := ⟨h4, D1⟩
   clear h0 h1 h2 h3 h5 hs o0 D0 h4 D1 hl ho
   go_enter Tryz.func89, Tryz.ntmps89
   go_wp2_with (at_builtin; refine append_runC rfl _ _ 22 rfl rfl rfl hr ?_)
   go_ret
   exact ⟨_, rfl, fin.out⟩
theorem cell_of_blockC {w w' : World} {b o : Nat} (h : w'.heap[b]? = w.heap[b]?) : w'.cell? ⟨b, o, none⟩ = w.cell? ⟨b, o, none⟩ := by
 unfold World.cell?
 rw [h]
def NotB (k : Nat) (v : Value) : Prop := ∀ b o n c, v = .slice (some ⟨b, o, none⟩) n c -> n ≠ 0 -> b ≠ k
def NotIn (lo hi : Nat) (v : Value) : Prop := ∀ b o n c, v = .slice (some ⟨b, o, none⟩) n c -> n ≠ 0 -> b < lo ∨ hi <= b
theorem NotIn.b {lo hi k : Nat} {v : Value} (h : NotIn lo hi v) (h1 : lo <= k) (h2 : k < hi) : NotB k v := fun b o n c e hn => by
 have := h b o n c e hn
 omega
theorem SlAt.setB {α : Type} {base n k j : Nat} {w : World} {R : List Value -> α -> Prop} {v u : Value} {xs : List α} (h : SlAt base w n R v xs) (hn : NotB k v) : SlAt base (w.setCell ⟨k, j, none⟩ u) n R v xs := by
 obtain ⟨A, cap, rfl, h0, h1, h2, h3⟩ := h
 refine ⟨A, cap, rfl, h0, h1, h2, fun hx => ?_⟩
 obtain ⟨b, o, rfl, hl, hr⟩ := h3 hx
 have hb : b ≠ k := hn b o _ _ rfl (fun e => hx (List.length_eq_zero_iff.1 e))
 refine ⟨b, o, rfl, hl, fun i x hi => ?_⟩
 obtain ⟨cs, c1, c2, c3⟩ := hr i x hi
 exact ⟨cs, c1, c2, fun j' u' hj => (cell_of_blockC (Below.heap_setCell w ⟨k, j, none⟩ u b hb)).trans (c3 j' u' hj)⟩
theorem SlAt.notIn {α : Type} {base n hi : Nat} {w : World} {R : List Value -> α -> Prop} {v : Value} {xs : List α} (h : SlAt base w n R v xs) : NotIn base hi v := fun b o m c e hn => by
 obtain ⟨A, cap, rfl, h0, h1, h2, h3⟩ := h
 obtain ⟨b', o', e', hl, _⟩ := h3 (fun e0 => hn (by cases e; rw [e0]; rfl))
 cases e
 cases e'
 exact .inl hl
theorem own_notIn {base lo hi n N : Nat} {t : TypeId} {w : World} {v : Value} {cs : List Value} (h : w.ownsRow base t n v N cs) (hb : hi <= base) : NotIn lo hi v := fun b o m c e hn => by
 rcases h.2 with ⟨rfl, _⟩ | ⟨g, cap, cur, rfl, hg, _⟩
 ·cases e
 ·cases e
  exact .inr (by omega)
def DvRow (lo hi g : Nat) (w : World) (ds : List Dv) : Prop := ∀ k d, ds[k]? = some d -> ∃ vb vr vt, (w.cell? ⟨g, k * 7, none⟩ = some (.string d.name) ∧ w.cell? ⟨g, k * 7 + 1, none⟩ = some (.int .i64 d.kind) ∧ w.cell? ⟨g, k * 7 + 2, none⟩ = some (.int .i64 d.addr) ∧ w.cell? ⟨g, k * 7 + 3, none⟩ = some (.int .u8 (d.pool : Int)) ∧ w.cell? ⟨g, k * 7 + 4, none⟩ = some vb ∧ w.cell? ⟨g, k * 7 + 5, none⟩ = some vr ∧ w.cell? ⟨g, k * 7 + 6, none⟩ = some vt) ∧ (SlAt w.heap.size w 1 IsI vb d.backs ∧ SlAt w.heap.size w 5 IsRule vr d.rules ∧ SlAt w.heap.size w 3 IsRoute vt d.routes) ∧ NotIn lo hi vb ∧ NotIn lo hi vr ∧ NotIn lo hi vt
theorem cell_set {w : World} {a : Addr} {u v : Value} (h : w.cell? a = some v) : (w.setCell a u).cell? a = some u := by
 have hs := spotN h
 obtain ⟨b, o, sp⟩ := a
 simp only at hs
 subst hs
 simp [go_sem, h]
theorem cell_off {w : World} {b i j : Nat} {u : Value} (h : i ≠ j) : (w.setCell ⟨b, j, none⟩ u).cell? ⟨b, i, none⟩ = w.cell? ⟨b, i, none⟩ := by
 simp [go_sem]
section
variable {lo hi g : Nat} {w w' : World} {ds : List Dv}
theorem DvRow.below (h : DvRow lo hi g w ds) (hb : Below w.heap.size w w') : DvRow lo hi g w' ds := fun k d hk => by
 obtain ⟨vb, vr, vt, ⟨c0, c1, c2, c3, c4, c5, c6⟩, ⟨s1, s2, s3⟩, n1, n2, n3⟩ := h k d hk
 have C := fun {o : Nat} {v : Value} (hc : w.cell? ⟨g, o, none⟩ = some v) => (hb.cell (World.block_lt_of_cell? w _ hc)).trans hc
 exact ⟨vb, vr, vt, ⟨C c0, C c1, C c2, C c3, C c4, C c5, C c6⟩, ⟨SlAt.mono (SlAt.below s1 hb (fun _ _ _ h => h)) hb.size (fun _ _ _ h => h), SlAt.mono (SlAt.below s2 hb (fun _ _ _ h => h)) hb.size (fun _ _ _ h => h), SlAt.mono (SlAt.below s3 hb (fun _ _ _ h => h)) hb.size (fun _ _ _ h => h)⟩, n1, n2, n3⟩
theorem DvRow.other (h : DvRow lo hi g w ds) {k j : Nat} {u : Value} (hne : g ≠ k) (h1 : lo <= k) (h2 : k < hi) : DvRow lo hi g (w.setCell ⟨k, j, none⟩ u) ds := fun i d hi' => by
 obtain ⟨vb, vr, vt, ⟨c0, c1, c2, c3, c4, c5, c6⟩, ⟨s1, s2, s3⟩, n1, n2, n3⟩ := h i d hi'
 have C := fun {o : Nat} {v : Value} (hc : w.cell? ⟨g, o, none⟩ = some v) => (cell_of_blockC (o := o) (Below.heap_setCell w ⟨k, j, none⟩ u g hne)).trans hc
 have sz : (w.setCell ⟨k, j, none⟩ u).heap.size = w.heap.size := by simp [World.setCell]
 rw [sz]
 exact ⟨vb, vr, vt, ⟨C c0, C c1, C c2, C c3, C c4, C c5, C c6⟩, ⟨s1.setB (n1.b h1 h2), s2.setB (n2.b h1 h2), s3.setB (n3.b h1 h2)⟩, n1, n2, n3⟩
theorem DvRow.set4 (h : DvRow lo hi g w ds) {k : Nat} {d : Dv} {u : Value} (hk : ds[k]? = some d) (hs : SlAt w.heap.size w 1 IsI u d.backs) (hn : NotIn lo hi u) (h1 : lo <= g) (h2 : g < hi) : DvRow lo hi g (w.setCell ⟨g, k * 7 + 4, none⟩ u) ds := fun i d' hi' => by
 have sz : (w.setCell ⟨g, k * 7 + 4, none⟩ u).heap.size = w.heap.size := by simp [World.setCell]
 rw [sz]
 by_cases e : i = k
 ·subst e
  rw [hk] at hi'
  obtain rfl := Option.some.inj hi'
  obtain ⟨vb, vr, vt, ⟨c0, c1, c2, c3, c4, c5, c6⟩, ⟨s1, s2, s3⟩, n1, n2, n3⟩ := h i d hk
  exact ⟨u, vr, vt, ⟨(cell_off (by omega)).trans c0, (cell_off (by omega)).trans c1, (cell_off (by omega)).trans c2, (cell_off (by omega)).trans c3, (cell_set c4), (cell_off (by omega)).trans c5, (cell_off (by omega)).trans c6⟩, ⟨hs.setB (hn.b h1 h2), s2.setB (n2.b h1 h2), s3.setB (n3.b h1 h2)⟩, hn, n2, n3⟩
 ·obtain ⟨vb, vr, vt, ⟨e0, e1, e2, e3, e4, e5, e6⟩, ⟨s1, s2, s3⟩, n1, n2, n3⟩ := h i d' hi'
  exact ⟨vb, vr, vt, ⟨(cell_off (by omega)).trans e0, (cell_off (by omega)).trans e1, (cell_off (by omega)).trans e2, (cell_off (by omega)).trans e3, (cell_off (by omega)).trans e4, (cell_off (by omega)).trans e5, (cell_off (by omega)).trans e6⟩, ⟨s1.setB (n1.b h1 h2), s2.setB (n2.b h1 h2), s3.setB (n3.b h1 h2)⟩, n1, n2, n3⟩
theorem DvRow.set5 (h : DvRow lo hi g w ds) {k : Nat} {d : Dv} {u : Value} (hk : ds[k]? = some d) (hs : SlAt w.heap.size w 5 IsRule u d.rules) (hn : NotIn lo hi u) (h1 : lo <= g) (h2 : g < hi) : DvRow lo hi g (w.setCell ⟨g, k * 7 + 5, none⟩ u) ds := fun i d' hi' => by
 have sz : (w.setCell ⟨g, k * 7 + 5, none⟩ u).heap.size = w.heap.size := by simp [World.setCell]
 rw [sz]
 by_cases e : i = k
 ·subst e
  rw [hk] at hi'
  obtain rfl := Option.some.inj hi'
  obtain ⟨vb, vr, vt, ⟨c0, c1, c2, c3, c4, c5, c6⟩, ⟨s1, s2, s3⟩, n1, n2, n3⟩ := h i d hk
  exact ⟨vb, u, vt, ⟨(cell_off (by omega)).trans c0, (cell_off (by omega)).trans c1, (cell_off (by omega)).trans c2, (cell_off (by omega)).trans c3, (cell_off (by omega)).trans c4, (cell_set c5), (cell_off (by omega)).trans c6⟩, ⟨s1.setB (n1.b h1 h2), hs.setB (hn.b h1 h2), s3.setB (n3.b h1 h2)⟩, n1, hn, n3⟩
 ·obtain ⟨vb, vr, vt, ⟨e0, e1, e2, e3, e4, e5, e6⟩, ⟨s1, s2, s3⟩, n1, n2, n3⟩ := h i d' hi'
  exact ⟨vb, vr, vt, ⟨(cell_off (by omega)).trans e0, (cell_off (by omega)).trans e1, (cell_off (by omega)).trans e2, (cell_off (by omega)).trans e3, (cell_off (by omega)).trans e4, (cell_off (by omega)).trans e5, (cell_off (by omega)).trans e6⟩, ⟨s1.setB (n1.b h1 h2), s2.setB (n2.b h1 h2), s3.setB (n3.b h1 h2)⟩, n1, n2, n3⟩
theorem DvRow.set6 (h : DvRow lo hi g w ds) {k : Nat} {d : Dv} {u : Value} (hk : ds[k]? = some d) (hs : SlAt w.heap.size w 3 IsRoute u d.routes) (hn : NotIn lo hi u) (h1 : lo <= g) (h2 : g < hi) : DvRow lo hi g (w.setCell ⟨g, k * 7 + 6, none⟩ u) ds := fun i d' hi' => by
 have sz : (w.setCell ⟨g, k * 7 + 6, none⟩ u).heap.size = w.heap.size := by simp [World.setCell]
 rw [sz]
 by_cases e : i = k
 ·subst e
  rw [hk] at hi'
  obtain rfl := Option.some.inj hi'
  obtain ⟨vb, vr, vt, ⟨c0, c1, c2, c3, c4, c5, c6⟩, ⟨s1, s2, s3⟩, n1, n2, n3⟩ := h i d hk
  exact ⟨vb, vr, u, ⟨(cell_off (by omega)).trans c0, (cell_off (by omega)).trans c1, (cell_off (by omega)).trans c2, (cell_off (by omega)).trans c3, (cell_off (by omega)).trans c4, (cell_off (by omega)).trans c5, (cell_set c6)⟩, ⟨s1.setB (n1.b h1 h2), s2.setB (n2.b h1 h2), hs.setB (hn.b h1 h2)⟩, n1, n2, hn⟩
 ·obtain ⟨vb, vr, vt, ⟨e0, e1, e2, e3, e4, e5, e6⟩, ⟨s1, s2, s3⟩, n1, n2, n3⟩ := h i d' hi'
  exact ⟨vb, vr, vt, ⟨(cell_off (by omega)).trans e0, (cell_off (by omega)).trans e1, (cell_off (by omega)).trans e2, (cell_off (by omega)).trans e3, (cell_off (by omega)).trans e4, (cell_off (by omega)).trans e5, (cell_off (by omega)).trans e6⟩, ⟨s1.setB (n1.b h1 h2), s2.setB (n2.b h1 h2), s3.setB (n3.b h1 h2)⟩, n1, n2, n3⟩
end
theorem DvRow.devs {lo hi g : Nat} {w : World} {ds : List Dv} {cap : Nat} (h : DvRow lo hi g w ds) (hg : g < w.heap.size) (h1 : ds.length <= cap) (h2 : cap <= maxLen) : Devs w.heap.size w (.slice (some ⟨g, 0, none⟩) ds.length cap) ds := by
 refine ⟨_, cap, rfl, (fun e => by cases e), h1, h2, fun _ => ⟨g, 0, rfl, hg, fun k d hk => ?_⟩⟩
 obtain ⟨vb, vr, vt, ⟨c0, c1, c2, c3, c4, c5, c6⟩, ⟨s1, s2, s3⟩, _⟩ := h k d hk
 refine ⟨[.string d.name, .int .i64 d.kind, .int .i64 d.addr, .int .u8 (d.pool : Int), vb, vr, vt], rfl, ⟨vb, vr, vt, rfl, s1, s2, s3⟩, fun j u hj => ?_⟩
 rw [Nat.zero_add]
 match j, hj with
 | 0, hj => obtain rfl := Option.some.inj hj; exact c0
 | 1, hj => obtain rfl := Option.some.inj hj; exact c1
 | 2, hj => obtain rfl := Option.some.inj hj; exact c2
 | 3, hj => obtain rfl := Option.some.inj hj; exact c3
 | 4, hj => obtain rfl := Option.some.inj hj; exact c4
 | 5, hj => obtain rfl := Option.some.inj hj; exact c5
 | 6, hj => obtain rfl := Option.some.inj hj; exact c6
def IsB (w : World) (g : Nat) : Prop := ∃ cs t, Bk w g cs t
theorem IsB.below {w w' : World} {g : Nat} (h : IsB w g) (hb : Below w.heap.size w w') : IsB w' g := by
 obtain ⟨cs, t, h⟩ := h
 exact ⟨cs, t, h.keep hb⟩
theorem IsB.set {w : World} {g k j : Nat} {u : Value} (h : IsB w g) : IsB (w.setCell ⟨k, j, none⟩ u) g := by
 obtain ⟨cs, t, h⟩ := h
 by_cases e : g = k
 ·subst e
  exact ⟨_, t, h.setS u⟩
 ·exact ⟨cs, t, h.setO e u⟩
theorem IsB.fz {w : World} {g : Nat} (h : IsB w g) (o : Nat) : w.frozen? ⟨g, o, none⟩ = false := by
 obtain ⟨cs, t, h⟩ := h
 exact h.fz o
def Fresh (lo : Nat) (w : World) (A : Option Addr) (cap : Nat) (w0 : World) (ds : List Dv) : Prop :=
 (A = none -> cap = 0) ∧ ds.length <= cap ∧ cap <= maxLen ∧ (ds.length ≠ 0 -> ∃ g, A = some ⟨g, 0, none⟩ ∧ lo <= g ∧ g < w.heap.size ∧ IsB w g ∧ ∀ k d, ds[k]? = some d -> ∃ vb vr vt, (w.cell? ⟨g, k * 7, none⟩ = some (.string d.name) ∧ w.cell? ⟨g, k * 7 + 1, none⟩ = some (.int .i64 d.kind) ∧ w.cell? ⟨g, k * 7 + 2, none⟩ = some (.int .i64 d.addr) ∧ w.cell? ⟨g, k * 7 + 3, none⟩ = some (.int .u8 (d.pool : Int)) ∧ w.cell? ⟨g, k * 7 + 4, none⟩ = some vb ∧ w.cell? ⟨g, k * 7 + 5, none⟩ = some vr ∧ w.cell? ⟨g, k * 7 + 6, none⟩ = some vt) ∧ (SlAt w0.heap.size w0 1 IsI vb d.backs ∧ SlAt w0.heap.size w0 5 IsRule vr d.rules ∧ SlAt w0.heap.size w0 3 IsRoute vt d.routes))
theorem Fresh.below {lo : Nat} {w w' w0 : World} {A : Option Addr} {cap : Nat} {ds : List Dv} (h : Fresh lo w A cap w0 ds) (hb : Below w.heap.size w w') : Fresh lo w' A cap w0 ds := by
 obtain ⟨h0, h1, h2, h3⟩ := h
 refine ⟨h0, h1, h2, fun hn => ?_⟩
 obtain ⟨g, e, hl, hg, hB, hr⟩ := h3 hn
 refine ⟨g, e, hl, Nat.lt_of_lt_of_le hg hb.size, hB.below hb, fun k d hk => ?_⟩
 obtain ⟨vb, vr, vt, ⟨c0, c1, c2, c3, c4, c5, c6⟩, s⟩ := hr k d hk
 have C := fun {o : Nat} {v : Value} (hc : w.cell? ⟨g, o, none⟩ = some v) => (hb.cell (World.block_lt_of_cell? w _ hc)).trans hc
 exact ⟨vb, vr, vt, ⟨C c0, C c1, C c2, C c3, C c4, C c5, C c6⟩, s⟩
theorem Fresh.set {lo k j : Nat} {w w0 : World} {A : Option Addr} {cap : Nat} {ds : List Dv} {u : Value} (h : Fresh lo w A cap w0 ds) (hne : ∀ g', A = some ⟨g', 0, none⟩ -> ds.length ≠ 0 -> g' ≠ k) : Fresh lo (w.setCell ⟨k, j, none⟩ u) A cap w0 ds := by
 obtain ⟨h0, h1, h2, h3⟩ := h
 refine ⟨h0, h1, h2, fun hn => ?_⟩
 obtain ⟨g, e, hl, hg, hB, hr⟩ := h3 hn
 have hgk := hne g e hn
 refine ⟨g, e, hl, by simpa [World.setCell] using hg, hB.set, fun k' d hk => ?_⟩
 obtain ⟨vb, vr, vt, ⟨c0, c1, c2, c3, c4, c5, c6⟩, s⟩ := hr k' d hk
 have C := fun {o : Nat} {v : Value} (hc : w.cell? ⟨g, o, none⟩ = some v) => (cell_of_blockC (o := o) (Below.heap_setCell w ⟨k, j, none⟩ u g hgk)).trans hc
 exact ⟨vb, vr, vt, ⟨C c0, C c1, C c2, C c3, C c4, C c5, C c6⟩, s⟩
theorem Fresh.lo {lo lo' : Nat} {w w0 : World} {A : Option Addr} {cap : Nat} {ds : List Dv} (h : Fresh lo w A cap w0 ds) (hl : lo' <= lo) : Fresh lo' w A cap w0 ds := by
 obtain ⟨h0, h1, h2, h3⟩ := h
 refine ⟨h0, h1, h2, fun hn => ?_⟩
 obtain ⟨g, e, hg, r⟩ := h3 hn
 exact ⟨g, e, by omega, r⟩
theorem Fresh.lt {lo : Nat} {w w0 : World} {A : Option Addr} {cap : Nat} {ds : List Dv} (h : Fresh lo w A cap w0 ds) {g' : Nat} (e : A = some ⟨g', 0, none⟩) (hn : ds.length ≠ 0) : lo <= g' ∧ g' < w.heap.size := by
 obtain ⟨g, e', h1, h2, _⟩ := h.2.2.2 hn
 rw [e] at e'
 cases e'
 exact ⟨h1, h2⟩
theorem Fresh.row {lo hi : Nat} {w w0 : World} {A : Option Addr} {cap : Nat} {ds : List Dv} (h : Fresh lo w A cap w0 ds) (hb : Below w0.heap.size w0 w) (hn : ds.length ≠ 0) : ∃ g, A = some ⟨g, 0, none⟩ ∧ lo <= g ∧ g < w.heap.size ∧ IsB w g ∧ DvRow w0.heap.size hi g w ds := by
 obtain ⟨g, e, hl, hg, hB, hr⟩ := h.2.2.2 hn
 refine ⟨g, e, hl, hg, hB, fun k d hk => ?_⟩
 obtain ⟨vb, vr, vt, c, ⟨s1, s2, s3⟩⟩ := hr k d hk
 exact ⟨vb, vr, vt, c, ⟨SlAt.mono (SlAt.below s1 hb (fun _ _ _ h => h)) hb.size (fun _ _ _ h => h), SlAt.mono (SlAt.below s2 hb (fun _ _ _ h => h)) hb.size (fun _ _ _ h => h), SlAt.mono (SlAt.below s3 hb (fun _ _ _ h => h)) hb.size (fun _ _ _ h => h)⟩, s1.notIn, s2.notIn, s3.notIn⟩
theorem clone_fresh {v : Value} {ds : List Dv} {w0 : World} (W : World) (h : Devs w0.heap.size w0 v ds) (hb : Below w0.heap.size w0 W) (hs : ds.length <= 1048576) :
  Calls Tryz.prog 89 #[v] W fun e w' => ∃ A cap, e = .returned (.slice A ds.length cap) ∧ Fresh W.heap.size w' A cap w0 ds ∧ Below W.heap.size W w' := by
 obtain ⟨cs, hr, hf⟩ := SlAt.row h (fun cs x hx => oneDv cs x hx)
 have hr' : RowAt W.heap.size W v ds.length 7 cs := by
  obtain ⟨A, cap, e, h0, h1, h2, hl, ho, h3⟩ := hr
  refine ⟨A, cap, e, h0, h1, h2, hl, ho, fun hn => ?_⟩
  obtain ⟨b, o, ea, hlt, hc⟩ := h3 hn
  exact ⟨b, o, ea, Nat.lt_of_lt_of_le hlt hb.size, fun j u hj => (hb.cell (p := ⟨b, o + j, none⟩) hlt).trans (hc j u hj)⟩
 refine (clone_devs W hr' hs).mono fun e w' ⟨v', he, how, hbw⟩ => ?_
 have hs' := SlAt.own (R := fun cs d => ∃ w1 : World, w1 = w0 ∧ IsDv w0.heap.size w1 cs d) how (fun k x hx => ⟨w0, rfl, hf k x hx⟩)
 obtain ⟨A, cap, rfl, h0, h1, h2, h3⟩ := hs'
 refine ⟨A, cap, he, ⟨h0, h1, h2, fun hn => ?_⟩, hbw⟩
 obtain ⟨b, o, ea, hlt, hc⟩ := h3 (fun e0 => hn (by rw [e0]; rfl))
 rcases how.2 with ⟨hv, _⟩ | ⟨g, cap', cur, hv, hg, hcur, _⟩
 ·rw [ea] at hv
  cases hv
 ·rw [ea] at hv
  simp only [Value.slice.injEq, Option.some.injEq, Addr.mk.injEq, and_true, true_and] at hv
  obtain ⟨⟨rfl, rfl⟩, _⟩ := hv
  refine ⟨b, ea, hg, hlt, ⟨_, _, hcur⟩, fun k d hk => ?_⟩
  obtain ⟨c, _, ⟨w1, rfl, vb, vr, vt, rfl, s1, s2, s3⟩, hcc⟩ := hc k d hk
  simp only [Nat.zero_add] at hcc
  exact ⟨vb, vr, vt, ⟨hcc 0 _ rfl, hcc 1 _ rfl, hcc 2 _ rfl, hcc 3 _ rfl, hcc 4 _ rfl, hcc 5 _ rfl, hcc 6 _ rfl⟩, ⟨s1, s2, s3⟩⟩
theorem copy_ints {v : Value} {xs : List Int} (W : World) (h : SlAt W.heap.size W 1 IsI v xs) (hs : xs.length <= 1048576) :
  Calls Tryz.prog 91 #[v] W fun e w' => ∃ A cap, e = .returned (.slice A xs.length cap) ∧ SlAt w'.heap.size w' 1 IsI (.slice A xs.length cap) xs ∧ (∀ lo hi, hi <= W.heap.size -> NotIn lo hi (.slice A xs.length cap)) ∧ Below W.heap.size W w' := by
 obtain ⟨cs, hr, hf⟩ := SlAt.row h (fun cs x hx => oneI cs x hx)
 refine (clone_ints W hr hs).mono fun e w' ⟨v', he, how, hbw⟩ => ?_
 have hs' := SlAt.own (R := IsI) how hf
 obtain ⟨A, cap, rfl, h0⟩ := id hs'
 exact ⟨A, cap, he, hs', fun lo hi hh => own_notIn how hh, hbw⟩
theorem copy_rules {v : Value} {xs : List NRule} (W : World) (h : SlAt W.heap.size W 5 IsRule v xs) (hs : xs.length <= 1048576) :
  Calls Tryz.prog 92 #[v] W fun e w' => ∃ A cap, e = .returned (.slice A xs.length cap) ∧ SlAt w'.heap.size w' 5 IsRule (.slice A xs.length cap) xs ∧ (∀ lo hi, hi <= W.heap.size -> NotIn lo hi (.slice A xs.length cap)) ∧ Below W.heap.size W w' := by
 obtain ⟨cs, hr, hf⟩ := SlAt.row h (fun cs x hx => oneRule cs x hx)
 refine (clone_rules W hr hs).mono fun e w' ⟨v', he, how, hbw⟩ => ?_
 have hs' := SlAt.own (R := IsRule) how hf
 obtain ⟨A, cap, rfl, h0⟩ := id hs'
 exact ⟨A, cap, he, hs', fun lo hi hh => own_notIn how hh, hbw⟩
theorem copy_routes {v : Value} {xs : List NRoute} (W : World) (h : SlAt W.heap.size W 3 IsRoute v xs) (hs : xs.length <= 1048576) :
  Calls Tryz.prog 93 #[v] W fun e w' => ∃ A cap, e = .returned (.slice A xs.length cap) ∧ SlAt w'.heap.size w' 3 IsRoute (.slice A xs.length cap) xs ∧ (∀ lo hi, hi <= W.heap.size -> NotIn lo hi (.slice A xs.length cap)) ∧ Below W.heap.size W w' := by
 obtain ⟨cs, hr, hf⟩ := SlAt.row h (fun cs x hx => oneRoute cs x hx)
 refine (clone_routes W hr hs).mono fun e w' ⟨v', he, how, hbw⟩ => ?_
 have hs' := SlAt.own (R := IsRoute) how hf
 obtain ⟨A, cap, rfl, h0⟩ := id hs'
 exact ⟨A, cap, he, hs', fun lo hi hh => own_notIn how hh, hbw⟩
theorem copy_links {v : Value} {xs : List Lk} (W : World) (h : SlAt W.heap.size W 4 IsLk v xs) (hs : xs.length <= 1048576) :
  Calls Tryz.prog 90 #[v] W fun e w' => ∃ A cap, e = .returned (.slice A xs.length cap) ∧ SlAt w'.heap.size w' 4 IsLk (.slice A xs.length cap) xs ∧ (∀ lo hi, hi <= W.heap.size -> NotIn lo hi (.slice A xs.length cap)) ∧ Below W.heap.size W w' := by
 obtain ⟨cs, hr, hf⟩ := SlAt.row h (fun cs x hx => oneLk cs x hx)
 refine (clone_links W hr hs).mono fun e w' ⟨v', he, how, hbw⟩ => ?_
 have hs' := SlAt.own (R := IsLk) how hf
 obtain ⟨A, cap, rfl, h0⟩ := id hs'
 exact ⟨A, cap, he, hs', fun lo hi hh => own_notIn how hh, hbw⟩
structure Small (ds : List Dv) (ls : List Lk) : Prop where
 nd : ds.length <= 1048576
 nl : ls.length <= 1048576
 backs : ∀ d ∈ ds, d.backs.length <= 1048576
 rules : ∀ d ∈ ds, d.rules.length <= 1048576
 routes : ∀ d ∈ ds, d.routes.length <= 1048576
theorem NotB.of {k : Nat} {v : Value} (h : ∀ lo hi, hi <= k + 1 -> NotIn lo hi v) : NotB k v := (h 0 (k + 1) (Nat.le_refl _)).b (Nat.zero_le _) (Nat.lt_succ_self _)
section
variable {w w' : World} {B e size n : Nat} {v : Value} {xs : List Value}
theorem own_belowS (h : w.ownsRow B e size v n xs) (hb : Below w.heap.size w w') : w'.ownsRow B e size v n xs := own_keptS h (KeptBS.of_below hb) (fun g _ => by simp)
theorem own_newS (w : World) (u : Value) (e : TypeId) (hB : B <= w.heap.size) : (w.alloc (.cells #[u] e)).ownsRow B e 1 (.slice (some ⟨w.heap.size, 0, none⟩) 1 1) 1 [u] :=
 ⟨rfl, Or.inr ⟨w.heap.size, 1, #[u], rfl, hB, Go.Deep.blk_alloc_new w _, Nat.le_refl _, by unfold maxLen; omega, rfl, rfl⟩⟩
theorem own_shape (h : w.ownsRow B e size v n xs) (hn : n ≠ 0) : ∃ g cap, v = .slice (some ⟨g, 0, none⟩) n cap ∧ B <= g ∧ g < w.heap.size ∧ n <= cap ∧ cap <= maxLen ∧ (∀ j, w.frozen? ⟨g, j, none⟩ = false) ∧ ∀ j u, xs[j]? = some u -> w.cell? ⟨g, j, none⟩ = some u := by
 obtain ⟨hl, ⟨_, h0⟩ | ⟨g, cap, cur, rfl, hB, hg, h1, h2, h3, h4⟩⟩ := h
 ·exact absurd h0 hn
 refine ⟨g, cap, rfl, hB, (Array.getElem?_eq_some_iff.1 hg).1, h1, h2, fun j => by simp [World.frozen?, hg], fun j u hj => ?_⟩
 rw [<- h4] at hj
 have := List.getElem?_take (l := cur.toList) (i := n * size) (j := j)
 rw [hj] at this
 simp only [World.cell?, hg]
 split at this
 ·simpa using this.symm
 ·cases this
theorem own_nil (B e size : Nat) : w.ownsRow B e size (.slice none 0 0) 0 [] := ⟨by simp, Or.inl ⟨rfl, rfl⟩⟩
theorem own_slice (h : w.ownsRow B e size v n xs) : ∃ A cap, v = .slice A n cap := by
 obtain ⟨_, ⟨rfl, rfl⟩ | ⟨g, cap, _, rfl, _⟩⟩ := h
 ·exact ⟨none, 0, rfl⟩
 ·exact ⟨_, cap, rfl⟩
end
def intsS (f : List Int) : List Value := f.map (Value.int .i64)
theorem intsS_at {f : List Int} {k : Nat} {x : Int} (h : f[k]? = some x) : (intsS f)[k]? = some (.int .i64 x) := by simp [intsS, h]
theorem intsS_add (f : List Int) (x : Int) : intsS (f ++ [x]) = intsS f ++ [.int .i64 x] := by simp [intsS]
theorem own_ints {w : World} {B e : Nat} {v : Value} {f : List Int} (h : w.ownsRow B e 1 v f.length (intsS f)) : SlAt w.heap.size w 1 IsI v f :=
 SlAt.own h fun k x hk => by
  show _ = _
  rw [Nat.mul_one, List.drop_eq_getElem_cons (by simp [intsS]; exact (List.getElem?_eq_some_iff.1 hk).1)]
  have := intsS_at hk
  rw [List.getElem?_eq_some_iff] at this
  obtain ⟨_, e⟩ := this
  simp [e]
structure SAr (w : World) (vd vl v : Value) (f : List Int) (W : World) : Prop where
 be : Below w.heap.size w W
 bN : Bk W w.heap.size #[vd, vl] 25
 row : W.ownsRow (w.heap.size + 1) 3 1 v f.length (intsS f)
section
variable {w W W' : World} {vd vl v : Value} {f : List Int}
theorem SAr.below (h : SAr w vd vl v f W) (hb : Below W.heap.size W W') : SAr w vd vl v f W' := ⟨chain hb h.be, Bk.keep hb h.bN, own_belowS h.row hb⟩
theorem SAr.size (h : SAr w vd vl v f W) : w.heap.size < W.heap.size := h.bN.lt
theorem uIntsS : Tryz.prog.underlying 66 = some (.slice 3) := by kernel_rfl
theorem infoIntS : (Tryz.prog.info? 3).map (fun i => (i.zero, i.size, i.bytes)) = some (some (.int .i64 0), 1, 8) := by kernel_rfl
theorem SAr.app (h : SAr w vd vl v f W) (x : Int) (hn : f.length <= 100) :
  ∃ g cap W1, (Builtin.append_ #[66, 66] 66 #[v, .slice (some ⟨W.heap.size, 0, none⟩) 1 1]).run Tryz.prog (W.alloc (.cells #[.int .i64 x] 3)) = .ok (.slice (some ⟨g, 0, none⟩) (f.length + 1) cap) W1 ∧ SAr w vd vl (.slice (some ⟨g, 0, none⟩) (f.length + 1) cap) (f ++ [x]) W1 := by
 obtain ⟨v', W1, hr, h1, h2, h3, _⟩ := app_elS uIntsS infoIntS rfl (by omega) (by omega) 66 h.row (us := [.int .i64 x]) rfl (by simp [Value.oneCell']) (by omega) h.size
 obtain ⟨g, cap, rfl, _⟩ := own_shape h1 (by omega)
 refine ⟨g, cap, W1, hr, ⟨?_, ?_, by rw [List.length_append, intsS_add]; exact h1⟩⟩
 ·exact h.be.trans (h2.mono (by omega))
 ·exact (h2.block _ (by omega)).trans h.bN
end
end Go.Proofs.YtmcklkkkkigflaaGreat
namespace Go.Proofs
open Go.Shelf
def Tryz.lays189_ren : Go.Shelf.Ren := ⟨fun | 189 => 60 | 125 => 86 | 257 => 85 | 128 => 122 | 129 => 123 | 294 => 114 | 295 => 115 | 296 => 116 | 297 => 117 | 298 => 118 | 299 => 119 | 216 => 87 | 300 => 120 | 301 => 121 | 328 => 138 | 329 => 139 | 330 => 140 | 331 => 141 | 332 => 142 | 215 => 124 | 343 => 147 | n => n, fun | 28 => 66 | 3 => 3 | 46 => 157 | 0 => 0 | 51 => 182 | 53 => 184 | 4 => 4 | 183 => 176 | 182 => 175 | 131 => 130 | 5 => 5 | 9 => 9 | 218 => 190 | 222 => 194 | 228 => 199 | 229 => 200 | n => n, fun | n => n⟩
theorem Tryz.lays189 : Go.Proofs.Lays.n189 Tryz.prog Tryz.lays189_ren := {
 mixed := by kernel_rfl
 f125 := Tryz.func86.trans (congrArg some (by kernel_rfl))
 f128 := Tryz.func122.trans (congrArg some (by kernel_rfl))
 f129 := Tryz.func123.trans (congrArg some (by kernel_rfl))
 f189 := Tryz.func60.trans (congrArg some (by kernel_rfl))
 f215 := Tryz.func124.trans (congrArg some (by kernel_rfl))
 f216 := Tryz.func87.trans (congrArg some (by kernel_rfl))
 f257 := Tryz.func85.trans (congrArg some (by kernel_rfl))
 f294 := Tryz.func114.trans (congrArg some (by kernel_rfl))
 f295 := Tryz.func115.trans (congrArg some (by kernel_rfl))
 f296 := Tryz.func116.trans (congrArg some (by kernel_rfl))
 f297 := Tryz.func117.trans (congrArg some (by kernel_rfl))
 f298 := Tryz.func118.trans (congrArg some (by kernel_rfl))
 f299 := Tryz.func119.trans (congrArg some (by kernel_rfl))
 f300 := Tryz.func120.trans (congrArg some (by kernel_rfl))
 f301 := Tryz.func121.trans (congrArg some (by kernel_rfl))
 f328 := Tryz.func138.trans (congrArg some (by kernel_rfl))
 f329 := Tryz.func139.trans (congrArg some (by kernel_rfl))
 f330 := Tryz.func140.trans (congrArg some (by kernel_rfl))
 f331 := Tryz.func141.trans (congrArg some (by kernel_rfl))
 f332 := Tryz.func142.trans (congrArg some (by kernel_rfl))
 f343 := Tryz.func147.trans (congrArg some (by kernel_rfl))
 t0 := Tryz.underlying0
 a0 := Tryz.isAgg0
 z0 := Tryz.sizeOf0
 v0 := Tryz.zeroValue0
 t3 := Tryz.underlying3
 a3 := Tryz.isAgg3
 z3 := Tryz.sizeOf3
 v3 := Tryz.zeroValue3
 t4 := Tryz.underlying4
 a4 := Tryz.isAgg4
 z4 := Tryz.sizeOf4
 v4 := Tryz.zeroValue4
 t5 := Tryz.underlying5
 a5 := Tryz.isAgg5
 z5 := Tryz.sizeOf5
 v5 := Tryz.zeroValue5
 t9 := Tryz.underlying9
 a9 := Tryz.isAgg9
 z9 := Tryz.sizeOf9
 v9 := Tryz.zeroValue9
 t28 := Tryz.underlying66
 a28 := Tryz.isAgg66
 z28 := Tryz.sizeOf66
 v28 := Tryz.zeroValue66
 t46 := Tryz.underlying157
 a46 := Tryz.isAgg157
 z46 := Tryz.sizeOf157
 v46 := Tryz.zeroValue157
 t51 := Tryz.underlying182
 a51 := Tryz.isAgg182
 z51 := Tryz.sizeOf182
 v51 := Tryz.zeroValue182
 t53 := Tryz.underlying184
 a53 := Tryz.isAgg184
 z53 := Tryz.sizeOf184
 v53 := Tryz.zeroValue184
 t131 := Tryz.underlying130
 a131 := Tryz.isAgg130
 z131 := Tryz.sizeOf130
 v131 := Tryz.zeroValue130
 t182 := Tryz.underlying175
 a182 := Tryz.isAgg175
 z182 := Tryz.sizeOf175
 v182 := Tryz.zeroValue175
 t183 := Tryz.underlying176
 a183 := Tryz.isAgg176
 z183 := Tryz.sizeOf176
 v183 := Tryz.zeroValue176
 t218 := Tryz.underlying190
 a218 := Tryz.isAgg190
 z218 := Tryz.sizeOf190
 v218 := Tryz.zeroValue190
 t222 := Tryz.underlying194
 a222 := Tryz.isAgg194
 z222 := Tryz.sizeOf194
 v222 := Tryz.zeroValue194
 t228 := Tryz.underlying199
 a228 := Tryz.isAgg199
 z228 := Tryz.sizeOf199
 v228 := Tryz.zeroValue199
 t229 := Tryz.underlying200
 a229 := Tryz.isAgg200
 z229 := Tryz.sizeOf200
 v229 := Tryz.zeroValue200 }
open Go.Sort Go.RowKit in
theorem Tryz.slices_Sort_int (blk off cap : Nat) (zs : List Int) (w : World) (hH : Holds (Value.int .i64) w blk off zs.toArray) (hblk : blk < w.heap.size) (hsz : zs.length < 4611686018427387904) :
  Calls Tryz.prog 60 #[.slice (some ⟨blk, off, none⟩) zs.length cap] w fun e w' =>
   e = .returned (.tuple #[]) ∧ ∃ n os, w' = grow (putRow (Value.int .i64) (Sort.ahead w n) blk off (zs.mergeSort fun x y => decide (x <= y)).toArray) os := Any.slices_Sort_int Tryz.lays189 blk off cap zs w hH hblk hsz
def Tryz.laysNm225_ren : Go.Shelf.Ren := ⟨fun | 25 => 61 | 31 => 87 | 32 => 88 | 37 => 124 | n => n, fun | 22 => 66 | 3 => 3 | 4 => 4 | 40 => 157 | 0 => 0 | n => n, fun | n => n⟩
theorem Tryz.laysNm225 : Go.Proofs.Lays2.n25 Tryz.prog Tryz.laysNm225_ren := {
 mixed := by kernel_rfl
 f25 := Tryz.func61.trans (congrArg some (by kernel_rfl))
 f31 := Tryz.func87.trans (congrArg some (by kernel_rfl))
 f32 := Tryz.func88.trans (congrArg some (by kernel_rfl))
 f37 := Tryz.func124.trans (congrArg some (by kernel_rfl))
 t0 := Tryz.underlying0
 a0 := Tryz.isAgg0
 z0 := Tryz.sizeOf0
 v0 := Tryz.zeroValue0
 t3 := Tryz.underlying3
 a3 := Tryz.isAgg3
 z3 := Tryz.sizeOf3
 v3 := Tryz.zeroValue3
 t4 := Tryz.underlying4
 a4 := Tryz.isAgg4
 z4 := Tryz.sizeOf4
 v4 := Tryz.zeroValue4
 t22 := Tryz.underlying66
 a22 := Tryz.isAgg66
 z22 := Tryz.sizeOf66
 v22 := Tryz.zeroValue66
 t40 := Tryz.underlying157
 a40 := Tryz.isAgg157
 z40 := Tryz.sizeOf157
 v40 := Tryz.zeroValue157 }
open Go.RowKit Go.Lib in
theorem Tryz.slices_BinarySearch_int (b off n c : Nat) (zs : List Int) (x : Int) (w : World) (hz : n <= zs.length) (hbig : n < 4611686018427387904) (hc : ∀ j, j < zs.length -> w.cell? ⟨b, off + j, none⟩ = some (.int .i64 (zs.getD j 0))) (hs : (zs.take n).Pairwise (· <= ·)) :
  Calls Tryz.prog 61 #[.slice (some ⟨b, off, none⟩) n c, .int .i64 x] w fun e w' => e = .returned (.tuple #[.int .i64 ((zs.take n).countP (· < x) : Nat), .bool ((zs.take n).contains x)]) ∧ ∃ q, w' = w.drewN q := Any.slices_BinarySearch_int Tryz.laysNm225 b off n c zs x w hz hbig hc hs
end Go.Proofs
namespace Go.Proofs.YtmcklkkkkigflaaGreat
open Go.RowKit Go.Maps
theorem sort_own {w : World} {B g c : Nat} {f : List Int} (h : w.ownsRow B 3 1 (.slice (some ⟨g, 0, none⟩) f.length c) f.length (intsS f)) (hlt : f.length < 1000) :
  Calls Tryz.prog 60 #[.slice (some ⟨g, 0, none⟩) f.length c] w fun e w' => e = .returned (.tuple #[]) ∧ w'.ownsRow B 3 1 (.slice (some ⟨g, 0, none⟩) f.length c) f.length (intsS (f.mergeSort fun x y => decide (x <= y))) ∧ Below B w w' := by
 obtain ⟨hl, ⟨h0, _⟩ | ⟨g', cap, cur, h0, hB, hg, h1, h2, h3, h4⟩⟩ := h
 ·cases h0
 cases h0
 have hgl : g < w.heap.size := (Array.getElem?_eq_some_iff.1 hg).1
 have hcu : ∀ j, j < f.length -> cur[j]? = some (.int .i64 (f.getD j 0)) := fun j hj => by
  have e1 : (cur.toList.take (f.length * 1))[j]? = (intsS f)[j]? := by rw [h4]
  rw [List.getElem?_take, if_pos (by omega)] at e1
  rw [<- Array.getElem?_toList, e1, intsS_at (x := f.getD j 0) (by rw [List.getD_eq_getElem?_getD, List.getElem?_eq_getElem hj]; rfl)]
 have hH : Go.Sort.Holds (Value.int .i64) w g 0 f.toArray := fun j hj => by
  have hj' : j < f.length := by simpa using hj
  refine ⟨?_, by simp [World.frozen?, hg]⟩
  simp only [World.cell?, hg, Nat.zero_add]
  have := hcu j hj'
  rw [List.getD_eq_getElem?_getD, List.getElem?_eq_getElem hj'] at this
  simp [this, hj']
 refine (Tryz.slices_Sort_int g 0 c f w hH hgl (by omega)).mono fun e w' ⟨h5, n, os, h6⟩ => ⟨h5, ?_⟩
 have hys : (f.mergeSort fun x y => decide (x <= y)).length = f.length := List.length_mergeSort f
 generalize (f.mergeSort fun x y => decide (x <= y)) = ys at h6 hys ⊢
 subst h6
 have hh : ∀ k, k < w.heap.size -> (Go.Sort.grow (Go.Sort.putRow (Value.int .i64) (Go.Sort.ahead w n) g 0 ys.toArray) os).heap[k]? = if g = k then some (.cells (Go.Sort.putCells (Value.int .i64) 0 ys.toArray cur) 3 (0, 0)) else w.heap[k]? := fun k hk => by
  have : k < (Go.Sort.putRow (Value.int .i64) (Go.Sort.ahead w n) g 0 ys.toArray).heap.size := by simpa [Go.Sort.putRow, Go.Sort.mapBlock, Go.Sort.ahead] using hk
  simp only [Go.Sort.grow]
  rw [Array.getElem?_append_left this]
  simp only [Go.Sort.putRow, Go.Sort.mapBlock, Go.Sort.ahead, Array.getElem?_modify]
  split
  ·rename_i e
   subst e
   rw [hg]
   rfl
  ·rfl
 refine ⟨⟨by simp [intsS, hys], Or.inr ⟨g, c, Go.Sort.putCells (Value.int .i64) 0 ys.toArray cur, rfl, hB, ?_, h1, h2, by simp [Go.Sort.putCells]; omega, ?_⟩⟩, ?_⟩
 ·rw [hh g hgl, if_pos rfl]
 ·apply List.ext_getElem?
  intro j
  rw [List.getElem?_take]
  split
  ·rename_i hj
   have hj' : j < f.length := by omega
   rw [Array.getElem?_toList]
   simp only [Go.Sort.putCells, Array.getElem?_mapIdx, hcu j hj', Option.map_some]
   rw [if_pos ⟨by omega, by simp; omega⟩]
   simp [intsS, hys, hj']
  ·rw [List.getElem?_eq_none (by simp [intsS]; omega)]
 ·refine ⟨rfl, rfl, rfl, ?_, fun k hk => ?_⟩
  ·simp [Go.Sort.grow, Go.Sort.putRow, Go.Sort.mapBlock, Go.Sort.ahead]
  ·rw [hh k (by omega), if_neg (by omega)]
theorem around_any (A B : Option Addr) (cap cap' : Nat) (ds : List Dv) (ls : List Lk) (s : Nat) (w : World) (hz : Hid (netV ds ls = 0)) (hs : s < ds.length) (hD : Hid (Devs w.heap.size w (.slice A ds.length cap) ds)) (hL : Hid (Links w.heap.size w (.slice B ls.length cap') ls)) :
  Calls Tryz.prog 43 #[.agg #[.slice A ds.length cap, .slice B ls.length cap'], .int .i64 (s : Int)] w fun e w' => ∃ g c, e = .returned (.slice (some ⟨g, 0, none⟩) (wholeF ds ls s).length c) ∧ w'.ownsRow w.heap.size 3 1 (.slice (some ⟨g, 0, none⟩) (wholeF ds ls s).length c) (wholeF ds ls s).length (intsS (wholeF ds ls s)) ∧ Below w.heap.size w w' := by
 obtain ⟨b0, o0, _, _, _, rfl, hb0, -⟩ := hD.out.at (List.getElem?_eq_getElem hs)
 have h10 : ds.length <= 10 := (netV_links hz.out).1
 have hcap := hD.out.len.2
 unfold maxLen at hcap
 have V0 : SAr w (.slice (some ⟨b0, o0, none⟩) ds.length cap) (.slice B ls.length cap') (.slice (some ⟨w.heap.size + 1, 0, none⟩) 1 1) [(s : Int)] ((w.alloc (.cells #[.slice (some ⟨b0, o0, none⟩) ds.length cap, .slice B ls.length cap'] 25)).alloc (.cells #[.int .i64 (s : Int)] 3)) := by
  refine ⟨Below.alloc' (Below.alloc' (Below.refl _ _) _) _, (bk_new _ _ _).alloc _, ?_⟩
  have := own_newS (B := w.heap.size + 1) (w.alloc (.cells #[.slice (some ⟨b0, o0, none⟩) ds.length cap, .slice B ls.length cap'] 25)) (.int .i64 (s : Int)) 3 (by simp)
  simpa [intsS] using this
 have VN : Hid (∀ v f W, SAr w (.slice (some ⟨b0, o0, none⟩) ds.length cap) (.slice B ls.length cap') v f W -> w.heap.size < W.heap.size ∧ W.cell? ⟨w.heap.size, 0, none⟩ = some (.slice (some ⟨b0, o0, none⟩) ds.length cap) ∧ W.cell? ⟨w.heap.size, 1, none⟩ = some (.slice B ls.length cap')) := fun v f W h => ⟨h.size, h.bN.two.1, h.bN.two.2⟩
 have VP : Hid (∀ v f W (d p : Int), SAr w (.slice (some ⟨b0, o0, none⟩) ds.length cap) (.slice B ls.length cap') v f W -> Calls Tryz.prog 48 #[.agg #[.slice (some ⟨b0, o0, none⟩) ds.length cap, .slice B ls.length cap'], plA d p] W fun e w' => e = .returned (.tuple #[placeV (peerF ls d p), .bool (peerF ls d p).isSome]) ∧ SAr w (.slice (some ⟨b0, o0, none⟩) ds.length cap) (.slice B ls.length cap') v f w') := fun v f W d p h =>
  (peer_any _ _ _ _ ls d p W ((hL.out.below h.be).mono h.be.size)).mono fun e w' ⟨h1, h2⟩ => ⟨h1, h.below h2⟩
 have VL : Hid (∀ v f W o, SAr w (.slice (some ⟨b0, o0, none⟩) ds.length cap) (.slice B ls.length cap') v f W -> SAr w (.slice (some ⟨b0, o0, none⟩) ds.length cap) (.slice B ls.length cap') v f (W.alloc o)) := fun v f W o h => h.below (Below.alloc' (Below.refl _ _) _)
 have VC : Hid (∀ g c f W W' (x : Int), SAr w (.slice (some ⟨b0, o0, none⟩) ds.length cap) (.slice B ls.length cap') (.slice (some ⟨g, 0, none⟩) f.length c) f W -> W' = W -> Calls Tryz.prog 59 #[.slice (some ⟨g, 0, none⟩) f.length c, .int .i64 x] W' fun e w' => e = .returned (.bool (f.any (fun y => y == x))) ∧ w' = W) := fun g c f W W' x h e => by
  subst e
  exact containsI_any _ _ _ f x _ W' (own_ints h.row)
 have VA : Hid (∀ v f W (x : Int), SAr w (.slice (some ⟨b0, o0, none⟩) ds.length cap) (.slice B ls.length cap') v f W -> f.length <= 100 -> ∃ g cq W1, (Builtin.append_ #[66, 66] 66 #[v, .slice (some ⟨W.heap.size, 0, none⟩) 1 1]).run Tryz.prog (W.alloc (.cells #[.int .i64 x] 3)) = .ok (.slice (some ⟨g, 0, none⟩) (f.length + 1) cq) W1 ∧ SAr w (.slice (some ⟨b0, o0, none⟩) ds.length cap) (.slice B ls.length cap') (.slice (some ⟨g, 0, none⟩) (f.length + 1) cq) (f ++ [x]) W1) := fun v f W x h hn => h.app x hn
 have VS : Hid (∀ g c f W, SAr w (.slice (some ⟨b0, o0, none⟩) ds.length cap) (.slice B ls.length cap') (.slice (some ⟨g, 0, none⟩) f.length c) f W -> f.length ≠ 0 -> f.length <= c ∧ c <= 2 ^ 63 - 1 ∧ g < W.heap.size ∧ ∀ j x, f[j]? = some x -> W.cell? ⟨g, j, none⟩ = some (.int .i64 x)) := fun g c f W h hn => by
  obtain ⟨g', c', h1, _, hg, h2, h3, _, h4⟩ := own_shape h.row hn
  cases h1
  exact ⟨h2, h3, hg, fun j x hj => h4 j _ (intsS_at hj)⟩
 have VD : Hid (∀ v f W, SAr w (.slice (some ⟨b0, o0, none⟩) ds.length cap) (.slice B ls.length cap') v f W -> ∀ j d, ds[j]? = some d -> W.cell? ⟨b0, o0 + j * 7 + 1, none⟩ = some (.int .i64 d.kind) ∧ b0 < W.heap.size) := fun v f W h j d hj => by
  obtain ⟨b, o, _, _, _, e, hb, _, _, _, _, c1, _⟩ := (hD.out.below h.be).at hj
  cases e
  exact ⟨c1, Nat.lt_of_lt_of_le hb0 h.be.size⟩
 have VF : Hid (∀ g c f W, SAr w (.slice (some ⟨b0, o0, none⟩) ds.length cap) (.slice B ls.length cap') (.slice (some ⟨g, 0, none⟩) f.length c) f W -> f.length <= 10 -> Calls Tryz.prog 60 #[.slice (some ⟨g, 0, none⟩) f.length c] W fun e w' => e = .returned (.tuple #[]) ∧ Hid (w'.ownsRow w.heap.size 3 1 (.slice (some ⟨g, 0, none⟩) f.length c) f.length (intsS (f.mergeSort fun x y => decide (x <= y))) ∧ Below w.heap.size w w')) := fun g c f W h hf =>
  (sort_own h.row (by omega)).mono fun e w' ⟨h1, h2, h3⟩ => ⟨h1, by
    obtain ⟨q1, q2⟩ := h2
    refine ⟨⟨q1, ?_⟩, h.be.trans (h3.mono (by omega))⟩
    rcases q2 with q2 | ⟨g', c', cur, e, hB, q2⟩
    ·exact Or.inl q2
    ·exact Or.inr ⟨g', c', cur, e, by omega, q2⟩⟩
 have PT : Hid (∀ (k : Int) (W : World), Calls Tryz.prog 50 #[.int .i64 k] W fun e w' => e = .returned (.int .i64 (portsV k)) ∧ w' = W) := fun k W => nports_any k W
 generalize hV : SAr w (.slice (some ⟨b0, o0, none⟩) ds.length cap) (.slice B ls.length cap') = V at *
 clear hV hD hL
 go_enter Tryz.func43, Tryz.ntmps43
 go_wp2_with fail
 go_loopw [5, 6] (fun s5 s6 wr => ∃ (i g c : Nat) (f : List Int), s5 = .slice (some ⟨g, 0, none⟩) f.length c ∧ s6 = .int .i64 (i : Int) ∧ i <= f.length ∧ f.length ≠ 0 ∧ Hid (FOk ds f) ∧ V s5 f wr ∧ Hid (aroundF ds ls (10 - i) i f = aroundF ds ls 10 0 [(s : Int)])) (fun _ s6 _ => 11 - (intOf s6).toNat)
 case atStart => exact ⟨0, _, _, [(s : Int)], rfl, rfl, by simp, by simp, FOk.one hs, by simpa using V0, rfl⟩
 case round =>
  obtain ⟨i, g, c, f, rfl, rfl, hi, hf0, hok, V1, hno⟩ := hrel
  have hfl := hok.out.len
  obtain ⟨n1, n2, n3⟩ := VN.out _ _ _ V1
  obtain ⟨q1, q2, q3, q4⟩ := VS.out _ _ _ _ V1 hf0
  by_cases hlt : i < f.length
  ·obtain ⟨d, hd⟩ : ∃ d, f[i]? = some d := ⟨_, List.getElem?_eq_getElem hlt⟩
   have q5 := q4 i d hd
   obtain ⟨d0, d1⟩ := hok.out.lt d (List.mem_of_getElem? hd)
   obtain ⟨j, rfl⟩ : ∃ j : Nat, d = (j : Int) := ⟨d.toNat, by omega⟩
   obtain ⟨dv, hdv⟩ : ∃ dv, ds[j]? = some dv := ⟨_, List.getElem?_eq_getElem (by omega)⟩
   obtain ⟨c1, hb1⟩ := VD.out _ _ _ V1 j dv hdv
   obtain ⟨P, hP, hP4⟩ := portsV_nat dv.kind
   have hK : Hid (aroundF ds ls (10 - i) i f = aroundF ds ls (10 - (i + 1)) (i + 1) (portsF ls (j : Int) P f)) := by
    rw [show 10 - i = (10 - (i + 1)) + 1 by omega]
    show _ = _
    rw [aroundF_step hd]
    have e : kindAt ds (j : Int) = dv.kind := by simp [kindAt, hdv]
    rw [e, hP]
    rfl
   have PT2 : Hid (∀ W : World, Calls Tryz.prog 50 #[.int .i64 dv.kind] W fun e w' => e = .returned (.int .i64 (P : Int)) ∧ w' = W) := fun W => by rw [<- hP]; exact PT.out _ W
   have i1 : (0 : Int) <= (i : Int) := by omega
   have i2 : (i : Int) < (f.length : Int) := by omega
   have j1 : (0 : Int) <= (j : Int) := by omega
   have j2 : (j : Int) < (ds.length : Int) := by omega
   clear q4 hP PT hdv hd d0 d1
   go_wp2_with (go_at_call 50; refine (PT2.out _).mono ?_; rintro e w' ⟨rfl, rfl⟩)
   go_loopw [5, 30] (fun s5 s30 wr => ∃ (k g c : Nat) (q : List Int), s5 = .slice (some ⟨g, 0, none⟩) q.length c ∧ s30 = .int .i64 (k : Int) ∧ k <= P ∧ q.length ≠ 0 ∧ V s5 q wr ∧ Hid (q = portsF ls (j : Int) k f)) (fun _ s30 _ => P - (intOf s30).toNat)
   case atStart => exact ⟨0, _, _, f, rfl, rfl, by omega, hf0, V1, rfl⟩
   case round =>
    obtain ⟨k, g2, c2, q, rfl, rfl, hk, hq0, V2, hq⟩ := hrel
    have hq10 : q.length <= 10 := by
     have := (FOk.portsF hz.out (j : Int) k hok.out).len
     rw [<- hq.out] at this
     omega
    obtain ⟨m1, m2, m3⟩ := VN.out _ _ _ V2
    by_cases hkP : k < P
    ·have PE := VP.out _ _ _ (j : Int) (k : Int) V2
     have HS : Hid (portsF ls (j : Int) (k + 1) f = addFo q (peerF ls (j : Int) (k : Int))) := by
      show _ = _
      rw [hq.out]
      rfl
     clear n1 n2 n3 q1 q2 q3 q5 c1 hb1 V1 V0
     cases hp : peerF ls (j : Int) (k : Int) with
     | none =>
       rw [hp] at PE HS
       have PE : Hid (Calls Tryz.prog 48 #[.agg #[.slice (some ⟨b0, o0, none⟩) ds.length cap, .slice B ls.length cap'], plA (j : Int) (k : Int)] wr fun e w' => e = .returned (.tuple #[.agg #[.int .i64 0, .int .i64 0], .bool false]) ∧ V (.slice (some ⟨g2, 0, none⟩) q.length c2) q w') := PE
       clear hp
       go_wp2_with (go_at_call 48; refine PE.out.mono ?_; rintro e w' ⟨rfl, V3⟩)
       go_roundw
       case rel => exact ⟨k + 1, g2, c2, q, rfl, by go_num, by omega, hq0, VL.out _ _ _ _ V3, HS.out.symm⟩
       case measure => simp [intOf]; omega
     | some x =>
       rw [hp] at PE HS
       obtain ⟨x1, x2⟩ := x
       have PE : Hid (Calls Tryz.prog 48 #[.agg #[.slice (some ⟨b0, o0, none⟩) ds.length cap, .slice B ls.length cap'], plA (j : Int) (k : Int)] wr fun e w' => e = .returned (.tuple #[.agg #[.int .i64 x1, .int .i64 x2], .bool true]) ∧ V (.slice (some ⟨g2, 0, none⟩) q.length c2) q w') := PE
       clear hp
       cases ha : q.any (fun y => y == x1) with
       | true =>
         have CT : Hid (∀ W W', V (.slice (some ⟨g2, 0, none⟩) q.length c2) q W -> W' = W -> Calls Tryz.prog 59 #[.slice (some ⟨g2, 0, none⟩) q.length c2, .int .i64 x1] W' fun e w' => e = .returned (.bool true) ∧ w' = W) := fun W W' h e => by
          have := VC.out _ _ _ W W' x1 h e
          rw [ha] at this
          exact this
         go_wp2_with (first | (go_at_call 48; refine PE.out.mono ?_; rintro e w' ⟨rfl, V3⟩) | (go_at_call 59; refine (CT.out _ _ (VL.out _ _ _ _ V3) rfl).mono ?_; rintro e w' ⟨rfl, rfl⟩))
         go_roundw
         case rel => exact ⟨k + 1, g2, c2, q, rfl, by go_num, by omega, hq0, VL.out _ _ _ _ V3, (by show _ = _; rw [HS.out]; simp [addFo, ha])⟩
         case measure => simp [intOf]; omega
       | false =>
         have CT : Hid (∀ W W', V (.slice (some ⟨g2, 0, none⟩) q.length c2) q W -> W' = W -> Calls Tryz.prog 59 #[.slice (some ⟨g2, 0, none⟩) q.length c2, .int .i64 x1] W' fun e w' => e = .returned (.bool false) ∧ w' = W) := fun W W' h e => by
          have := VC.out _ _ _ W W' x1 h e
          rw [ha] at this
          exact this
         have HS2 : Hid (q ++ [x1] = portsF ls (j : Int) (k + 1) f) := by
          show _ = _
          rw [HS.out]
          simp [addFo, ha]
         clear HS ha
         go_upto_region 11 with (first | (go_at_call 48; refine PE.out.mono ?_; rintro e w' ⟨rfl, V3⟩) | (go_at_call 59; refine (CT.out _ _ (VL.out _ _ _ _ V3) rfl).mono ?_; rintro e w' ⟨rfl, rfl⟩))
         obtain ⟨g4, c4, W4, hrun, V4⟩ := VA.out _ _ _ x1 (VL.out _ _ _ (.cells #[.int .i64 x1, .int .i64 x2] 54) V3) (by omega)
         simp only [World.size_alloc] at hrun
         iterate 13 go_step
         refine wpList_append_runS rfl _ _ 66 rfl _ _ _ _ rfl rfl hrun ?_
         simp only [Act.put, List.setIfInBounds_toArray, List.set_cons_zero, List.set_cons_succ]
         have hl2 : q.length + 1 = (q ++ [x1]).length := by simp
         rw [hl2] at V4 ⊢
         clear hrun
         go_wp2_with fail
         go_roundw
         case rel => exact ⟨k + 1, g4, c4, q ++ [x1], rfl, by go_num, by omega, by simp, V4, HS2⟩
         case measure => simp [intOf]; omega
    ·have hkE : k = P := by omega
     subst hkE
     clear n1 n2 n3 q1 q2 q3 q5 c1 hb1 V1 V0
     have hno2 : Hid (aroundF ds ls (10 - (i + 1)) (i + 1) q = aroundF ds ls 10 0 [(s : Int)]) := by
      show _ = _
      rw [hq.out, <- hK.out]
      exact hno.out
     have hok2 : Hid (FOk ds q) := by
      show FOk ds q
      rw [hq.out]
      exact FOk.portsF hz.out _ _ hok.out
     have hle : i + 1 <= q.length := by
      have := portsF_len (ls := ls) (j : Int) k f
      rw [<- hq.out] at this
      omega
     clear hno hok hq hK
     go_wp2_with fail
     go_roundw
     case rel => exact ⟨i + 1, g2, c2, q, rfl, by go_num, hle, hq0, hok2, V2, hno2⟩
     case measure => simp [intOf]; omega
  ·have hie : i = f.length := by omega
   have hFin : Hid (wholeF ds ls (s : Int) = f.mergeSort fun x y => decide (x <= y)) := by
    show _ = _
    rw [wholeF, <- hno.out, aroundF_end (by omega)]
   have SO := VF.out _ _ _ _ V1 (by omega)
   have hW : (wholeF ds ls (s : Int)).length = f.length := by rw [hFin.out, List.length_mergeSort]
   have hng : ¬ (i : Int) < (f.length : Int) := by omega
   clear hno q4
   go_wp2_with (go_at_call 60; refine SO.mono ?_; rintro e w' ⟨rfl, hS⟩)
   go_ret
   refine ⟨g, c, by rw [hW]; rfl, ?_, hS.out.2⟩
   rw [hW, hFin.out]
   exact hS.out.1
end Go.Proofs.YtmcklkkkkigflaaGreat
