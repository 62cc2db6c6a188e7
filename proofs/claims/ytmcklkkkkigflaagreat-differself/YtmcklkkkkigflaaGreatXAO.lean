/-
  XAO.
-/
import Derived.Test.YtmcklkkkkigflaaGreatXAN
import Derived.Test.YtmcklkkkkigflaaGreatXAL
import Derived.Test.YtmcklkkkkigflaaGreatLy
import Derived.Test.YtmcklkkkkigflaaGreatXAM
set_option maxHeartbeats 8000000
set_option maxRecDepth 100000
namespace Go.Proofs.YtmcklkkkkigflaaGreat
open Go.RowKit Go.Maps
theorem below_drewN (W : World) (q : Nat) : Below W.heap.size W (W.drewN q) := ⟨rfl, rfl, rfl, Nat.le_refl _, fun _ _ => rfl⟩
theorem below_drew (W : World) : Below W.heap.size W W.drew := ⟨rfl, rfl, rfl, Nat.le_refl _, fun _ _ => rfl⟩
def DvC (w : World) (gs : List Dv) (cs : List Value) : Prop := cs.length = gs.length * 7 ∧ ∀ k d, gs[k]? = some d -> IsDv w.heap.size w ((cs.drop (k * 7)).take 7) d
theorem DvC.nil (w : World) : DvC w [] [] := ⟨rfl, fun k d h => by simp at h⟩
theorem IsDv.len {base : Nat} {w : World} {cs : List Value} {d : Dv} (h : IsDv base w cs d) : cs.length = 7 := by
 obtain ⟨_, _, _, rfl, _⟩ := h
 rfl
theorem DvC.app {w : World} {gs : List Dv} {cs us : List Value} {d : Dv} (h : DvC w gs cs) (hd : IsDv w.heap.size w us d) : DvC w (gs ++ [d]) (cs ++ us) := by
 have hu := hd.len
 refine ⟨by rw [List.length_append, List.length_append, h.1, hu, List.length_singleton]; omega, fun k x hk => ?_⟩
 by_cases hkl : k < gs.length
 ·rw [List.getElem?_append_left hkl] at hk
  have := h.2 k x hk
  have e : ((cs ++ us).drop (k * 7)).take 7 = (cs.drop (k * 7)).take 7 := by
   rw [List.drop_append_of_le_length (by rw [h.1]; omega), List.take_append_of_le_length (by rw [List.length_drop, h.1]; omega)]
  rw [e]
  exact this
 ·rw [List.getElem?_append_right (by omega)] at hk
  have hk0 : k - gs.length = 0 := by
   rcases Nat.eq_zero_or_pos (k - gs.length) with h0 | h0
   ·exact h0
   ·rw [List.getElem?_eq_none (by simp; omega)] at hk
    cases hk
  rw [hk0] at hk
  cases hk
  have e : ((cs ++ us).drop (k * 7)).take 7 = us := by
   rw [show k * 7 = cs.length by rw [h.1]; omega, List.drop_left, List.take_of_length_le (by omega)]
  rw [e]
  exact hd
def linkS (l : Lk) : List Value := [.int .i64 l.a, .int .i64 l.p, .int .i64 l.b, .int .i64 l.q]
def linksS (ls : List Lk) : List Value := ls.flatMap linkS
theorem linksS_at : ∀ (ls : List Lk) (k : Nat) (l : Lk), ls[k]? = some l -> ((linksS ls).drop (k * 4)).take 4 = linkS l
 | [], k, l, h => by simp at h
 | x :: ls, 0, l, h => by
   simp at h
   subst h
   simp [linksS, linkS]
 | x :: ls, k + 1, l, h => by
   have h1 := linksS_at ls k l (by simpa using h)
   have e : linksS (x :: ls) = linkS x ++ linksS ls := by simp [linksS]
   rw [e, show (k + 1) * 4 = (linkS x).length + k * 4 by simp [linkS]; omega, <- List.drop_drop, List.drop_left]
   exact h1
theorem linksS_add (ls : List Lk) (l : Lk) : linksS (ls ++ [l]) = linksS ls ++ linkS l := by simp [linksS]
structure SOn (w : World) (vd vl vm vk : Value) (gs : List Dv) (ms : List Lk) (W : World) : Prop where
 be : Below w.heap.size w W
 bN : Bk W w.heap.size #[vd, vl] 25
 bR : Bk W (w.heap.size + 1) #[.slice none 0 0, .slice none 0 0] 25
 bM : Bk W (w.heap.size + 2) #[vm, vk] 25
 rd : ∃ cs, W.ownsRow (w.heap.size + 3) 91 7 vm gs.length cs ∧ DvC w gs cs
 rl : W.ownsRow (w.heap.size + 3) 135 4 vk ms.length (linksS ms)
section
variable {w W W' : World} {vd vl vm vk : Value} {gs : List Dv} {ms : List Lk}
theorem SOn.below (h : SOn w vd vl vm vk gs ms W) (hb : Below W.heap.size W W') : SOn w vd vl vm vk gs ms W' := by
 obtain ⟨cs, h1, h2⟩ := h.rd
 exact ⟨chain hb h.be, Bk.keep hb h.bN, Bk.keep hb h.bR, Bk.keep hb h.bM, ⟨cs, own_belowS h1 hb, h2⟩, own_belowS h.rl hb⟩
theorem SOn.start (w : World) (vd vl : Value) : SOn w vd vl (.slice none 0 0) (.slice none 0 0) [] [] (((w.alloc (.cells #[vd, vl] 25)).alloc (.cells #[.slice none 0 0, .slice none 0 0] 25)).alloc (.cells #[.slice none 0 0, .slice none 0 0] 25)) :=
 ⟨Below.alloc' (Below.alloc' (Below.alloc' (Below.refl _ _) _) _) _, ((bk_new _ _ _).alloc _).alloc _, (bk_new' _ _ _ _ (by simp)).alloc _, bk_new' _ _ _ _ (by simp), ⟨[], own_nil _ _ _, DvC.nil w⟩, own_nil _ _ _⟩
theorem SOn.size (h : SOn w vd vl vm vk gs ms W) : w.heap.size + 3 <= W.heap.size := h.bM.lt
theorem uDevsS : Tryz.prog.underlying 22 = some (.slice 91) := by kernel_rfl
theorem infoDevS : (Tryz.prog.info? 91).map (fun i => (i.zero, i.size, i.bytes)) = some (some (.agg #[.string ⟨#[]⟩, .int .i64 0, .int .i64 0, .int .u8 0, .slice none 0 0, .slice none 0 0, .slice none 0 0]), 7, 112) := by kernel_rfl
theorem uLksS : Tryz.prog.underlying 23 = some (.slice 135) := by kernel_rfl
theorem infoLkS : (Tryz.prog.info? 135).map (fun i => (i.zero, i.size, i.bytes)) = some (some (.agg #[.int .i64 0, .int .i64 0, .int .i64 0, .int .i64 0]), 4, 32) := by kernel_rfl
theorem own_keepS {B e size n : Nat} {v : Value} {xs : List Value} (h : W.ownsRow B e size v n xs) (hk : ∀ g, v.ownBlock = some g -> W'.heap[g]? = W.heap[g]?) : W'.ownsRow B e size v n xs := by
 obtain ⟨h0, h1 | ⟨g, cap, cur, rfl, hB, hg, h2⟩⟩ := h
 ·exact ⟨h0, Or.inl h1⟩
 ·exact ⟨h0, Or.inr ⟨g, cap, cur, rfl, hB, (hk g rfl).trans hg, h2⟩⟩
theorem SOn.appD (h : SOn w vd vl vm vk gs ms W) {nm : ByteArray} {k ad : Int} {pl : Nat} {vb vr vt : Value} {d : Dv} (hd : IsDv w.heap.size w [.string nm, .int .i64 k, .int .i64 ad, .int .u8 (pl : Int), vb, vr, vt] d) (hn : gs.length <= 5000) :
  ∃ g cq W1, (Builtin.append_ #[22, 22] 22 #[vm, .slice (some ⟨W.heap.size, 0, none⟩) 1 1]).run Tryz.prog (W.alloc (.cells #[.string nm, .int .i64 k, .int .i64 ad, .int .u8 (pl : Int), vb, vr, vt] 91)) = .ok (.slice (some ⟨g, 0, none⟩) (gs.length + 1) cq) W1 ∧ SOn w vd vl (.slice (some ⟨g, 0, none⟩) (gs.length + 1) cq) vk (gs ++ [d]) ms (W1.setCell ⟨w.heap.size + 2, 0, none⟩ (.slice (some ⟨g, 0, none⟩) (gs.length + 1) cq)) ∧ W1.cell? ⟨w.heap.size + 2, 0, none⟩ = some vm ∧ W1.frozen? ⟨w.heap.size + 2, 0, none⟩ = false ∧ w.heap.size + 2 < W1.heap.size := by
 obtain ⟨cs, h1, h2⟩ := h.rd
 have hsz := h.size
 have one : ∀ u ∈ [Value.string nm, .int .i64 k, .int .i64 ad, .int .u8 (pl : Int), vb, vr, vt], u.oneCell' = true := oneDv _ _ hd
 obtain ⟨v', W1, hr, q1, q2, q3, _⟩ := app_elS uDevsS infoDevS rfl (by omega) (by omega) 22 h1 (us := [.string nm, .int .i64 k, .int .i64 ad, .int .u8 (pl : Int), vb, vr, vt]) rfl one (by omega) hsz
 obtain ⟨g, cap, rfl, hg1, hg2, _⟩ := own_shape q1 (by omega)
 have m1 : Bk W1 (w.heap.size + 2) #[vm, vk] 25 := (q2.block _ (by omega)).trans h.bM
 have hF : ∀ i, i ≠ w.heap.size + 2 -> (W1.setCell ⟨w.heap.size + 2, 0, none⟩ (.slice (some ⟨g, 0, none⟩) (gs.length + 1) cap)).heap[i]? = W1.heap[i]? := fun i hi => Below.heap_setCell W1 ⟨w.heap.size + 2, 0, none⟩ _ i hi
 refine ⟨g, cap, W1, hr, ⟨?_, (hF _ (by omega)).trans ((q2.block _ (by omega)).trans h.bN), (hF _ (by omega)).trans ((q2.block _ (by omega)).trans h.bR), m1.setS _, ⟨cs ++ _, ?_, h2.app hd⟩, ?_⟩, m1.two.1, m1.fz 0, m1.lt⟩
 ·have b1 := h.be.trans (q2.mono (by omega))
  exact ⟨b1.os, b1.tape, b1.output, by simp [World.setCell]; exact b1.size, fun i hi => (hF i (by omega)).trans (b1.block i hi)⟩
 ·rw [List.length_append]
  exact own_keepS q1 fun g' hg' => hF g' (by have : g = g' := Option.some.inj hg'; omega)
 ·refine own_keepS h.rl fun g' hg' => (hF g' ?_).trans (q3.block g' (own_blockS h.rl hg').1 ?_)
  ·have := (own_blockS h.rl hg').2.1
   omega
  ·exact fun e => own_apartS h.rl h1 (by decide) g' hg' e.symm
theorem SOn.appL (h : SOn w vd vl vm vk gs ms W) (l : Lk) (hn : ms.length <= 5000) :
  ∃ g cq W1, (Builtin.append_ #[23, 23] 23 #[vk, .slice (some ⟨W.heap.size, 0, none⟩) 1 1]).run Tryz.prog (W.alloc (.cells #[.int .i64 l.a, .int .i64 l.p, .int .i64 l.b, .int .i64 l.q] 135)) = .ok (.slice (some ⟨g, 0, none⟩) (ms.length + 1) cq) W1 ∧ SOn w vd vl vm (.slice (some ⟨g, 0, none⟩) (ms.length + 1) cq) gs (ms ++ [l]) (W1.setCell ⟨w.heap.size + 2, 1, none⟩ (.slice (some ⟨g, 0, none⟩) (ms.length + 1) cq)) ∧ W1.cell? ⟨w.heap.size + 2, 1, none⟩ = some vk ∧ W1.frozen? ⟨w.heap.size + 2, 1, none⟩ = false ∧ w.heap.size + 2 < W1.heap.size := by
 obtain ⟨cs, h1, h2⟩ := h.rd
 have hsz := h.size
 obtain ⟨v', W1, hr, q1, q2, q3, _⟩ := app_elS uLksS infoLkS rfl (by omega) (by omega) 23 h.rl (us := linkS l) rfl (by simp [linkS, Value.oneCell']) (by omega) hsz
 obtain ⟨g, cap, rfl, hg1, hg2, _⟩ := own_shape q1 (by omega)
 have m1 : Bk W1 (w.heap.size + 2) #[vm, vk] 25 := (q2.block _ (by omega)).trans h.bM
 have hF : ∀ i, i ≠ w.heap.size + 2 -> (W1.setCell ⟨w.heap.size + 2, 1, none⟩ (.slice (some ⟨g, 0, none⟩) (ms.length + 1) cap)).heap[i]? = W1.heap[i]? := fun i hi => Below.heap_setCell W1 ⟨w.heap.size + 2, 1, none⟩ _ i hi
 refine ⟨g, cap, W1, hr, ⟨?_, (hF _ (by omega)).trans ((q2.block _ (by omega)).trans h.bN), (hF _ (by omega)).trans ((q2.block _ (by omega)).trans h.bR), m1.setS _, ⟨cs, ?_, h2⟩, ?_⟩, m1.two.2, m1.fz 1, m1.lt⟩
 ·have b1 := h.be.trans (q2.mono (by omega))
  exact ⟨b1.os, b1.tape, b1.output, by simp [World.setCell]; exact b1.size, fun i hi => (hF i (by omega)).trans (b1.block i hi)⟩
 ·refine own_keepS h1 fun g' hg' => (hF g' ?_).trans (q3.block g' (own_blockS h1 hg').1 ?_)
  ·have := (own_blockS h1 hg').2.1
   omega
  ·exact fun e => own_apartS h1 h.rl (by decide) g' hg' e.symm
 ·rw [List.length_append, linksS_add]
  exact own_keepS q1 fun g' hg' => hF g' (by have : g = g' := Option.some.inj hg'; omega)
theorem SOn.devs (h : SOn w vd vl vm vk gs ms W) : Devs W.heap.size W vm gs := by
 obtain ⟨cs, h1, h2⟩ := h.rd
 exact SlAt.own h1 fun k x hk => ((h2.2 k x hk).below h.be).mono h.be.size
theorem SOn.links (h : SOn w vd vl vm vk gs ms W) : Links W.heap.size W vk ms := SlAt.own h.rl fun k x hk => by
 rw [linksS_at ms k x hk]
 rfl
end
def Hi (lo : Nat) (v : Value) : Prop := ∀ b o n c, v = .slice (some ⟨b, o, none⟩) n c -> n ≠ 0 -> lo <= b
theorem Hi.of {lo : Nat} {v : Value} (h : NotIn 0 lo v) : Hi lo v := fun b o n c e hn => by
 have := h b o n c e hn
 omega
theorem Hi.b {lo k : Nat} {v : Value} (h : Hi lo v) (hk : k < lo) : NotB k v := fun b o n c e hn => by
 have := h b o n c e hn
 omega
def Part (lo g : Nat) (S : Nat -> Prop) (w : World) : Prop := ∀ o v, S o -> w.cell? ⟨g, o, none⟩ = some v -> Hi lo v
theorem Part.below {lo g : Nat} {S : Nat -> Prop} {w w' : World} (h : Part lo g S w) (hb : Below w.heap.size w w') (hg : g < w.heap.size) : Part lo g S w' := fun o v hs hv => h o v hs ((hb.cell (p := ⟨g, o, none⟩) hg).symm.trans hv)
theorem Part.mono {lo g : Nat} {S S' : Nat -> Prop} {w : World} (h : Part lo g S w) (hs : ∀ o, S' o -> S o) : Part lo g S' w := fun o v h' hv => h o v (hs o h') hv
theorem Part.other {lo g k j : Nat} {S : Nat -> Prop} {w : World} {u : Value} (h : Part lo g S w) (hk : g ≠ k) : Part lo g S (w.setCell ⟨k, j, none⟩ u) := fun o v hs hv => h o v hs ((cell_of_blockC (o := o) (Below.heap_setCell w ⟨k, j, none⟩ u g hk)).symm.trans hv)
theorem Part.set {lo g j : Nat} {S : Nat -> Prop} {w : World} {u : Value} (h : Part lo g S w) (hB : IsB w g) (hu : Hi lo u) : Part lo g (fun o => S o ∨ o = j) (w.setCell ⟨g, j, none⟩ u) := fun o v hs hv => by
 obtain ⟨cs, t, hB⟩ := hB
 have hB' := hB.setS (j := j) u
 rw [hB'.at] at hv
 by_cases e : j = o
 ·subst e
  rw [Array.getElem?_setIfInBounds] at hv
  simp only [if_true] at hv
  split at hv
  ·obtain rfl := Option.some.inj hv
   exact hu
  ·cases hv
 ·rw [Array.getElem?_setIfInBounds, if_neg e, <- hB.at] at hv
  exact h o v (hs.resolve_right (fun e' => e e'.symm)) hv
def dn (k : Nat) (o : Nat) : Prop := ∃ k', k' < k ∧ (o = k' * 7 + 4 ∨ o = k' * 7 + 5 ∨ o = k' * 7 + 6)
theorem dn_succ {k o : Nat} (h : dn (k + 1) o) : ((dn k o ∨ o = k * 7 + 4) ∨ o = k * 7 + 5) ∨ o = k * 7 + 6 := by
 obtain ⟨k', h1, h2⟩ := h
 by_cases e : k' = k
 ·subst e
  rcases h2 with h | h | h
  ·exact Or.inl (Or.inl (Or.inr h))
  ·exact Or.inl (Or.inr h)
  ·exact Or.inr h
 ·exact Or.inl (Or.inl (Or.inl ⟨k', by omega, h2⟩))
def Deep (lo : Nat) (w : World) (A : Option Addr) (n : Nat) : Prop := n ≠ 0 -> ∃ g, A = some ⟨g, 0, none⟩ ∧ lo <= g ∧ Part lo g (dn n) w
def CopyDeep (w : World) (ds : List Dv) (ls : List Lk) (e : Ending) (w' : World) : Prop :=
 ∃ A cap B cap', e = .returned (.agg #[.slice A ds.length cap, .slice B ls.length cap']) ∧ Devs w'.heap.size w' (.slice A ds.length cap) ds ∧ Links w'.heap.size w' (.slice B ls.length cap') ls ∧ Below w.heap.size w w' ∧ Deep w.heap.size w' A ds.length ∧ Hi w.heap.size (.slice B ls.length cap')
theorem copy_deep (A B : Option Addr) (cap cap' : Nat) (ds : List Dv) (ls : List Lk) (w : World) (hD : Hid (Devs w.heap.size w (.slice A ds.length cap) ds)) (hL : Hid (Links w.heap.size w (.slice B ls.length cap') ls)) (hS : Hid (Small ds ls)) :
  Calls Tryz.prog 62 #[.agg #[.slice A ds.length cap, .slice B ls.length cap']] w (CopyDeep w ds ls) := by
 have hsz := hS.out.nd
 have CD : Hid (∀ W, Below w.heap.size w W -> Calls Tryz.prog 89 #[.slice A ds.length cap] W fun e w' => ∃ A cap, e = .returned (.slice A ds.length cap) ∧ Fresh W.heap.size w' A cap w ds ∧ Below W.heap.size W w') := fun W h => clone_fresh W hD.out h hS.out.nd
 have CL : Hid (∀ W, Below w.heap.size w W -> Calls Tryz.prog 90 #[.slice B ls.length cap'] W fun e w' => ∃ A cap, e = .returned (.slice A ls.length cap) ∧ SlAt w'.heap.size w' 4 IsLk (.slice A ls.length cap) ls ∧ (∀ lo hi, hi <= W.heap.size -> NotIn lo hi (.slice A ls.length cap)) ∧ Below W.heap.size W w') := fun W h => copy_links W ((hL.out.below h).mono h.size) hS.out.nl
 have D2 := Below.alN (Below.alN (Below.refl w.heap.size w) (.cells #[.slice A ds.length cap, .slice B ls.length cap'] 25)) (.cells #[.slice none 0 0, .slice none 0 0] 25)
 have N2 := (bk_new w #[.slice A ds.length cap, .slice B ls.length cap'] 25).alloc (.cells #[.slice none 0 0, .slice none 0 0] 25)
 have R2 := bk_new' (w.alloc (.cells #[.slice A ds.length cap, .slice B ls.length cap'] 25)) #[.slice none 0 0, .slice none 0 0] 25 (w.heap.size + 1) (by simp)
 have S2 := N2.two
 have D2d := D2.drew
 have N2d := N2.drew
 have R2d := R2.drew
 have D2a := (Below.alN D2 (.cells #[.slice none 0 0, .slice none 0 0] 25)).drew
 have N2a := (N2.alloc (.cells #[.slice none 0 0, .slice none 0 0] 25)).drew
 have R2a := (R2.alloc (.cells #[.slice none 0 0, .slice none 0 0] 25)).drew
 have G2a := (bk_new' ((w.alloc (.cells #[.slice A ds.length cap, .slice B ls.length cap'] 25)).alloc (.cells #[.slice none 0 0, .slice none 0 0] 25)) #[.slice none 0 0, .slice none 0 0] 25 (w.heap.size + 1 + 1) (by simp)).drew
 clear hD hL
 obtain ⟨n0, n1⟩ := S2
 go_enter Tryz.func62, Tryz.ntmps62
 go_wp2_with fail
 go_cut [3] (fun v3 wx => ∃ g A1 c1 B1 c2, v3 = .pointer (some ⟨g, 0, none⟩) ∧ Bk wx g #[.slice A1 ds.length c1, .slice B1 ls.length c2] 25 ∧ w.heap.size + 1 < g ∧ Fresh (w.heap.size + 1 + 1) wx A1 c1 w ds ∧ (∀ g', A1 = some ⟨g', 0, none⟩ -> ds.length ≠ 0 -> g' ≠ g) ∧ SlAt wx.heap.size wx 4 IsLk (.slice B1 ls.length c2) ls ∧ NotB g (.slice B1 ls.length c2) ∧ NotB (w.heap.size + 1) (.slice B1 ls.length c2) ∧ (∀ g', A1 = some ⟨g', 0, none⟩ -> ds.length ≠ 0 -> NotB g' (.slice B1 ls.length c2)) ∧ Bk wx (w.heap.size + 1) #[.slice none 0 0, .slice none 0 0] 25 ∧ Below w.heap.size w wx ∧ Hi w.heap.size (.slice B1 ls.length c2))
 case first =>
  go_region_held3 (fun w' => w'.cell? ⟨w.heap.size, 0, none⟩ = some (.slice A ds.length cap) ∧ w'.cell? ⟨w.heap.size, 1, none⟩ = some (.slice B ls.length cap')) (first | exact Bk.two (by first | assumption | exact Bk.alloc (by assumption) _) | exact Bk.two ((N6.setO (by omega) _).setO (by omega) _)) (first | (go_at_call 89; refine (CD.out _ D2d).mono ?_; rintro e w5 ⟨A1, c1, rfl, F5, hb5⟩; have D5 := chnN hb5 D2d; have N5 := N2d.keep hb5; have R5 := R2d.keep hb5; have z5 := R5.lt; have F5l := F5.lo (lo' := w.heap.size + 1 + 1) (by simp)) | (go_at_call 89; refine (CD.out _ D2a).mono ?_; rintro e w5 ⟨A1, c1, rfl, F5, hb5⟩; have D5 := chnN hb5 D2a; have N5 := N2a.keep hb5; have R5 := R2a.keep hb5; have G5 := G2a.keep hb5; have z5 := G5.lt; have F5l := F5.lo (lo' := w.heap.size + 1 + 1 + 1) (by simp)) | (go_at_call 90; refine (CL.out _ D5).mono ?_; rintro e w6 ⟨B1, c2, rfl, K6, Z6, hb6⟩; have D6 := chnN hb6 D5; have N6 := N5.keep hb6; have R6 := R5.keep hb6; have F6 := F5l.below hb6; have G6 := G5.keep hb6; have gf0 := G6.fz 0; have gf1 := G6.fz 1; obtain ⟨gg0, gg1⟩ := G6.two) | (go_at_call 90; refine (CL.out _ D5).mono ?_; rintro e w6 ⟨B1, c2, rfl, K6, Z6, hb6⟩; have D6 := chnN hb6 D5; have N6 := N5.keep hb6; have R6 := R5.keep hb6; have F6 := F5l.below hb6) | (go_at_call 90; refine (CL.out _ (Below.alN D5 (.cells #[.slice none 0 0, .slice none 0 0] 25))).mono ?_; rintro e w6 ⟨B1, c2, rfl, K6, Z6, hb6⟩; have D6 := chnN hb6 (Below.alN D5 (.cells #[.slice none 0 0, .slice none 0 0] 25)); have N6 := (N5.alloc (.cells #[.slice none 0 0, .slice none 0 0] 25)).keep hb6; have R6 := (R5.alloc (.cells #[.slice none 0 0, .slice none 0 0] 25)).keep hb6; have F6 := (F5l.below ((Below.refl _ _).alloc (Nat.le_refl _) (.cells #[.slice none 0 0, .slice none 0 0] 25))).below hb6; have G6 := (bk_new w5 #[.slice none 0 0, .slice none 0 0] 25).keep hb6; have gf0 := G6.fz 0; have gf1 := G6.fz 1; obtain ⟨gg0, gg1⟩ := G6.two))
  all_goals
   go_wp2_with fail
   go_meet
   have y6 := hb6.size
   first
    | exact ⟨_, _, _, _, _, rfl, bk_new w6 _ _, (by omega), F6.below ((Below.refl _ _).alloc (Nat.le_refl _) _), (fun g' e hn => by have := F6.lt e hn; omega), SlAt.mono (SlAt.below K6 ((Below.refl _ w6).alloc (Nat.le_refl _) _) (fun _ _ _ h => h)) (by simp) (fun _ _ _ h => h), (fun b o n c e hn => by have := (Z6 0 w5.heap.size (by simp) b o n c e hn); have q := SlAt.notIn (hi := w6.heap.size + 1) K6 b o n c e hn; omega), NotB.of (fun lo hi h => Z6 lo hi (by omega)), (fun g' e hn => NotB.of (fun lo hi h => Z6 lo hi (by have := F5l.lt e hn; omega))), R6.alloc _, Below.alN D6 _, Hi.of (Z6 0 w.heap.size (by omega))⟩
    | ((try simp only [World.size_alloc] at y6 Z6)
       exact ⟨_, _, _, _, _, rfl, (by have := (G6.setS (j := 0) (.slice A1 ds.length c1)).setS (j := 1) (.slice B1 ls.length c2); simpa using this), (by omega), ((F6.set (fun g' e hn => by have := F5l.lt e hn; omega)).set (fun g' e hn => by have := F5l.lt e hn; omega)).lo (by omega), (fun g' e hn => by have := F5l.lt e hn; omega), (by have := (K6.setB (k := w.heap.size + 1 + 1) (j := 0) (u := .slice A1 ds.length c1) (NotB.of (fun lo hi h => Z6 lo hi (by omega)))).setB (k := w.heap.size + 1 + 1) (j := 1) (u := .slice B1 ls.length c2) (NotB.of (fun lo hi h => Z6 lo hi (by omega))); simpa [World.setCell] using this), NotB.of (fun lo hi h => Z6 lo hi (by omega)), NotB.of (fun lo hi h => Z6 lo hi (by omega)), (fun g' e hn => NotB.of (fun lo hi h => Z6 lo hi (by have := F5l.lt e hn; omega))), (R6.setO (by omega) _).setO (by omega) _, (D6.setCell (by simp; omega) _).setCell (by simp; omega) _, Hi.of (Z6 0 w.heap.size (by omega))⟩)
    | ((try simp only [World.size_alloc] at y6 Z6)
       exact ⟨_, _, _, _, _, rfl, (by have := (G6.setS (j := 0) (.slice A1 ds.length c1)).setS (j := 1) (.slice B1 ls.length c2); simpa using this), (by omega), ((F6.set (fun g' e hn => by have := F5l.lt e hn; omega)).set (fun g' e hn => by have := F5l.lt e hn; omega)).lo (by omega), (fun g' e hn => by have := F5l.lt e hn; omega), (by have := (K6.setB (k := w5.heap.size) (j := 0) (u := .slice A1 ds.length c1) (NotB.of (fun lo hi h => Z6 lo hi (by omega)))).setB (k := w5.heap.size) (j := 1) (u := .slice B1 ls.length c2) (NotB.of (fun lo hi h => Z6 lo hi (by omega))); simpa [World.setCell] using this), NotB.of (fun lo hi h => Z6 lo hi (by omega)), NotB.of (fun lo hi h => Z6 lo hi (by omega)), (fun g' e hn => NotB.of (fun lo hi h => Z6 lo hi (by have := F5l.lt e hn; omega))), (R6.setO (by omega) _).setO (by omega) _, (D6.setCell (by simp; omega) _).setCell (by simp; omega) _, Hi.of (Z6 0 w.heap.size (by omega))⟩)
 case rest =>
  clear D2 N2 R2 D2d N2d R2d D2a N2a R2a G2a n0 n1 CD CL
  obtain ⟨g, A1, c1, B1, c2, rfl, G4, zg, F4, hgg, K4, nb1, nb2, nb3, R4, D4, U4⟩ := hcut
  by_cases hn : ds.length = 0
  ·have hds : ds = [] := List.length_eq_zero_iff.1 hn
   obtain ⟨f0, f1, f2, _⟩ := F4
   subst hds
   clear hgg nb3 hn
   simp only [List.length_nil] at *
   obtain ⟨x0, x1⟩ := G4.two
   go_wp2_with fail
   go_loopw [16] (fun i wr => i = .int .i64 0 ∧ Below w.heap.size w wr ∧ Bk wr g #[.slice A1 0 c1, .slice B1 ls.length c2] 25 ∧ Bk wr (w.heap.size + 1) #[.slice none 0 0, .slice none 0 0] 25 ∧ SlAt wr.heap.size wr 4 IsLk (.slice B1 ls.length c2) ls) (fun i _ => 0)
   case atStart => exact ⟨rfl, D4, G4, R4, K4⟩
   case round =>
    clear D4 G4 R4 K4 x0 x1
    obtain ⟨rfl, D4, G4, R4, K4⟩ := hrel
    obtain ⟨x0, x1⟩ := G4.two
    obtain ⟨r0, r1⟩ := R4.two
    have rf0 := R4.fz 0
    have rf1 := R4.fz 1
    go_wp2_with fail
    refine bodyPost_ret (v := .agg #[.slice A1 0 c1, .slice B1 ls.length c2]) (by simp [results, Tryz.results62, go_sem, r0, r1]) rfl ⟨A1, c1, B1, c2, rfl, ⟨A1, c1, rfl, f0, f1, f2, fun h => absurd rfl h⟩, ?_, ?_, fun h => absurd rfl h, U4⟩
    ·have := (K4.setB (k := w.heap.size + 1) (j := 0) (u := .slice A1 0 c1) nb2).setB (k := w.heap.size + 1) (j := 1) (u := .slice B1 ls.length c2) nb2
     unfold Links
     simpa [World.setCell] using this
    ·exact (D4.setCell (by simp) _).setCell (by simp) _
  obtain ⟨f0, f1, f2, _⟩ := id F4
  obtain ⟨g', rfl, hl, hg', I4, V4⟩ := F4.row (hi := wc.heap.size) D4 hn
  have hgg := hgg g' rfl hn
  have nb3 := nb3 g' rfl hn
  have zR := R4.lt
  have hgHI : g' < wc.heap.size := hg'
  obtain ⟨x0, x1⟩ := G4.two
  generalize hHI : wc.heap.size = HI at *
  clear F4 hn
  unfold maxLen at f2
  go_wp2_with fail
  go_loopw [16] (fun i wr => ∃ k : Nat, i = .int .i64 (k : Int) ∧ k <= ds.length ∧ Below w.heap.size w wr ∧ Bk wr g #[.slice (some ⟨g', 0, none⟩) ds.length c1, .slice B1 ls.length c2] 25 ∧ Bk wr (w.heap.size + 1) #[.slice none 0 0, .slice none 0 0] 25 ∧ SlAt wr.heap.size wr 4 IsLk (.slice B1 ls.length c2) ls ∧ IsB wr g' ∧ DvRow w.heap.size HI g' wr ds ∧ g' < wr.heap.size ∧ HI <= wr.heap.size ∧ Part w.heap.size g' (dn k) wr) (fun i _ => ds.length - (intOf i).toNat)
  case atStart => exact ⟨0, rfl, by omega, D4, G4, R4, by rw [hHI]; exact K4, I4, V4, by omega, by omega, fun o v ⟨k', h, _⟩ => absurd h (by omega)⟩
  case round =>
   clear D4 G4 R4 K4 I4 V4 x0 x1 hHI
   obtain ⟨k, rfl, hk, D1, G1, R1, K1, I1, V1, zg1, zh1, P1⟩ := hrel
   obtain ⟨x0, x1⟩ := G1.two
   by_cases hlt : k < ds.length
   rotate_left
   ·obtain ⟨r0, r1⟩ := R1.two
    have rf0 := R1.fz 0
    have rf1 := R1.fz 1
    go_wp2_with fail
    refine bodyPost_ret (v := .agg #[.slice (some ⟨g', 0, none⟩) ds.length c1, .slice B1 ls.length c2]) (by simp [results, Tryz.results62, go_sem, r0, r1]) rfl ⟨_, c1, B1, c2, rfl, ?_, ?_, ?_, fun _ => ⟨g', rfl, by omega, (((P1.other (by omega)).other (by omega)).mono (fun o h => by obtain ⟨k', h1, h2⟩ := h; exact ⟨k', by omega, h2⟩))⟩, U4⟩
    ·have := ((V1.other (k := w.heap.size + 1) (j := 0) (u := .slice (some ⟨g', 0, none⟩) ds.length c1) (by omega) (by omega) (by omega)).other (k := w.heap.size + 1) (j := 1) (u := .slice B1 ls.length c2) (by omega) (by omega) (by omega)).devs (cap := c1) (by simpa [World.setCell] using zg1) f1 (by unfold maxLen; omega)
     exact this
    ·have := (K1.setB (k := w.heap.size + 1) (j := 0) (u := .slice (some ⟨g', 0, none⟩) ds.length c1) nb2).setB (k := w.heap.size + 1) (j := 1) (u := .slice B1 ls.length c2) nb2
     unfold Links
     simpa [World.setCell] using this
    ·exact (D1.setCell (by simp) _).setCell (by simp) _
   obtain ⟨d, hxk⟩ : ∃ d, ds[k]? = some d := ⟨_, List.getElem?_eq_getElem hlt⟩
   have HX : Hid (ds[k]? = some d) := hxk
   have k1 : (0 : Int) <= (k : Int) := by omega
   have k2 : (k : Int) < (ds.length : Int) := by omega
   clear hxk
   obtain ⟨vb1, vr1, vt1, ⟨c0, c1', c2', c3, c4, c5, c6⟩, ⟨s1, s2, s3⟩, _, _, _⟩ := V1 k d HX.out
   obtain ⟨Ab, cb, rfl, _⟩ := id s1
   obtain ⟨Ar, cr, rfl, _⟩ := id s2
   obtain ⟨At, ct, rfl, _⟩ := id s3
   have CC : Hid (Calls Tryz.prog 91 #[.slice Ab d.backs.length cb] _ _) := copy_ints _ s1 (hS.out.backs d (List.mem_of_getElem? HX.out))
   have HL1 : Hid (d.backs.length = d.backs.length) := rfl
   clear s1 s2 s3
   go_wp2_with fail
   refine CC.out.mono ?_
   rintro e w20 ⟨A2, q2, rfl, S2, Z2, hb2⟩
   have yy2 := hb2.size
   have D20 := chnN hb2 D1
   have G20 := G1.keep hb2
   have R20 := R1.keep hb2
   have K20 := SlAt.mono (SlAt.below K1 hb2 (fun _ _ _ h => h)) hb2.size (fun _ _ _ h => h)
   have I20 := I1.below hb2
   have V20 := V1.below hb2
   have zg2 : g' < w20.heap.size := by omega
   have zh2 : HI <= w20.heap.size := by omega
   have V2 := V20.set4 HX.out S2 (Z2 _ _ zh1) (by omega) hgHI
   have D2 := D20.setCell (p := ⟨g', k * 7 + 4, none⟩) (by simp; omega) (.slice A2 d.backs.length q2)
   have G2 := G20.setO (b := g') (j := k * 7 + 4) (by omega) (.slice A2 d.backs.length q2)
   have R2 := R20.setO (b := g') (j := k * 7 + 4) (by omega) (.slice A2 d.backs.length q2)
   have K2 := K20.setB (k := g') (j := k * 7 + 4) (u := .slice A2 d.backs.length q2) nb3
   have I2 := I20.set (k := g') (j := k * 7 + 4) (u := .slice A2 d.backs.length q2)
   have P2 := (P1.below hb2 zg1).set (j := k * 7 + 4) I20 (Hi.of (Z2 0 w.heap.size (by omega)))
   clear P1
   have fz2 := I20.fz (k * 7 + 4)
   obtain ⟨_, _, _, ⟨_, _, _, _, e4, e5, e6⟩, _⟩ := V20 k d HX.out
   have ee2 : ∃ v, w20.cell? ⟨g', k * 7 + 4, none⟩ = some v := ⟨_, e4⟩
   obtain ⟨ev2, ec2⟩ := ee2
   have sz2 : (w20.setCell ⟨g', k * 7 + 4, none⟩ (.slice A2 d.backs.length q2)).heap.size = w20.heap.size := by simp [World.setCell]
   rw [sz2.symm] at K2 zg2 zh2
   clear V1 D1 G1 R1 K1 I1 c0 c1' c2' c3 c4 c5 c6 e4 e5 e6 CC S2 Z2 hb2 V20 D20 G20 R20 K20 I20 HL1 zg1 zh1 yy2
   go_upto_region 7 with fail
   generalize hW2 : w20.setCell ⟨g', k * 7 + 4, none⟩ (.slice A2 d.backs.length q2) = w2 at *
   clear hW2 fz2 ec2 sz2
   obtain ⟨vb2, vr2, vt2, ⟨c0, c1', c2', c3, c4, c5, c6⟩, ⟨s1, s2, s3⟩, _, _, _⟩ := V2 k d HX.out
   obtain ⟨Ab, cb, rfl, _⟩ := id s1
   obtain ⟨Ar, cr, rfl, _⟩ := id s2
   obtain ⟨At, ct, rfl, _⟩ := id s3
   have CC : Hid (Calls Tryz.prog 92 #[.slice Ar d.rules.length cr] _ _) := copy_rules _ s2 (hS.out.rules d (List.mem_of_getElem? HX.out))
   have HL2 : Hid (d.rules.length = d.rules.length) := rfl
   clear s1 s2 s3
   go_wp2_with fail
   refine CC.out.mono ?_
   rintro e w30 ⟨A3, q3, rfl, S3, Z3, hb3⟩
   have yy3 := hb3.size
   have D30 := chnN hb3 D2
   have G30 := G2.keep hb3
   have R30 := R2.keep hb3
   have K30 := SlAt.mono (SlAt.below K2 hb3 (fun _ _ _ h => h)) hb3.size (fun _ _ _ h => h)
   have I30 := I2.below hb3
   have V30 := V2.below hb3
   have zg3 : g' < w30.heap.size := by omega
   have zh3 : HI <= w30.heap.size := by omega
   have V3 := V30.set5 HX.out S3 (Z3 _ _ zh2) (by omega) hgHI
   have D3 := D30.setCell (p := ⟨g', k * 7 + 5, none⟩) (by simp; omega) (.slice A3 d.rules.length q3)
   have G3 := G30.setO (b := g') (j := k * 7 + 5) (by omega) (.slice A3 d.rules.length q3)
   have R3 := R30.setO (b := g') (j := k * 7 + 5) (by omega) (.slice A3 d.rules.length q3)
   have K3 := K30.setB (k := g') (j := k * 7 + 5) (u := .slice A3 d.rules.length q3) nb3
   have I3 := I30.set (k := g') (j := k * 7 + 5) (u := .slice A3 d.rules.length q3)
   have P3 := (P2.below hb3 zg2).set (j := k * 7 + 5) I30 (Hi.of (Z3 0 w.heap.size (by omega)))
   clear P2
   have fz3 := I30.fz (k * 7 + 5)
   obtain ⟨_, _, _, ⟨_, _, _, _, e4, e5, e6⟩, _⟩ := V30 k d HX.out
   have ee3 : ∃ v, w30.cell? ⟨g', k * 7 + 5, none⟩ = some v := ⟨_, e5⟩
   obtain ⟨ev3, ec3⟩ := ee3
   have sz3 : (w30.setCell ⟨g', k * 7 + 5, none⟩ (.slice A3 d.rules.length q3)).heap.size = w30.heap.size := by simp [World.setCell]
   rw [sz3.symm] at K3 zg3 zh3
   clear V2 D2 G2 R2 K2 I2 c0 c1' c2' c3 c4 c5 c6 e4 e5 e6 CC S3 Z3 hb3 V30 D30 G30 R30 K30 I30 HL2 zg2 zh2 yy3
   go_upto_region 8 with fail
   generalize hW3 : w30.setCell ⟨g', k * 7 + 5, none⟩ (.slice A3 d.rules.length q3) = w3 at *
   clear hW3 fz3 ec3 sz3
   obtain ⟨vb3, vr3, vt3, ⟨c0, c1', c2', c3, c4, c5, c6⟩, ⟨s1, s2, s3⟩, _, _, _⟩ := V3 k d HX.out
   obtain ⟨Ab, cb, rfl, _⟩ := id s1
   obtain ⟨Ar, cr, rfl, _⟩ := id s2
   obtain ⟨At, ct, rfl, _⟩ := id s3
   have CC : Hid (Calls Tryz.prog 93 #[.slice At d.routes.length ct] _ _) := copy_routes _ s3 (hS.out.routes d (List.mem_of_getElem? HX.out))
   have HL3 : Hid (d.routes.length = d.routes.length) := rfl
   clear s1 s2 s3
   go_wp2_with fail
   refine CC.out.mono ?_
   rintro e w40 ⟨A4, q4, rfl, S4, Z4, hb4⟩
   have yy4 := hb4.size
   have D40 := chnN hb4 D3
   have G40 := G3.keep hb4
   have R40 := R3.keep hb4
   have K40 := SlAt.mono (SlAt.below K3 hb4 (fun _ _ _ h => h)) hb4.size (fun _ _ _ h => h)
   have I40 := I3.below hb4
   have V40 := V3.below hb4
   have zg4 : g' < w40.heap.size := by omega
   have zh4 : HI <= w40.heap.size := by omega
   have V4 := V40.set6 HX.out S4 (Z4 _ _ zh3) (by omega) hgHI
   have D4 := D40.setCell (p := ⟨g', k * 7 + 6, none⟩) (by simp; omega) (.slice A4 d.routes.length q4)
   have G4 := G40.setO (b := g') (j := k * 7 + 6) (by omega) (.slice A4 d.routes.length q4)
   have R4 := R40.setO (b := g') (j := k * 7 + 6) (by omega) (.slice A4 d.routes.length q4)
   have K4 := K40.setB (k := g') (j := k * 7 + 6) (u := .slice A4 d.routes.length q4) nb3
   have I4 := I40.set (k := g') (j := k * 7 + 6) (u := .slice A4 d.routes.length q4)
   have P4 := (P3.below hb4 zg3).set (j := k * 7 + 6) I40 (Hi.of (Z4 0 w.heap.size (by omega)))
   clear P3
   have fz4 := I40.fz (k * 7 + 6)
   obtain ⟨_, _, _, ⟨_, _, _, _, e4, e5, e6⟩, _⟩ := V40 k d HX.out
   have ee4 : ∃ v, w40.cell? ⟨g', k * 7 + 6, none⟩ = some v := ⟨_, e6⟩
   obtain ⟨ev4, ec4⟩ := ee4
   have sz4 : (w40.setCell ⟨g', k * 7 + 6, none⟩ (.slice A4 d.routes.length q4)).heap.size = w40.heap.size := by simp [World.setCell]
   rw [sz4.symm] at K4 zg4 zh4
   clear V3 D3 G3 R3 K3 I3 c0 c1' c2' c3 c4 c5 c6 e4 e5 e6 CC S4 Z4 hb4 V40 D40 G40 R40 K40 I40 HL3 zg3 zh3 yy4
   go_upto_region 9 with fail
   generalize hW4 : w40.setCell ⟨g', k * 7 + 6, none⟩ (.slice A4 d.routes.length q4) = w4 at *
   clear hW4 fz4 ec4 sz4
   go_wp2_with fail
   go_roundw
   case rel => exact ⟨k + 1, by go_num, by omega, D4, G4, R4, K4, I4, V4, zg4, zh4, P4.mono (fun o h => dn_succ h)⟩
   case measure => simp [intOf]; omega
theorem Devs.blk {base : Nat} {w : World} {A : Option Addr} {cap g : Nat} {ds : List Dv} (h : Devs base w (.slice A ds.length cap) ds) (hn : ds.length ≠ 0) (e : A = some ⟨g, 0, none⟩) : g < base := by
 obtain ⟨A', cap', e', h0, h1, h2, h3⟩ := h
 obtain ⟨rfl, _, rfl⟩ := Value.slice.inj e'
 obtain ⟨b, o, ea, hl, _⟩ := h3 (fun e0 => hn (by rw [e0]; rfl))
 rw [e] at ea
 cases ea
 exact hl
theorem Deep.below {lo : Nat} {w w' : World} {A : Option Addr} {cap : Nat} {ds : List Dv} (h : Deep lo w A ds.length) (hD : Devs w.heap.size w (.slice A ds.length cap) ds) (hb : Below w.heap.size w w') : Deep lo w' A ds.length := fun hn => by
 obtain ⟨g, e, h1, h2⟩ := h hn
 exact ⟨g, e, h1, h2.below hb (hD.blk hn e)⟩
theorem Devs.low {lo base k j : Nat} {w : World} {A : Option Addr} {cap : Nat} {ds : List Dv} {u : Value} (h : Devs base w (.slice A ds.length cap) ds) (hd : Deep lo w A ds.length) (hk : k < lo) : Devs base (w.setCell ⟨k, j, none⟩ u) (.slice A ds.length cap) ds := by
 obtain ⟨A', cap', e', h0, h1, h2, h3⟩ := h
 obtain ⟨rfl, _, rfl⟩ := Value.slice.inj e'
 refine ⟨A, cap, rfl, h0, h1, h2, fun hx => ?_⟩
 have hn : ds.length ≠ 0 := fun e => hx (List.length_eq_zero_iff.1 e)
 obtain ⟨b, o, ea, hl, hr⟩ := h3 hx
 obtain ⟨g, eg, hlo, hP⟩ := hd hn
 rw [ea] at eg
 cases eg
 refine ⟨b, 0, ea, hl, fun i x hi => ?_⟩
 obtain ⟨cs, c1, ⟨vb, vr, vt, rfl, s4, s5, s6⟩, c3⟩ := hr i x hi
 have hin : i < ds.length := (List.getElem?_eq_some_iff.1 hi).1
 have k4 := hP (i * 7 + 4) vb ⟨i, hin, Or.inl rfl⟩ (by have := c3 4 vb rfl; rwa [show 0 + i * 7 + 4 = i * 7 + 4 by omega] at this)
 have k5 := hP (i * 7 + 5) vr ⟨i, hin, Or.inr (Or.inl rfl)⟩ (by have := c3 5 vr rfl; rwa [show 0 + i * 7 + 5 = i * 7 + 5 by omega] at this)
 have k6 := hP (i * 7 + 6) vt ⟨i, hin, Or.inr (Or.inr rfl)⟩ (by have := c3 6 vt rfl; rwa [show 0 + i * 7 + 6 = i * 7 + 6 by omega] at this)
 exact ⟨_, c1, ⟨vb, vr, vt, rfl, s4.setB (k4.b hk), s5.setB (k5.b hk), s6.setB (k6.b hk)⟩, fun j' u' hj => (cell_of_blockC (Below.heap_setCell w ⟨k, j, none⟩ u b (show b ≠ k by omega))).trans (c3 j' u' hj)⟩
theorem Hi.lo {lo lo' : Nat} {v : Value} (h : Hi lo v) (hl : lo' <= lo) : Hi lo' v := fun b o n c e hn => Nat.le_trans hl (h b o n c e hn)
theorem Deep.lo {lo lo' : Nat} {w : World} {A : Option Addr} {n : Nat} (h : Deep lo w A n) (hl : lo' <= lo) : Deep lo' w A n := fun hn => by
 obtain ⟨g, e, hg, hp⟩ := h hn
 exact ⟨g, e, Nat.le_trans hl hg, fun o v hs hv => (hp o v hs hv).lo hl⟩
theorem CopyDeep.store {w w' : World} {ds : List Dv} {ls : List Lk} {e : Ending} {B k : Nat} {x y : Value} (h : CopyDeep w ds ls e w') (hB : B <= k) (hk : k < w.heap.size) : Below B w ((w'.setCell ⟨k, 0, none⟩ x).setCell ⟨k, 1, none⟩ y) ∧
  ∃ A cap C cap', e = .returned (.agg #[.slice A ds.length cap, .slice C ls.length cap']) ∧ Devs w'.heap.size ((w'.setCell ⟨k, 0, none⟩ x).setCell ⟨k, 1, none⟩ y) (.slice A ds.length cap) ds ∧ Links w'.heap.size ((w'.setCell ⟨k, 0, none⟩ x).setCell ⟨k, 1, none⟩ y) (.slice C ls.length cap') ls ∧ Deep w.heap.size ((w'.setCell ⟨k, 0, none⟩ x).setCell ⟨k, 1, none⟩ y) A ds.length ∧ Hi w.heap.size (.slice C ls.length cap') := by
 obtain ⟨A, cap, C, cap', rfl, hD, hL, hb, hd, hh⟩ := h
 have hF : ∀ i, i ≠ k -> ((w'.setCell ⟨k, 0, none⟩ x).setCell ⟨k, 1, none⟩ y).heap[i]? = w'.heap[i]? := fun i hi => (Below.heap_setCell _ ⟨k, 1, none⟩ y i hi).trans (Below.heap_setCell w' ⟨k, 0, none⟩ x i hi)
 refine ⟨⟨hb.os, hb.tape, hb.output, by simp [World.setCell]; exact Nat.le_trans (by omega) hb.size, fun i hi => (hF i (by omega)).trans (hb.block i (by omega))⟩, A, cap, C, cap', rfl, ?_, ?_, ?_, hh⟩
 ·have d1 := Devs.low (j := 0) (u := x) hD hd hk
  have hd' : Deep w.heap.size (w'.setCell ⟨k, 0, none⟩ x) A ds.length := fun hn => by
   obtain ⟨g, e, hg, hp⟩ := hd hn
   exact ⟨g, e, hg, hp.other (by omega)⟩
  exact Devs.low (j := 1) (u := y) d1 hd' hk
 ·exact SlAt.setB (SlAt.setB hL (hh.b hk)) (hh.b hk)
 ·exact fun hn => by
   obtain ⟨g, e, hg, hp⟩ := hd hn
   exact ⟨g, e, hg, (hp.other (by omega)).other (by omega)⟩
theorem SOn.drew {w W : World} {vd vl vm vk : Value} {gs : List Dv} {ms : List Lk} (h : SOn w vd vl vm vk gs ms W) : SOn w vd vl vm vk gs ms W.drew := h.below (below_drew W)
theorem only_any (A B : Option Addr) (cap cap' : Nat) (ds : List Dv) (ls : List Lk) (g c B0 : Nat) (f : List Int) (w : World) (hz : Hid (netV ds ls = 0)) (hok : Hid (FOk ds f)) (hsr : Hid (f.Pairwise (· <= ·))) (hf0 : f.length ≠ 0) (hD : Hid (Devs w.heap.size w (.slice A ds.length cap) ds)) (hL : Hid (Links w.heap.size w (.slice B ls.length cap') ls)) (hI : Hid (w.ownsRow B0 3 1 (.slice (some ⟨g, 0, none⟩) f.length c) f.length (intsS f))) (hS : Hid (Small (devsF ds f) (linksF ls f))) :
  Calls Tryz.prog 45 #[.agg #[.slice A ds.length cap, .slice B ls.length cap'], .slice (some ⟨g, 0, none⟩) f.length c] w (CopyDeep w (devsF ds f) (linksF ls f)) := by
 have hfl := hok.out.len
 obtain ⟨b0, o0, _, _, _, rfl, hb0, -⟩ := hD.out.at (List.getElem?_eq_getElem (show 0 < ds.length by omega))
 have h10 := (netV_links hz.out).1
 have h15 := (netV_links hz.out).2.1
 have hcap := hD.out.len.2
 have hcapL := hL.out.len.2
 obtain ⟨_, _, he, _, hgl, hc1, hc2, -, hci⟩ := own_shape hI.out hf0
 cases he
 unfold maxLen at hcap hcapL hc2
 have V0 := SOn.start w (.slice (some ⟨b0, o0, none⟩) ds.length cap) (.slice B ls.length cap')
 have VI : Hid (∀ vm vk gs ms W, SOn w (.slice (some ⟨b0, o0, none⟩) ds.length cap) (.slice B ls.length cap') vm vk gs ms W -> g < W.heap.size ∧ ∀ j x, f[j]? = some x -> W.cell? ⟨g, j, none⟩ = some (.int .i64 x)) := fun vm vk gs ms W h => ⟨Nat.lt_of_lt_of_le hgl h.be.size, fun j x hj => (h.be.cell (p := ⟨g, j, none⟩) hgl).trans (hci j _ (intsS_at hj))⟩
 have VN : Hid (∀ vm vk gs ms W, SOn w (.slice (some ⟨b0, o0, none⟩) ds.length cap) (.slice B ls.length cap') vm vk gs ms W -> w.heap.size + 1 + 1 < W.heap.size ∧ W.cell? ⟨w.heap.size, 0, none⟩ = some (.slice (some ⟨b0, o0, none⟩) ds.length cap) ∧ W.cell? ⟨w.heap.size, 1, none⟩ = some (.slice B ls.length cap') ∧ W.cell? ⟨w.heap.size + 1 + 1, 0, none⟩ = some vm ∧ W.cell? ⟨w.heap.size + 1 + 1, 1, none⟩ = some vk) := fun vm vk gs ms W h => ⟨h.bM.lt, h.bN.two.1, h.bN.two.2, h.bM.two.1, h.bM.two.2⟩
 have VL : Hid (∀ vm vk gs ms W o, SOn w (.slice (some ⟨b0, o0, none⟩) ds.length cap) (.slice B ls.length cap') vm vk gs ms W -> SOn w (.slice (some ⟨b0, o0, none⟩) ds.length cap) (.slice B ls.length cap') vm vk gs ms (W.alloc o)) := fun vm vk gs ms W o h => h.below (Below.alloc' (Below.refl _ _) _)
 have VW : Hid (∀ vm vk gs ms W, SOn w (.slice (some ⟨b0, o0, none⟩) ds.length cap) (.slice B ls.length cap') vm vk gs ms W -> SOn w (.slice (some ⟨b0, o0, none⟩) ds.length cap) (.slice B ls.length cap') vm vk gs ms W.drew) := fun vm vk gs ms W h => h.drew
 have VD : Hid (∀ vm vk gs ms W, SOn w (.slice (some ⟨b0, o0, none⟩) ds.length cap) (.slice B ls.length cap') vm vk gs ms W -> ∀ j d, ds[j]? = some d -> b0 < W.heap.size ∧ ∃ vb vr vt, Hid (IsDv w.heap.size w [.string d.name, .int .i64 d.kind, .int .i64 d.addr, .int .u8 (d.pool : Int), vb, vr, vt] d) ∧ W.cell? ⟨b0, o0 + j * 7, none⟩ = some (.string d.name) ∧ W.cell? ⟨b0, o0 + j * 7 + 1, none⟩ = some (.int .i64 d.kind) ∧ W.cell? ⟨b0, o0 + j * 7 + 2, none⟩ = some (.int .i64 d.addr) ∧ W.cell? ⟨b0, o0 + j * 7 + 3, none⟩ = some (.int .u8 (d.pool : Int)) ∧ W.cell? ⟨b0, o0 + j * 7 + 4, none⟩ = some vb ∧ W.cell? ⟨b0, o0 + j * 7 + 5, none⟩ = some vr ∧ W.cell? ⟨b0, o0 + j * 7 + 6, none⟩ = some vt) := fun vm vk gs ms W h j d hj => by
  obtain ⟨b, o, vb, vr, vt, e, hb, s1, s2, s3, c0, c1, c2, c3, c4, c5, c6⟩ := hD.out.at hj
  cases e
  have C : ∀ {o : Nat} {u : Value}, w.cell? ⟨b0, o, none⟩ = some u -> W.cell? ⟨b0, o, none⟩ = some u := fun {o u} hc => (h.be.cell (p := ⟨b0, o, none⟩) hb0).trans hc
  exact ⟨Nat.lt_of_lt_of_le hb0 h.be.size, vb, vr, vt, ⟨vb, vr, vt, rfl, s1, s2, s3⟩, C c0, C c1, C c2, C c3, C c4, C c5, C c6⟩
 have VA : Hid (∀ vm vk gs ms W, SOn w (.slice (some ⟨b0, o0, none⟩) ds.length cap) (.slice B ls.length cap') vm vk gs ms W -> ∀ (d : Dv) (vb vr vt : Value), IsDv w.heap.size w [.string d.name, .int .i64 d.kind, .int .i64 d.addr, .int .u8 (d.pool : Int), vb, vr, vt] d -> gs.length <= 5000 -> ∃ g cq W1, (Builtin.append_ #[22, 22] 22 #[vm, .slice (some ⟨W.heap.size, 0, none⟩) 1 1]).run Tryz.prog (W.alloc (.cells #[.string d.name, .int .i64 d.kind, .int .i64 d.addr, .int .u8 (d.pool : Int), vb, vr, vt] 91)).drew = .ok (.slice (some ⟨g, 0, none⟩) (gs.length + 1) cq) W1 ∧ SOn w (.slice (some ⟨b0, o0, none⟩) ds.length cap) (.slice B ls.length cap') (.slice (some ⟨g, 0, none⟩) (gs.length + 1) cq) vk (gs ++ [d]) ms (W1.setCell ⟨w.heap.size + 1 + 1, 0, none⟩ (.slice (some ⟨g, 0, none⟩) (gs.length + 1) cq)) ∧ W1.cell? ⟨w.heap.size + 1 + 1, 0, none⟩ = some vm ∧ W1.frozen? ⟨w.heap.size + 1 + 1, 0, none⟩ = false ∧ w.heap.size + 1 + 1 < W1.heap.size) := fun vm vk gs ms W h d vb vr vt hd hn => h.drew.appD hd hn
 have VK : Hid (∀ vm vk gs ms W, SOn w (.slice (some ⟨b0, o0, none⟩) ds.length cap) (.slice B ls.length cap') vm vk gs ms W -> ∀ (l : Lk), ms.length <= 5000 -> ∃ g cq W1, (Builtin.append_ #[23, 23] 23 #[vk, .slice (some ⟨W.heap.size, 0, none⟩) 1 1]).run Tryz.prog (W.alloc (.cells #[.int .i64 l.a, .int .i64 l.p, .int .i64 l.b, .int .i64 l.q] 135)) = .ok (.slice (some ⟨g, 0, none⟩) (ms.length + 1) cq) W1 ∧ SOn w (.slice (some ⟨b0, o0, none⟩) ds.length cap) (.slice B ls.length cap') vm (.slice (some ⟨g, 0, none⟩) (ms.length + 1) cq) gs (ms ++ [l]) (W1.setCell ⟨w.heap.size + 1 + 1, 1, none⟩ (.slice (some ⟨g, 0, none⟩) (ms.length + 1) cq)) ∧ W1.cell? ⟨w.heap.size + 1 + 1, 1, none⟩ = some vk ∧ W1.frozen? ⟨w.heap.size + 1 + 1, 1, none⟩ = false ∧ w.heap.size + 1 + 1 < W1.heap.size) := fun vm vk gs ms W h l hn => h.appL l hn
 have VB : Hid (∀ vm vk gs ms W (x : Int), SOn w (.slice (some ⟨b0, o0, none⟩) ds.length cap) (.slice B ls.length cap') vm vk gs ms W -> Calls Tryz.prog 61 #[.slice (some ⟨g, 0, none⟩) f.length c, .int .i64 x] W fun e w' => e = .returned (.tuple #[.int .i64 (f.countP (· < x) : Nat), .bool (f.contains x)]) ∧ SOn w (.slice (some ⟨b0, o0, none⟩) ds.length cap) (.slice B ls.length cap') vm vk gs ms w' ∧ w'.heap.size = W.heap.size ∧ ∀ a, w'.cell? a = W.cell? a) := fun vm vk gs ms W x h => by
  have := Tryz.slices_BinarySearch_int g 0 f.length c f x W (Nat.le_refl _) (by omega) (fun j hj => by
   rw [Nat.zero_add, List.getD_eq_getElem?_getD, List.getElem?_eq_getElem hj]
   exact (VI.out _ _ _ _ _ h).2 j _ (List.getElem?_eq_getElem hj)) (by rw [List.take_length]; exact hsr.out)
  rw [List.take_length] at this
  refine this.mono fun e w' ⟨h1, q, h2⟩ => ⟨h1, ?_, ?_, fun a => ?_⟩
  ·rw [h2]; exact h.below (below_drewN W q)
  ·rw [h2]; rfl
  ·rw [h2]; rfl
 have VC : Hid (∀ A1 c1 A2 c2 W, SOn w (.slice (some ⟨b0, o0, none⟩) ds.length cap) (.slice B ls.length cap') (.slice A1 (devsF ds f).length c1) (.slice A2 (linksF ls f).length c2) (devsF ds f) (linksF ls f) W -> Calls Tryz.prog 62 #[.agg #[.slice A1 (devsF ds f).length c1, .slice A2 (linksF ls f).length c2]] W fun e w' => ∃ A3 c3 A4 c4, e = .returned (.agg #[.slice A3 (devsF ds f).length c3, .slice A4 (linksF ls f).length c4]) ∧ (w.heap.size + 1 < w'.heap.size ∧ w'.cell? ⟨w.heap.size + 1, 0, none⟩ = some (.slice none 0 0) ∧ w'.cell? ⟨w.heap.size + 1, 1, none⟩ = some (.slice none 0 0) ∧ w'.frozen? ⟨w.heap.size + 1, 0, none⟩ = false ∧ w'.frozen? ⟨w.heap.size + 1, 1, none⟩ = false) ∧ Hid (CopyDeep w (devsF ds f) (linksF ls f) e ((w'.setCell ⟨w.heap.size + 1, 0, none⟩ (.slice A3 (devsF ds f).length c3)).setCell ⟨w.heap.size + 1, 1, none⟩ (.slice A4 (linksF ls f).length c4)))) := fun A1 c1 A2 c2 W h =>
  (copy_deep A1 A2 c1 c2 (devsF ds f) (linksF ls f) W h.devs h.links hS).mono fun e w' hc => by
    have hlt := h.bR.lt
    obtain ⟨A3, c3, A4, c4, he, -, -, hb, -⟩ := id hc
    obtain ⟨q1, A', c', C', c'', e2, q2, q3, q4, q5⟩ := hc.store (B := w.heap.size) (k := w.heap.size + 1) (x := .slice A3 (devsF ds f).length c3) (y := .slice A4 (linksF ls f).length c4) (by omega) hlt
    have r1 : Bk w' _ _ _ := Bk.keep hb h.bR
    refine ⟨A3, c3, A4, c4, he, ⟨r1.lt, r1.two.1, r1.two.2, r1.fz 0, r1.fz 1⟩, ⟨A', c', C', c'', e2, ?_, ?_, h.be.trans q1, q4.lo h.be.size, q5.lo h.be.size⟩⟩
    ·simpa [World.setCell] using q2
    ·simpa [World.setCell] using q3
 have VS : Hid (∀ vm vk gs ms W, SOn w (.slice (some ⟨b0, o0, none⟩) ds.length cap) (.slice B ls.length cap') vm vk gs ms W -> ∃ A1 c1 A2 c2, vm = .slice A1 gs.length c1 ∧ vk = .slice A2 ms.length c2) := fun vm vk gs ms W h => by
  obtain ⟨cs, h1, _⟩ := h.rd
  obtain ⟨A1, c1, e1⟩ := own_slice h1
  obtain ⟨A2, c2, e2⟩ := own_slice h.rl
  exact ⟨A1, c1, A2, c2, e1, e2⟩
 have VQ : Hid (∀ vm vk gs ms W, SOn w (.slice (some ⟨b0, o0, none⟩) ds.length cap) (.slice B ls.length cap') vm vk gs ms W -> ∀ j l, ls[j]? = some l -> ∃ b o, B = some ⟨b, o, none⟩ ∧ b < W.heap.size ∧ W.cell? ⟨b, o + j * 4, none⟩ = some (.int .i64 l.a) ∧ W.cell? ⟨b, o + j * 4 + 1, none⟩ = some (.int .i64 l.p) ∧ W.cell? ⟨b, o + j * 4 + 2, none⟩ = some (.int .i64 l.b) ∧ W.cell? ⟨b, o + j * 4 + 3, none⟩ = some (.int .i64 l.q)) := fun vm vk gs ms W h j l hj => by
  obtain ⟨A', c', e, _, _, _, h3⟩ := hL.out.below h.be
  cases e
  obtain ⟨b, o, ea, hl, hr⟩ := h3 (fun e => by subst e; simp at hj)
  obtain ⟨cs, _, rfl, hc⟩ := hr j l hj
  exact ⟨b, o, ea, Nat.lt_of_lt_of_le hl h.be.size, hc 0 _ rfl, hc 1 _ rfl, hc 2 _ rfl, hc 3 _ rfl⟩
 generalize hV : SOn w (.slice (some ⟨b0, o0, none⟩) ds.length cap) (.slice B ls.length cap') = V at *
 clear hV hD hL hI hS
 go_enter Tryz.func45, Tryz.ntmps45
 go_wp2_with fail
 go_loopw [16] (fun s16 wr => ∃ (i : Nat) (vm : Value), s16 = .int .i64 (i : Int) ∧ i <= f.length ∧ V vm (.slice none 0 0) (devsF ds (f.take i)) [] wr) (fun s16 _ => f.length - (intOf s16).toNat)
 case atStart => exact ⟨0, _, rfl, by omega, V0⟩
 case round =>
  obtain ⟨i, vm, rfl, hi, V1⟩ := hrel
  have hgl1 := devsF_len hok.out i
  rw [List.length_take, Nat.min_eq_left hi] at hgl1
  obtain ⟨n1, n2, n3, n4, n5⟩ := VN.out _ _ _ _ _ V1
  obtain ⟨g1, gc⟩ := VI.out _ _ _ _ _ V1
  by_cases hlt : i < f.length
  ·obtain ⟨d, hd⟩ : ∃ d, f[i]? = some d := ⟨_, List.getElem?_eq_getElem hlt⟩
   have q5 := gc i d hd
   obtain ⟨d0, d1⟩ := hok.out.lt d (List.mem_of_getElem? hd)
   obtain ⟨j, rfl⟩ : ∃ j : Nat, d = (j : Int) := ⟨d.toNat, by omega⟩
   obtain ⟨dv, hdv⟩ : ∃ dv, ds[j]? = some dv := ⟨_, List.getElem?_eq_getElem (by omega)⟩
   have hN : Hid (devsF ds (f.take (i + 1)) = devsF ds (f.take i) ++ [dv]) := by
    show _ = _
    rw [List.take_add_one, hd]
    exact devsF_one _ (by simpa using hdv)
   obtain ⟨hb1, vb, vr, vt, hID, c0, c1, c2, c3, c4, c5, c6⟩ := VD.out _ _ _ _ _ (VW.out _ _ _ _ _ V1) j dv hdv
   obtain ⟨m1, m2, m3, m4, m5⟩ := VN.out _ _ _ _ _ (VW.out _ _ _ _ _ V1)
   obtain ⟨k1, k2, k3, k4, k5⟩ := VN.out _ _ _ _ _ (VW.out _ _ _ _ _ (VL.out _ _ _ _ _ (.cells #[.string dv.name, .int .i64 dv.kind, .int .i64 dv.addr, .int .u8 (dv.pool : Int), vb, vr, vt] 91) V1))
   obtain ⟨g4, c4', W4, hrun, V4, y1, y2, y3⟩ := VA.out _ _ _ _ _ V1 dv vb vr vt hID.out (by omega)
   obtain ⟨A1, e1, _, _, rfl, _⟩ := VS.out _ _ _ _ _ V1
   have i1 : (0 : Int) <= (i : Int) := by omega
   have i2 : (i : Int) < (f.length : Int) := by omega
   have j1 : (0 : Int) <= (j : Int) := by omega
   have j2 : (j : Int) < (ds.length : Int) := by omega
   clear gc hd hdv d0 d1 hID VD VA VK VB VC VS VQ VL V0 n4 n5 n3 hgl1
   go_upto_region 5 with fail
   go_region_law (refine step_append_runS (by rfl) _ _ 22 (by rfl) _ _ _ W4 (by rfl) (by rfl) hrun ?_)
   all_goals
    go_wp2_with fail
    go_roundw
    case rel => exact ⟨i + 1, _, by go_num, by omega, by rw [hN.out]; exact V4⟩
    case measure => simp [intOf]; omega
  ·have hie : i = f.length := by omega
   subst hie
   rw [List.take_length] at V1 hgl1
   have hng : ¬ (f.length : Int) < (f.length : Int) := by omega
   clear VD VA VI VW gc V0 n4 n5 hgl1
   go_wp2_with fail
   go_loopw [34] (fun s34 wr => ∃ (j : Nat) (vk : Value), s34 = .int .i64 (j : Int) ∧ j <= ls.length ∧ V vm vk (devsF ds f) (linksF (ls.take j) f) wr) (fun s34 _ => ls.length - (intOf s34).toNat)
   case atStart => exact ⟨0, _, rfl, by omega, V1⟩
   case round =>
    obtain ⟨j, vk, rfl, hj, V2⟩ := hrel
    obtain ⟨p1, p2, p3, p4, p5⟩ := VN.out _ _ _ _ _ V2
    by_cases hlt : j < ls.length
    ·obtain ⟨l, hl⟩ : ∃ l, ls[j]? = some l := ⟨_, List.getElem?_eq_getElem hlt⟩
     obtain ⟨b1, o1, rfl, hb1, x0, x1, x2, x3⟩ := VQ.out _ _ _ _ _ V2 j l hl
     have hN : Hid (linksF (ls.take (j + 1)) f = linksF (ls.take j) f ++ linkF f l) := by
      show _ = _
      rw [List.take_add_one, hl]
      simp [linksF]
     have hml : (linksF (ls.take j) f).length <= j := by
      have := linksF_len (f := f) (ls.take j)
      rw [List.length_take] at this
      omega
     have z0 := (bk_new wr #[.int .i64 l.a, .int .i64 l.p, .int .i64 l.b, .int .i64 l.q] 135).four
     have V3 := VL.out _ _ _ _ _ (.cells #[.int .i64 l.a, .int .i64 l.p, .int .i64 l.b, .int .i64 l.q] 135) V2
     have BA := fun W => VB.out vm vk (devsF ds f) (linksF (ls.take j) f) W l.a
     have BB := fun W => VB.out vm vk (devsF ds f) (linksF (ls.take j) f) W l.b
     have hKF : Hid (linkF f l = if f.contains l.a then [⟨(f.countP (· < l.a) : Nat), l.p, (f.countP (· < l.b) : Nat), l.q⟩] else []) := rfl
     generalize f.countP (· < l.a) = na at BA hKF
     generalize f.contains l.a = bo at BA hKF
     generalize f.countP (· < l.b) = nb at BB hKF
     generalize f.contains l.b = bp at BB
     have BA : Hid (∀ W, _) := BA
     have BB : Hid (∀ W, _) := BB
     have j1 : (0 : Int) <= (j : Int) := by omega
     have j2 : (j : Int) < (ls.length : Int) := by omega
     clear hl VQ VB
     go_upto_region 10 with fail
     go_upto_region 11 with (go_at_call 61; refine (BA.out _ V3).mono ?_; rintro e w5 ⟨rfl, V5, hs5, hc5⟩)
     obtain ⟨z0, z1, z2, z3, -⟩ := z0
     have y0 := (hc5 ⟨wr.heap.size, 0, none⟩).trans z0
     have y1 := (hc5 ⟨wr.heap.size, 1, none⟩).trans z1
     have y2 := (hc5 ⟨wr.heap.size, 2, none⟩).trans z2
     have y3 := (hc5 ⟨wr.heap.size, 3, none⟩).trans z3
     have hs5' : wr.heap.size < w5.heap.size := by rw [hs5]; simp
     clear hc5 z0 z1 z2 z3 V3 hs5 BA x0 x1 x2 x3 p1 p2 p3 p4 p5
     go_upto_region 12 with (go_at_call 61; refine (BB.out _ V5).mono ?_; rintro e w6 ⟨rfl, V6, hs6, hc6⟩)
     have u0 := (hc6 ⟨wr.heap.size, 0, none⟩).trans y0
     have u1 := (hc6 ⟨wr.heap.size, 1, none⟩).trans y1
     have u2 := (hc6 ⟨wr.heap.size, 2, none⟩).trans y2
     have u3 := (hc6 ⟨wr.heap.size, 3, none⟩).trans y3
     have hs6' : wr.heap.size < w6.heap.size := by rw [hs6]; exact hs5'
     obtain ⟨p1, p2, p3, p4, p5⟩ := VN.out _ _ _ _ _ V6
     clear hc6 hs6 BB y0 y1 y2 y3 hs5' V5
     cases bo with
     | false =>
       clear VK
       go_wp2_with fail
       go_roundw
       case rel => exact ⟨j + 1, vk, by go_num, by omega, by rw [hN.out, hKF.out]; simpa using V6⟩
       case measure => simp [intOf]; omega
     | true =>
       obtain ⟨g7, c7, W7, hrun, V7, r1, r2, r3⟩ := VK.out _ _ _ _ _ V6 ⟨(na : Int), l.p, (nb : Int), l.q⟩ (by omega)
       have hN2 : Hid (linksF (ls.take (j + 1)) f = linksF (ls.take j) f ++ [⟨(na : Int), l.p, (nb : Int), l.q⟩]) := by
        show _ = _
        rw [hN.out, hKF.out]
        rfl
       clear VK hN hKF hml
       go_upto_region 13 with fail
       iterate 31 go_step
       refine wpList_append_runS rfl _ _ 23 rfl _ _ _ _ rfl rfl hrun ?_
       simp only [Act.put, List.setIfInBounds_toArray, List.set_cons_zero, List.set_cons_succ]
       go_wp2_with fail
       go_roundw
       case rel => exact ⟨j + 1, _, by go_num, by omega, by rw [hN2.out]; exact V7⟩
       case measure => simp [intOf]; omega
    ·have hje : j = ls.length := by omega
     subst hje
     rw [List.take_length] at V2
     obtain ⟨A1, e1, A2, e2, rfl, rfl⟩ := VS.out _ _ _ _ _ V2
     have CP := VC.out _ _ _ _ _ V2
     have hng2 : ¬ (ls.length : Int) < (ls.length : Int) := by omega
     clear VC VS VQ VB VK VN VL V2 V1
     go_upto_region 15 with fail
     go_wp2_with fail
     refine CP.mono ?_
     rintro e w8 ⟨A3, c3, A4, c4, rfl, ⟨t1, t2, t3, t4, t5⟩, hO⟩
     clear CP
     have s1 : ((w8.setCell ⟨w.heap.size + 1, 0, none⟩ (.slice A3 (devsF ds f).length c3)).setCell ⟨w.heap.size + 1, 1, none⟩ (.slice A4 (linksF ls f).length c4)).cell? ⟨w.heap.size + 1, 1, none⟩ = some (.slice A4 (linksF ls f).length c4) := cell_set ((cell_off (by omega)).trans t3)
     have s0 : ((w8.setCell ⟨w.heap.size + 1, 0, none⟩ (.slice A3 (devsF ds f).length c3)).setCell ⟨w.heap.size + 1, 1, none⟩ (.slice A4 (linksF ls f).length c4)).cell? ⟨w.heap.size + 1, 0, none⟩ = some (.slice A3 (devsF ds f).length c3) := (cell_off (by omega)).trans (cell_set t2)
     go_wp2_with fail
     refine bodyPost_ret (v := .agg #[.slice A3 (devsF ds f).length c3, .slice A4 (linksF ls f).length c4]) (by simp [results, Tryz.results45, go_sem, s0, s1]) rfl hO.out
abbrev prtV (x y z : Value) (h q : Int) : Value := .agg #[x, y, z, .int .i64 h, .int .i64 q]
abbrev nilS : Value := .slice none 0 0
structure CpAt (lo : Nat) (W : World) (A : Option Addr) (c : Nat) (B : Option Addr) (c' : Nat) (ds : List Dv) (ls : List Lk) : Prop where
 devs : Devs W.heap.size W (.slice A ds.length c) ds
 links : Links W.heap.size W (.slice B ls.length c') ls
 deep : Deep lo W A ds.length
 hi : Hi lo (.slice B ls.length c')
section
variable {lo lo' k j c c' : Nat} {W W' : World} {A B : Option Addr} {ds : List Dv} {ls : List Lk} {u : Value}
theorem size_setS (W : World) (a : Addr) (u : Value) : (W.setCell a u).heap.size = W.heap.size := by simp [World.setCell]
theorem CpAt.low (h : CpAt lo W A c B c' ds ls) (hk : k < lo) : CpAt lo (W.setCell ⟨k, j, none⟩ u) A c B c' ds ls :=
 ⟨by rw [size_setS]; exact Devs.low h.devs h.deep hk, by rw [size_setS]; exact SlAt.setB h.links (h.hi.b hk), fun hn => by
  obtain ⟨g, e, hg, hp⟩ := h.deep hn
  exact ⟨g, e, hg, hp.other (by omega)⟩, h.hi⟩
theorem CpAt.below (h : CpAt lo W A c B c' ds ls) (hb : Below W.heap.size W W') : CpAt lo W' A c B c' ds ls :=
 ⟨(h.devs.below hb).mono hb.size, (h.links.below hb).mono hb.size, h.deep.below h.devs hb, h.hi⟩
theorem CpAt.down (h : CpAt lo W A c B c' ds ls) (hl : lo' <= lo) : CpAt lo' W A c B c' ds ls := ⟨h.devs, h.links, h.deep.lo hl, h.hi.lo hl⟩
end
abbrev set5 (W : World) (k : Nat) (a b c d e : Value) : World := ((((W.setCell ⟨k, 0, none⟩ a).setCell ⟨k, 1, none⟩ b).setCell ⟨k, 2, none⟩ c).setCell ⟨k, 3, none⟩ d).setCell ⟨k, 4, none⟩ e
section
variable {W w0 : World} {k B : Nat} {t : TypeId} {x0 x1 x2 x3 x4 a b c d e : Value}
theorem Bk.set5 (h : Bk W k #[x0, x1, x2, x3, x4] t) : Bk (set5 W k a b c d e) k #[a, b, c, d, e] t := by
 have := ((((h.setS (j := 0) a).setS (j := 1) b).setS (j := 2) c).setS (j := 3) d).setS (j := 4) e
 simpa using this
theorem below_setS {j : Nat} {u : Value} (h : Below B w0 W) (hk : B <= k) : Below B w0 (W.setCell ⟨k, j, none⟩ u) :=
 ⟨h.os, h.tape, h.output, by rw [size_setS]; exact h.size, fun i hi => (Below.heap_setCell W ⟨k, j, none⟩ u i (show i ≠ k by omega)).trans (h.block i hi)⟩
theorem set5_below (h : Below B w0 W) (hk : B <= k) : Below B w0 (set5 W k a b c d e) := below_setS (below_setS (below_setS (below_setS (below_setS h hk) hk) hk) hk) hk
end
def PartOut (w : World) (ds : List Dv) (ls : List Lk) (s : List UInt8) (e : Ending) (w' : World) : Prop :=
 Below w.heap.size w w' ∧ ((netV ds ls ≠ 0 ∧ e = .returned (.tuple #[prtV nilS nilS nilS 0 0, .int .i64 (netV ds ls)])) ∨
  (netV ds ls = 0 ∧ hostFrom ds s 0 < 0 ∧ e = .returned (.tuple #[prtV nilS nilS nilS 0 0, .int .i64 4])) ∨
  (netV ds ls = 0 ∧ ∃ k : Nat, hostFrom ds s 0 = (k : Int) ∧ ∃ A c B c' g q h, e = .returned (.tuple #[prtV (.slice A (devsF ds (wholeF ds ls k)).length c) (.slice B (linksF ls (wholeF ds ls k)).length c') (.slice (some ⟨g, 0, none⟩) (wholeF ds ls k).length q) h 0, .int .i64 0]) ∧
    CpAt w.heap.size w' A c B c' (devsF ds (wholeF ds ls k)) (linksF ls (wholeF ds ls k))))
theorem devsFrom_allS {ds : List Dv} : ∀ (m k : Nat), ds.length - k <= m -> devsFrom ds k = 0 -> ∀ j d, k <= j -> ds[j]? = some d -> devWrong ds j d = 0
 | 0, k, h, _, j, d, hj, hd => by
   have := (List.getElem?_eq_some_iff.1 hd).1
   omega
 | m + 1, k, h, h0, j, d, hj, hd => by
   have hjl := (List.getElem?_eq_some_iff.1 hd).1
   have hk : k < ds.length := by omega
   rw [devsFrom_at (List.getElem?_eq_getElem hk)] at h0
   split at h0
   ·rename_i hw
    by_cases e : j = k
    ·subst e
     rw [List.getElem?_eq_getElem hk, Option.some.injEq] at hd
     rw [<- hd]
     exact hw
    ·exact devsFrom_allS m (k + 1) (by omega) h0 j d (by omega) hd
   ·rename_i hw
    exact absurd h0 hw
theorem netV_devsS {ds : List Dv} {ls : List Lk} (h : netV ds ls = 0) : ∀ d ∈ ds, devC d = 0 := by
 intro d hd
 obtain ⟨k, hk, e⟩ := List.mem_iff_getElem.1 hd
 unfold netV at h
 split at h
 ·simp at h
 ·split at h
  ·rename_i hz
   have := devsFrom_allS ds.length 0 (by omega) hz k d (Nat.zero_le _) (by rw [List.getElem?_eq_getElem hk, e])
   unfold devWrong at this
   split at this
   ·split at this
    ·simp at this
    ·exact this
   ·simp at this
  ·rename_i hz
   exact absurd h hz
theorem devC_sizesS {d : Dv} (h : devC d = 0) : d.backs.length <= 3 ∧ d.rules.length <= 8 ∧ d.routes.length <= 8 := by
 unfold devC devV at h
 split at h
 ·simp at h
 split at h
 ·simp at h
 rename_i h1 h2
 split at h
 ·simp at h
 rename_i h3
 split at h
 ·simp at h
 split at h
 ·simp at h
 split at h
 ·simp at h
 split at h
 ·simp at h
 rename_i h8
 have hr : d.routes.length <= 8 := by
  unfold checkV at h
  split at h
  ·simp at h
  ·rename_i h9
   simpa using h9
 exact ⟨by omega, by omega, hr⟩
theorem small_part {ds : List Dv} {ls : List Lk} {f : List Int} (h : netV ds ls = 0) (hf : FOk ds f) : Small (devsF ds f) (linksF ls f) := by
 obtain ⟨h1, h2, _⟩ := netV_links h
 have hl := linksF_len (f := f) ls
 have hd := devsF_lenA f hf.lt
 have hfl := hf.len
 exact ⟨by omega, by omega, fun d hd => by have := devC_sizesS (netV_devsS h d (devsF_sub d hd)); omega, fun d hd => by have := devC_sizesS (netV_devsS h d (devsF_sub d hd)); omega, fun d hd => by have := devC_sizesS (netV_devsS h d (devsF_sub d hd)); omega⟩
theorem aroundF_len {ds : List Dv} {ls : List Lk} : ∀ (n i : Nat) (f : List Int), f.length <= (aroundF ds ls n i f).length
 | 0, _, _ => Nat.le_refl _
 | n + 1, i, f => by
   unfold aroundF
   split
   ·exact Nat.le_refl _
   ·exact Nat.le_trans (portsF_len _ _ f) (aroundF_len n _ _)
theorem wholeF_pos (ds : List Dv) (ls : List Lk) (s : Int) : (wholeF ds ls s).length ≠ 0 := by
 rw [wholeF, List.length_mergeSort]
 have := aroundF_len (ds := ds) (ls := ls) 10 0 [s]
 simp at this
 omega
theorem indexS (A : Option Addr) (n cap : Nat) (bs : List Int) (x : Int) (base : Nat) (w : World) (hB : Hid (SlAt base w 1 IsI (.slice A n cap) bs)) : Calls Tryz.prog 44 #[.slice A n cap, .int .i64 x] w fun e w' => ∃ j : Int, e = .returned (.int .i64 j) ∧ w' = w := (indexI_any A n cap bs x base w hB).mono fun _ _ ⟨j, h1, _, h2⟩ => ⟨j, h1, h2⟩
theorem OpPost.setD {base a M most g : Nat} {w V w' : World} {ns : List Nd} {φ : Env -> Bool} {e : Ending} (hA : Ar base a M 14 most w ns) (hb : Below w.heap.size w V) (h : OpPost base a M 14 most V ns g φ e w') : SPostD True base a M most φ w ns e w' := by
 obtain ⟨ns', h1, h2, h3, _, h5⟩ := h
 have k := (hA.kbelow hb).trans h2
 rcases h5 with ⟨f, rfl, hf, hx⟩ | ⟨rfl, _⟩
 ·exact ⟨ns', _, _, rfl, h1, k, h3, ⟨Or.inl ⟨rfl, f, rfl, hf, hx⟩⟩⟩
 ·exact ⟨ns', _, _, rfl, h1, k, h3, ⟨Or.inr ⟨rfl, rfl, trivial⟩⟩⟩
theorem rset_any {bR R MR most n base a M mostA : Nat} {sl : Value} {xs : List Value} {ns nsA : List Nd} {p q : Int} {s : Nat -> Nat -> Nat -> Nat} {w : World} (hRc : Rc bR R MR most sl (n + 1) xs ns w) (hs : Hd (HistN s (n + 1) xs ns)) (hn : n < 1000000) (hA : Ar base a M 14 mostA w nsA) (u1 : R < base) (u2 : MR < base) (u3 : rowOf w R < base) (u4 : ∀ g, sl.ownBlock = some g -> g < base) :
  Calls Tryz.prog 16 #[.pointer (some ⟨R, 0, none⟩), .pointer (some ⟨a, 0, none⟩), .agg #[.int .i64 p, .int .i64 q]] w (SPostD True base a M mostA (ev ns (atN (s n) p q)) w nsA) := by
 have D1 : Below w.heap.size w (w.alloc (.cells #[.int .i64 p, .int .i64 q] 54)) := Below.alloc' (Below.refl _ w) _
 have b0 : Bz (w.alloc (.cells #[.int .i64 p, .int .i64 q] 54)) w.heap.size #[.int .i64 p, .int .i64 q] 54 := Bz.new w _ _ _ rfl
 have h1 := hRc.below D1
 obtain ⟨g, cap, rfl, lg, hcap, hcm, hlen, hcell⟩ := h1.sl
 unfold maxLen at hcm
 have HSV : Hd (SetsV (((xs.drop (n * 40)).take 40).toArray) (s n)) := ⟨hs.out.sets (by omega) hlen⟩
 obtain ⟨cs, hcs⟩ : ∃ cs : Array Value, cs = ((xs.drop (n * 40)).take 40).toArray := ⟨_, rfl⟩
 rw [<- hcs] at HSV
 have h40 : Hd (cs.size = 40) := ⟨HSV.out.1⟩
 have RG : Hd ((w.alloc (.cells #[.int .i64 p, .int .i64 q] 54)).rangeAt g (n * 40) cs.toList) := ⟨fun j v hj => by
  rw [hcs] at hj
  have h2 : (xs.drop (n * 40))[j]? = some v := by
   have hj' : ((xs.drop (n * 40)).take 40)[j]? = some v := by simpa using hj
   rw [List.getElem?_take] at hj'
   split at hj'
   ·exact hj'
   ·cases hj'
  rw [List.getElem?_drop] at h2
  exact hcell _ _ h2⟩
 have fn : atN (s n) p q < ns.length := hs.out.at_lt (by omega) h1.ar.wf p q
 obtain ⟨KK, hKK⟩ : ∃ KK : World -> Prop, KK = fun V => Below (w.alloc (.cells #[.int .i64 p, .int .i64 q] 54)).heap.size (w.alloc (.cells #[.int .i64 p, .int .i64 q] 54)) V := ⟨_, rfl⟩
 have RO : Hd (∀ V, KK V -> Calls Tryz.prog 29 #[.pointer (some ⟨R, 0, none⟩)] V fun e w' => e = .returned (.int .i64 (n : Int)) ∧ w' = V) := ⟨fun V hV => by rw [hKK] at hV; exact rounds_any (h1.below hV) hn⟩
 have AT : Hd (∀ V, Calls Tryz.prog 30 #[.agg cs, .agg #[.int .i64 p, .int .i64 q]] V fun e w' => e = .returned (.int .i64 (atN (s n) p q : Int)) ∧ Below V.heap.size V w') := ⟨fun V => at_any cs (s n) p q V HSV.out⟩
 have CT : Hd (∀ V, KK V -> Calls Tryz.prog 24 #[.pointer (some ⟨a, 0, none⟩), .pointer (some ⟨R, 0, none⟩), .int .i64 (atN (s n) p q : Int)] V fun e w' => ∃ (v er : Int), e = .returned (.tuple #[.int .i64 v, .int .i64 er]) ∧ Hd (SPostD True base a M mostA (ev ns (atN (s n) p q)) w nsA e w') ∧ Hd (∀ i, i < base ∨ i = w.heap.size -> w'.heap[i]? = V.heap[i]?)) := ⟨fun V hV => by
  rw [hKK] at hV
  have hb := chain hV D1
  have hR2 : Ar bR R MR 14 most V ns := hRc.ar.below hb
  have hA2 := hA.below hb
  have er : rowOf V R = rowOf w R := rowOf_same (hb.block _ hRc.lt)
  refine (take_fit (fun _ => true) hA2 hR2 (Nat.le_refl _) (fun i hi => by
   have h1 : i < base := by
    rcases hi with rfl | rfl | rfl
    ·exact u1
    ·exact u2
    ·rw [er]; exact u3
   have h2 := hA2.lowA
   have h3 := hA2.lowM
   have h4 := hA2.row.choose_spec.2.1
   refine ⟨by omega, by omega, by omega⟩) fn (fit1_all (Nat.le_add_left _ _)) hR2.vars16).mono fun e w' h => ?_
  have h' := h.setD hA hb
  obtain ⟨ns', v, er, he, _⟩ := id h'
  exact ⟨v, er, he, ⟨h'⟩, ⟨fun i hi => by
   obtain ⟨_, _, hk, _⟩ := h
   have q1 := hA.lta
   have q2 := hA.ltM
   obtain ⟨_, _, q3, q4⟩ := hA.row
   have q5 : rowOf V a = rowOf w a := rowOf_same (hb.block _ hA.lta)
   have q6 : w.heap.size + 1 <= V.heap.size := by simpa using hV.size
   have q7 := hA.lowA
   have q8 := hA.lowM
   refine hk.blk i (by omega) (fun hm => ?_) ?_
   ·rcases hm with e | e | e | e | e | e
    ·have : i = a := e
     omega
    ·have : i = a := e
     omega
    ·have : i = M := e
     omega
    ·cases e
    ·cases e
    ·cases e
   ·show i ≠ rowOf V a
    omega⟩⟩⟩
 have KS : Hd (∀ V V' : World, Below V.heap.size V V' -> (V.cell? ⟨R, 4, none⟩ = some (.slice (some ⟨g, 0, none⟩) (n + 1) cap) ∧ V.cell? ⟨w.heap.size, 0, none⟩ = some (.int .i64 p) ∧ V.cell? ⟨w.heap.size, 1, none⟩ = some (.int .i64 q) ∧ Hd (V.rangeAt g (n * 40) cs.toList)) -> (V'.cell? ⟨R, 4, none⟩ = some (.slice (some ⟨g, 0, none⟩) (n + 1) cap) ∧ V'.cell? ⟨w.heap.size, 0, none⟩ = some (.int .i64 p) ∧ V'.cell? ⟨w.heap.size, 1, none⟩ = some (.int .i64 q) ∧ Hd (V'.rangeAt g (n * 40) cs.toList))) := ⟨fun V V' k ⟨a1, a2, a3, a4⟩ => ⟨below_cell k a1, below_cell k a2, below_cell k a3, ⟨fun j v hj => below_cell k (a4.out j v hj)⟩⟩⟩
 have KB : Hd (∀ V V' : World, Below V.heap.size V V' -> KK V -> KK V') := ⟨fun V V' k h => by rw [hKK] at h ⊢; exact chain k h⟩
 have KD : Hd (∀ V, KK V -> Below w.heap.size w V) := ⟨fun V h => by rw [hKK] at h; exact chain h D1⟩
 have K0 : KK (w.alloc (.cells #[.int .i64 p, .int .i64 q] 54)).drew := by rw [hKK]; exact (Below.refl _ _).drew
 have S0 : (w.alloc (.cells #[.int .i64 p, .int .i64 q] 54)).drew.cell? ⟨R, 4, none⟩ = some (.slice (some ⟨g, 0, none⟩) (n + 1) cap) ∧ (w.alloc (.cells #[.int .i64 p, .int .i64 q] 54)).drew.cell? ⟨w.heap.size, 0, none⟩ = some (.int .i64 p) ∧ (w.alloc (.cells #[.int .i64 p, .int .i64 q] 54)).drew.cell? ⟨w.heap.size, 1, none⟩ = some (.int .i64 q) ∧ Hd ((w.alloc (.cells #[.int .i64 p, .int .i64 q] 54)).drew.rangeAt g (n * 40) cs.toList) := ⟨h1.c4, b0.cell 0 _ rfl, b0.cell 1 _ rfl, ⟨RG.out⟩⟩
 have c4 : (w.alloc (.cells #[.int .i64 p, .int .i64 q] 54)).cell? ⟨R, 4, none⟩ = some (.slice (some ⟨g, 0, none⟩) (n + 1) cap) := h1.c4
 have t0 : (((n + 1 : Nat) : Int) == 0) = false := by simp; omega
 have t0' : ((n : Int) + 1 == 0) = false := by simp; omega
 have i1 : (n : Int) < (n : Int) + 1 := by omega
 have i2 : (0 : Int) <= (n : Int) := by omega
 have hR : R < w.heap.size := hRc.lt
 have hae : a < w.heap.size := hA.lta
 have hgb : g < base := u4 g rfl
 generalize hQ : SPostD True base a M mostA (ev ns (atN (s n) p q)) w nsA = Q at *
 generalize atN (s n) p q = f at *
 clear hRc h1 b0 hcell HSV RG hs fn hKK D1 hcs hlen hA u2 u3 u4 hQ
 go_enter Tryz.func16, Tryz.ntmps16
 go_upto_region 3 with fail
 refine wp_region_held_drew (S := fun V => V.cell? ⟨R, 4, none⟩ = some (.slice (some ⟨g, 0, none⟩) (n + 1) cap) ∧ V.cell? ⟨w.heap.size, 0, none⟩ = some (.int .i64 p) ∧ V.cell? ⟨w.heap.size, 1, none⟩ = some (.int .i64 q) ∧ Hd (V.rangeAt g (n * 40) cs.toList)) (by kernel_rfl) S0 (fun hHeld => ?_)
 refine tk 0 ?_ (hy := by (intro w hSw; obtain ⟨s0, s1, s2, _⟩ := hSw; go_simp; (try with_reducible rfl))); try simp only [ly]
 refine tk 1 ?_ (hy := by (intro w hSw; obtain ⟨s0, s1, s2, _⟩ := hSw; go_simp; (try with_reducible rfl))); try simp only [ly]
 refine tk 2 ?_ (hy := by (intro w hSw; obtain ⟨s0, s1, s2, _⟩ := hSw; go_simp; (try with_reducible rfl))); try simp only [ly]
 refine tk 3 ?_ (hy := by (intro w hSw; obtain ⟨s0, s1, s2, _⟩ := hSw; go_simp; (try with_reducible rfl))); try simp only [ly]
 refine tk 4 ?_ (hy := by (intro w hSw; obtain ⟨s0, s1, s2, _⟩ := hSw; go_simp; (try with_reducible rfl))); try simp only [ly]
 refine tk 5 ?_ (hy := by (intro w hSw; obtain ⟨s0, s1, s2, _⟩ := hSw; go_simp; (try with_reducible rfl))); try simp only [ly]
 refine tk 6 ?_ (hy := by (intro w hSw; obtain ⟨s0, s1, s2, _⟩ := hSw; go_simp; (try with_reducible rfl))); try simp only [ly]
 refine tk 7 ?_ (hy := by (intro w hSw; obtain ⟨s0, s1, s2, _⟩ := hSw; go_simp; (try with_reducible rfl))); try simp only [ly]
 refine tk 8 ?_ (hy := by (intro w hSw; obtain ⟨s0, s1, s2, _⟩ := hSw; go_simp; (try with_reducible rfl))); try simp only [ly]
 refine tk 12 ?_ (hy := by (intro w hSw; obtain ⟨s0, s1, s2, _⟩ := hSw; go_simp; (try with_reducible rfl))); try simp only [ly]
 refine rd 9 (fun K hK => ?_)
 go_simp
 (with_reducible refine (RO.out _ K0).mono ?_)
 rintro e w2 ⟨rfl, rfl⟩
 dsimp only
 refine hK.out _ _ (hHeld) (fun hHeld => ?_)
 clear hK K
 try simp only [ly]
 refine tk 10 ?_ (hy := by (intro w hSw; go_simp; (try with_reducible rfl))); try simp only [ly]
 refine' wpAnyH_take (i := 11) (v := .agg cs) rfl (by kernel_rfl) (by kernel_rfl) (by kernel_rfl) (fun _ _ _ h => h) (yieldsIf_load_mid (by rfl) 82 _ rfl g (n * 40) rfl cs.toList _ (fun W hS => four_last hS) uSets rfl (by rw [Array.length_toList, h40.out]; exact iSets)) (by assumption) ?gr12
 try simp only [ly]
 refine rd 13 (fun K hK => ?_)
 go_simp
 (with_reducible refine (AT.out _).mono ?_)
 rintro e w3 ⟨rfl, hb3⟩
 have S3 := KS.out _ _ hb3 hHeld
 have K3 := KB.out _ _ hb3 K0
 dsimp only
 clear hHeld
 refine hK.out _ _ (S3) (fun hHeld => ?_)
 clear hK K
 try simp only [ly]
 refine rd 14 (fun K hK => ?_)
 go_simp
 (with_reducible refine (CT.out _ K3).mono ?_)
 rintro e w4 ⟨v, er, rfl, hQ4, hk4⟩
 have S4 : w4.cell? ⟨R, 4, none⟩ = some (.slice (some ⟨g, 0, none⟩) (n + 1) cap) ∧ w4.cell? ⟨w.heap.size, 0, none⟩ = some (.int .i64 p) ∧ w4.cell? ⟨w.heap.size, 1, none⟩ = some (.int .i64 q) ∧ Hd (w4.rangeAt g (n * 40) cs.toList) := ⟨(cellB (hk4.out R (Or.inl u1))).trans hHeld.1, (cellB (hk4.out _ (Or.inr rfl))).trans hHeld.2.1, (cellB (hk4.out _ (Or.inr rfl))).trans hHeld.2.2.1, ⟨fun j v hj => (cellB (hk4.out g (Or.inl hgb))).trans (hHeld.2.2.2.out j v hj)⟩⟩
 dsimp only
 clear hHeld hk4
 refine hK.out _ _ (S4) (fun hHeld => ?_)
 clear hK K
 try simp only [ly]
 refine tk 15 ?_ (hy := by (intro w hSw; go_simp; (try with_reducible rfl))); try simp only [ly]
 refine tk 16 ?_ (hy := by (intro w hSw; go_simp; (try with_reducible rfl))); try simp only [ly]
 refine tk 17 ?_ (hy := by (intro w hSw; go_simp; (try with_reducible rfl))); try simp only [ly]
 refine tk 18 ?_ (hy := by (intro w hSw; go_simp; (try with_reducible rfl))); try simp only [ly]
 refine wpAnyH_done (by kernel_rfl) ?_ _
 clear hHeld S4 S3 K3 K0 S0 RO AT CT KS KB KD
 go_wp2_with fail
 exact hQ4.out
theorem home_any (A B : Option Addr) (cap cap' nl : Nat) (ds : List Dv) (s : ByteArray) (w : World) (hD : Hid (Devs w.heap.size w (.slice A ds.length cap) ds)) :
  Calls Tryz.prog 17 #[.agg #[.slice A ds.length cap, .slice B nl cap'], .string s] w fun e w' => e = .returned (.agg #[.int .i64 (findFrom ds s.toList 0), .int .i64 0]) ∧ Below w.heap.size w w' := by
 have D0 : Below w.heap.size w (((w.alloc (.cells #[.slice A ds.length cap, .slice B nl cap'] 25)).alloc (.cells #[.string s] 9)).alloc (.cells #[.int .i64 0, .int .i64 0] 54)) := Below.alloc' (Below.alloc' (Below.alloc' (Below.refl _ _) _) _) _
 have S0 := (bk_new' (w.alloc (.cells #[.slice A ds.length cap, .slice B nl cap'] 25)) #[.string s] 9 (w.heap.size + 1) (by simp)).alloc (.cells #[.int .i64 0, .int .i64 0] 54)
 have P0 := bk_new' ((w.alloc (.cells #[.slice A ds.length cap, .slice B nl cap'] 25)).alloc (.cells #[.string s] 9)) #[.int .i64 0, .int .i64 0] 54 (w.heap.size + 1 + 1) (by simp)
 have IX : Hid (∀ W, Below w.heap.size w W -> Bk W (w.heap.size + 1) #[.string s] 9 -> Calls Tryz.prog 31 #[.slice A ds.length cap, .func (.func 32) #[] #[.pointer (some ⟨w.heap.size + 1, 0, none⟩)]] W fun e w' => e = .returned (.int .i64 (findFrom ds s.toList 0)) ∧ Below W.heap.size W w') := fun W h hb => homeIdx_any A ds.length cap ds s (w.heap.size + 1) W ((hD.out.below h).mono h.size) hb.lt hb.one.1
 clear hD
 generalize findFrom ds s.toList 0 = j at *
 go_enter Tryz.func17, Tryz.ntmps17
 go_wp2_with fail
 refine (IX.out _ D0 S0).mono ?_
 rintro e w1 ⟨rfl, hb1⟩
 have D1 := chain hb1 D0
 have P1 := Bk.keep hb1 P0
 clear hb1 D0 S0 P0 IX
 have hlt := P1.lt
 obtain ⟨p0, p1⟩ := P1.two
 have f0 := P1.fz 0
 have f1 := P1.fz 1
 go_wp2_with fail
 have Q := (P1.setS (j := 0) (.int .i64 j)).setS (j := 1) (.int .i64 0)
 have s0 := Q.at 0
 have s1 := Q.at 1
 refine bodyPost_ret (v := .agg #[.int .i64 j, .int .i64 0]) (by simp [results, Tryz.results17, go_sem, s0, s1]) rfl ⟨rfl, ?_⟩
 exact below_setS (below_setS D1 (by omega)) (by omega)
theorem between_rules {most n0 n1 : Nat} (w : World) (hm1 : 2 <= most) (hm2 : most <= 40000) (E : Prop) (φ ψ : Env -> Bool)
  (CA : Hd (∀ base a M W ns, w.heap.size <= base -> Below w.heap.size w W -> Ar base a M 14 most W ns -> Calls Tryz.prog 9 #[.pointer (some ⟨a, 0, none⟩), .pointer (some ⟨n0, 0, none⟩)] W (SPostD E base a M most φ W ns)))
  (CB : Hd (∀ base a M W ns, w.heap.size <= base -> Below w.heap.size w W -> Ar base a M 14 most W ns -> Calls Tryz.prog 11 #[.pointer (some ⟨a, 0, none⟩), .pointer (some ⟨n1, 0, none⟩)] W (SPostD E base a M most ψ W ns))) :
  Calls Tryz.prog 8 #[.int .i64 (most : Int), .func (.func 9) #[] #[.pointer (some ⟨n0, 0, none⟩)], .func (.func 11) #[] #[.pointer (some ⟨n1, 0, none⟩)]] w fun e w' => BtPost E φ ψ e ∧ Below w.heap.size w w' := by
 have NW : Hd (Calls Tryz.prog 19 #[.int .i64 14, .int .i64 (most : Int)] (w.alloc zc) fun e w' => ∃ a M, e = .returned (.tuple #[.pointer (some ⟨a, 0, none⟩), .int .i64 0]) ∧ Ar (w.alloc zc).heap.size a M 14 most w' [(14, 0, 0), (14, 1, 1)] ∧ Below (w.alloc zc).heap.size (w.alloc zc) w') := ⟨new_ok (v := 14) (m := most) _ (by omega) (by omega) hm1 hm2⟩
 have D1 := Below.alloc' (Below.refl w.heap.size w) zc
 go_enter Tryz.func8, Tryz.ntmps8
 go_wp2_with fail
 refine NW.out.mono ?_
 rintro e w2 ⟨a, M, rfl, A2, hb2⟩
 have Q2 : Loc (ca _ a M 14 most) w2 w.heap.size #[.int .i64 0, .int .i64 0, .int .i64 0, .int .i64 0] 28 := A2.locOld (by simp) ((hb2.block _ (by simp)).trans (Go.heap_alloc_new _ _))
 have D2 := chain hb2 D1
 have hbs : w.heap.size <= (w.alloc zc).heap.size := by simp
 clear hb2 D1 NW
 generalize (w.alloc zc).heap.size = base at *
 go_wp2_with fail
 refine (CA.out base a M w2 _ hbs D2 A2).mono ?_
 rintro e w3 ⟨ns3, v3, er3, rfl, A3, K3, X3, R3⟩
 have Q3 := Q2.kp K3
 have D3 := D2.trans ((A2.kp_below K3).mono hbs)
 clear Q2 D2 A2 K3 X3 CA
 rcases R3.out.symm with ⟨rfl, rfl, hE⟩ | ⟨rfl, f, rfl, lf, ef⟩
 ·obtain ⟨⟨q0, q1, q2, q3⟩, qf, ql⟩ := Q3.four'
  clear R3 Q3 A3
  go_wp2_with fail
  refine bodyPost_ret (v := .tuple #[zp, .int .i64 0, .int .i64 6]) (by simp [results, Tryz.results8, go_sem, q0, q1, q2, q3]) rfl ⟨Or.inl ⟨rfl, hE⟩, ?_⟩
  go_grown
 clear R3
 go_wp2_with fail
 refine (CB.out base a M w3 _ hbs D3 A3).mono ?_
 rintro e w4 ⟨ns4, v4, er4, rfl, A4, K4, X4, R4⟩
 have Q4 := Q3.kp K4
 have D4 := D3.trans ((A3.kp_below K4).mono hbs)
 have lf4 : f < ns4.length := Nat.lt_of_lt_of_le lf X4.len
 have ef4 : Hd (∀ x, ev ns4 f x = φ x) := ⟨fun x => (X4.ev A3.wf A4.wf f lf x).trans (ef x)⟩
 clear Q3 D3 A3 K4 X4 CB lf ef
 rcases R4.out.symm with ⟨rfl, rfl, hE⟩ | ⟨rfl, g, rfl, lg, eg⟩
 ·obtain ⟨⟨q0, q1, q2, q3⟩, qf, ql⟩ := Q4.four'
  clear R4 Q4 A4
  go_wp2_with fail
  refine bodyPost_ret (v := .tuple #[zp, .int .i64 0, .int .i64 6]) (by simp [results, Tryz.results8, go_sem, q0, q1, q2, q3]) rfl ⟨Or.inl ⟨rfl, hE⟩, ?_⟩
  go_grown
 have eg4 : Hd (∀ x, ev ns4 g x = ψ x) := ⟨eg⟩
 clear R4 eg
 go_wp2_with fail
 refine (differ_ok A4 lf4 lg).mono ?_
 rintro e w5 ⟨c, ok, rfl, T5, A5, K5⟩
 have Q5 := Q4.kp K5
 have D5 := D4.trans ((A4.kp_below K5).mono hbs)
 clear Q4 D4 A4 K5
 cases ok
 ·have fin : Hd (BtPost E φ ψ (.returned (.tuple #[zp, .int .i64 0, .int .i64 0]))) := ⟨Or.inr (Or.inl ⟨rfl, fun x => by
   rcases T5.out with ⟨rfl, _⟩ | ⟨_, h, _⟩
   ·rw [<- ef4.out, <- eg4.out]
   ·cases h⟩)⟩
  obtain ⟨⟨q0, q1, q2, q3⟩, qf, ql⟩ := Q5.four'
  clear T5 Q5 A5
  go_wp2_with fail
  refine bodyPost_ret (v := .tuple #[zp, .int .i64 0, .int .i64 0]) (by simp [results, Tryz.results8, go_sem, q0, q1, q2, q3]) rfl ⟨fin.out, ?_⟩
  go_grown
 have least : Hd (LeastD 16384 (fun c => φ (envOf 14 c)) (fun c => ψ (envOf 14 c)) c) := ⟨by
  rcases T5.out with ⟨_, _, h⟩ | ⟨_, _, h⟩
  ·cases h
  ·obtain ⟨h1, h2, h3⟩ := h
   refine ⟨h1, ?_, fun d hd => ?_⟩
   ·show φ _ ≠ ψ _
    rw [<- ef4.out, <- eg4.out]
    exact h2
   ·show φ _ = ψ _
    rw [<- ef4.out, <- eg4.out]
    exact h3 d hd⟩
 have hc : c < 16384 := least.out.1
 have EV : Hd (Calls Tryz.prog 22 #[.pointer (some ⟨a, 0, none⟩), .int .i64 (f : Int), .int .i64 (c : Int)] _ _) := ⟨eval_ok A5 lf4 (b := c) hc⟩
 clear EV
 clear T5
 have OF : Hd (∀ w, Calls Tryz.prog 21 #[.int .i64 (c : Int)] w fun e w' => e = .returned (.tuple #[pk ((c / 1024 : Nat) : Int) ((c / 64 % 16 : Nat) : Int) ((c / 8 % 8 : Nat) : Int) ((c % 8 : Nat) : Int), .int .i64 0]) ∧ Below w.heap.size w w') := ⟨fun w => of_any c w hc⟩
 have FIN : Hd (∀ k : Int, k = (if φ (envOf 14 c) then 1 else 2) -> BtPost E φ ψ (.returned (.tuple #[pk ((c / 1024 : Nat) : Int) ((c / 64 % 16 : Nat) : Int) ((c / 8 % 8 : Nat) : Int) ((c % 8 : Nat) : Int), .int .i64 k, .int .i64 0]))) := ⟨fun k hk => Or.inr (Or.inr ⟨c, by rw [hk], least.out⟩)⟩
 clear least
 generalize c / 1024 = p0 at *
 generalize c / 64 % 16 = p1 at *
 generalize c / 8 % 8 = p2 at *
 generalize c % 8 = p3 at *
 go_wp2_with fail
 refine (OF.out _).mono ?_
 rintro e w6 ⟨rfl, hb6⟩
 have D6 := chain hb6 D5
 have Q6 := Q5.below A5 hb6
 have A6 := A5.below hb6
 have A7 := A6.alloc (.cells #[.int .i64 (p0 : Int), .int .i64 (p1 : Int), .int .i64 (p2 : Int), .int .i64 (p3 : Int)] 28)
 have L7 := A6.loc #[.int .i64 (p0 : Int), .int .i64 (p1 : Int), .int .i64 (p2 : Int), .int .i64 (p3 : Int)] 28
 have Q7 := Q6.kp (Ar.kalloc' A6 (.cells #[.int .i64 (p0 : Int), .int .i64 (p1 : Int), .int .i64 (p2 : Int), .int .i64 (p3 : Int)] 28))
 have D7 := Below.alloc' D6 (.cells #[.int .i64 (p0 : Int), .int .i64 (p1 : Int), .int .i64 (p2 : Int), .int .i64 (p3 : Int)] 28)
 have EV : Hd (Calls Tryz.prog 22 #[.pointer (some ⟨a, 0, none⟩), .int .i64 (f : Int), .int .i64 (c : Int)] (w6.alloc (.cells #[.int .i64 (p0 : Int), .int .i64 (p1 : Int), .int .i64 (p2 : Int), .int .i64 (p3 : Int)] 28)) fun e w' => e = .returned (.tuple #[.bool (ev ns4 f (envOf 14 c)), .int .i64 0]) ∧ Ar base a M 14 most w' ns4 ∧ Kp (ca base a M 14 most) (w6.alloc (.cells #[.int .i64 (p0 : Int), .int .i64 (p1 : Int), .int .i64 (p2 : Int), .int .i64 (p3 : Int)] 28)) w') := ⟨eval_ok A7 lf4 (b := c) hc⟩
 have ev7 := ef4.out (envOf 14 c)
 rw [ev7] at EV
 clear hb6 D5 Q5 A5 Q6 A6 D6 ev7 OF
 go_wp2_with fail
 refine EV.out.mono ?_
 rintro e w8 ⟨rfl, A8, K8⟩
 have Q8 := Q7.kp K8
 have L8 := L7.kp K8
 have D8 := D7.trans ((A7.kp_below K8).mono hbs)
 obtain ⟨⟨q0, q1, q2, q3⟩, qf, ql⟩ := Q8.four'
 obtain ⟨⟨l0, l1, l2, l3⟩, lf', ll⟩ := L8.four'
 clear EV A7 A8 K8 Q7 L7 D7 Q8 L8
 cases hphi : φ (envOf 14 c)
 ·have fin := FIN.out 2 (by rw [hphi]; rfl)
  clear FIN
  go_wp2_with fail
  refine bodyPost_ret (v := .tuple #[pk (p0 : Int) (p1 : Int) (p2 : Int) (p3 : Int), .int .i64 2, .int .i64 0]) (by simp [results, Tryz.results8, go_sem, q0, q1, q2, q3]) rfl ⟨fin, ?_⟩
  go_grown
 ·have fin := FIN.out 1 (by rw [hphi]; rfl)
  clear FIN
  go_wp2_with fail
  refine bodyPost_ret (v := .tuple #[pk (p0 : Int) (p1 : Int) (p2 : Int) (p3 : Int), .int .i64 1, .int .i64 0]) (by simp [results, Tryz.results8, go_sem, q0, q1, q2, q3]) rfl ⟨fin, ?_⟩
  go_grown
section
variable {φ ψ φ' ψ' : Env -> Bool}
end
section
variable {ds : List Dv} {ls ls' : List Lk}
end
end Go.Proofs.YtmcklkkkkigflaaGreat
