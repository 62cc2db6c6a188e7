/-
  Rows of a call's own; slices whose blocks stay; ends of links are places.
-/
import Derived.Test.YthioedgnambomaaSd1
import Derived.Maps.AppendAt
import Derived.Deep.Heap
import Derived.OneCell
import Derived.Deep.RegionHeldLaw
namespace Go.Proofs.Ythioedgnambomaa
open Go.RowKit Go.Maps

/-! ### rows of a call's own -/
/-- All blocks but one are as they were. -/
structure KeptB (w w' : World) (row : Option Nat) : Prop where
  size : w.heap.size ≤ w'.heap.size
  block : ∀ k, k < w.heap.size → some k ≠ row → w'.heap[k]? = w.heap[k]?
theorem KeptB.of_below {w w' : World} (h : Below w.heap.size w w') : KeptB w w' none := ⟨h.size, fun k hk _ => h.block k hk⟩
section
variable {w w' : World} {B e size n : Nat} {v : Value} {xs : List Value} {row : Option Nat}
theorem own_block (h : w.ownsRow B e size v n xs) {g : Nat} (hg : v.ownBlock = some g) : g < w.heap.size ∧ B ≤ g ∧ ∃ cur, w.heap[g]? = some (.cells cur e (0, 0)) := by
  rcases h.2 with ⟨rfl, _⟩ | ⟨g', cap, cur, rfl, hb, hh, _⟩
  · cases hg
  · obtain rfl : g' = g := by simpa [Value.ownBlock] using hg
    exact ⟨(Array.getElem?_eq_some_iff.1 hh).1, hb, cur, hh⟩
theorem own_keptBut (h : w.ownsRow B e size v n xs) (hk : ∀ g, v.ownBlock = some g → w'.heap[g]? = w.heap[g]?) : w'.ownsRow B e size v n xs := by
  refine ⟨h.1, ?_⟩
  rcases h.2 with k | ⟨g, cap, cur, h1, h2, h3, h4⟩
  · exact Or.inl k
  · exact Or.inr ⟨g, cap, cur, h1, h2, (hk g (by rw [h1]; rfl)).trans h3, h4⟩
theorem own_kept (h : w.ownsRow B e size v n xs) (hk : KeptB w w' row) (hr : ∀ g, v.ownBlock = some g → row ≠ some g) : w'.ownsRow B e size v n xs :=
  own_keptBut h (fun g hg => hk.block g (own_block h hg).1 (fun e => hr g hg e.symm))
theorem own_below (h : w.ownsRow B e size v n xs) (hb : Below w.heap.size w w') : w'.ownsRow B e size v n xs := own_keptBut h (fun g hg => hb.block g (own_block h hg).1)
theorem own_ck (h : w.ownsRow B e size v n xs) (hc : CK w w') : w'.ownsRow B e size v n xs := own_keptBut h (fun g hg => by
  obtain ⟨h1, _, cur, h2⟩ := own_block h hg
  exact hc.block g (fun es c e => by rw [h2] at e; cases e) h1)
end
/-- append, of one element that was just laid, to a row of the call's own. -/
theorem app_el {t e : TypeId} {z : Value} {size bytes : Nat} (hu : Try.prog.underlying t = some (.slice e)) (hinfo : (Try.prog.info? e).map (fun i => (i.zero, i.size, i.bytes)) = some (some z, size, bytes)) (hz1 : z.cells.size = size) (hs0 : 0 < size) (hby : bytes ≤ 128)
    {base n : Nat} {w : World} {v : Value} {xs us : List Value} (ty : TypeId) (h : w.ownsRow base e size v n xs) (hus : us.length = size) (h1 : ∀ u ∈ us, u.oneCell' = true) (hn : n ≤ 5000) (hb : base ≤ w.heap.size) :
    ∃ v' w', (Builtin.append_ #[t, t] ty #[v, .slice (some ⟨w.heap.size, 0, none⟩) 1 1]).run Try.prog (w.alloc (.cells us.toArray e)) = .ok v' w' ∧ w'.ownsRow base e size v' (n + 1) (xs ++ us) ∧ Below base w w' ∧ KeptB w w' v.ownBlock ∧ (v'.ownBlock = v.ownBlock ∨ ∃ g, v'.ownBlock = some g ∧ w.heap.size ≤ g) := by
  obtain ⟨i0, hi, hz0, hz1', hz2⟩ := info_parts hinfo
  have hA : Below w.heap.size w (w.alloc (.cells us.toArray e)) := (Below.refl _ _).alloc (Nat.le_refl _) _
  have ho : (w.alloc (.cells us.toArray e)).ownsRow base e size v n xs := own_kept h (KeptB.of_below hA) (fun g _ => by simp)
  obtain ⟨v', w', hr, h4, h5, _, h7⟩ := run_append_own_at (P := Try.prog) (w.alloc (.cells us.toArray e)) base t ty e i0 z size bytes hu hi hz0 hz1' hz2 hz1 hs0 v n xs ho ⟨w.heap.size, 0, none⟩ 1 1 us (by rw [hus, Nat.one_mul]) (fun j x hj => by
    have hg : (w.alloc (.cells us.toArray e)).heap[w.heap.size]? = some (.cells us.toArray e) := Go.Deep.blk_alloc_new w _
    rw [Addr.add_lit, Nat.zero_add]
    simp only [World.cell?, hg]
    simp [hj]) h1 (by unfold maxLen; omega) (by
      have : (n + 1) * bytes ≤ 5001 * 128 := Nat.mul_le_mul (by omega) hby
      omega) (by simp; omega)
  have hsz : (w.alloc (.cells us.toArray e)).heap.size = w.heap.size + 1 := Go.Deep.nblk_alloc w _
  refine ⟨v', w', hr, h4, ?_, ⟨by have := h5.size; omega, fun k hk hne => ?_⟩, ?_⟩
  · exact ((Below.refl base w).alloc hb (.cells us.toArray e)).grown h5 (by simp; omega) (fun k e => (ho.lt k e).1)
  · rw [h5.block k (by omega) hne, Go.Deep.blk_alloc_lt w _ k hk]
  · rcases h7 with h7 | h7
    · exact Or.inl h7
    · exact Or.inr ⟨_, h7, by omega⟩
/-- At a step of a region that draws: append, by its run. -/
theorem step_append_run {P : Program} {w : World} {ops : Array Oper} {o : Oper} {a : Act} {K : Act → World → Prop} {Q : Exit → Act → World → Prop} {E : Prop} (hgd : o.guard = none) (s x : Operand) (t : TypeId)
    (ho : o.op = .call { callee := .builtin .append, args := #[s, x], argTypes := #[t, t] }) (v u v' : Value) (w' : World) (hs : a.eval s = v) (hx : a.eval x = u)
    (hr : (Builtin.append_ #[t, t] o.type #[v, u]).run P w = .ok v' w') (h : K (a.put o.dst v') w') :
    if Region.wanted o (yielded ops a.tmps) = true then Oper.wp P o a w K Q else E := by
  have hw : Region.wanted o (yielded ops a.tmps) = true := by simp [Region.wanted, hgd]
  rw [if_pos hw]
  unfold Oper.wp execOp
  simp only [ho, resolve, invoke, builtin, Sem.run_bind, Sem.run_pure, Result.andThen_ok, List.map_toArray, List.map_cons, List.map_nil, hs, hx, hr]
  exact h

theorem own_sl {w : World} {B e size n : Nat} {v : Value} {xs : List Value} (h : w.ownsRow B e size v n xs) : ∃ A cap, v = .slice A n cap ∧ ∀ a, A = some a → v.ownBlock = some a.block := by
  rcases h.2 with ⟨rfl, h0⟩ | ⟨g, cap, cur, rfl, _⟩
  · refine ⟨none, 0, ?_, fun a e => by cases e⟩
    first
      | rfl
      | (rw [h0])
      | simp_all
  · exact ⟨some ⟨g, 0, none⟩, cap, rfl, fun a e => by cases e; rfl⟩
/-- A slice stays where its block does. -/
theorem SlAt.blkS {α : Type} {base base' n : Nat} {w w' : World} {R : List Value → α → Prop} {A : Option Addr} {c : Nat} {xs : List α} (h : SlAt base w n R (.slice A xs.length c) xs) (hb : ∀ a, A = some a → w'.heap[a.block]? = w.heap[a.block]? ∧ a.block < base') : SlAt base' w' n R (.slice A xs.length c) xs := by
  obtain ⟨A', c', e, h0, h1, h2, h3⟩ := h
  cases e
  refine ⟨A, c, rfl, h0, h1, h2, fun hn => ?_⟩
  obtain ⟨b, o, ea, hl, hr⟩ := h3 hn
  obtain ⟨e1, e2⟩ := hb _ ea
  refine ⟨b, o, ea, e2, fun k x hx => ?_⟩
  obtain ⟨cs, c1, c2, c3⟩ := hr k x hx
  exact ⟨cs, c1, c2, fun j u hj => (cell_of_blockC e1).trans (c3 j u hj)⟩
theorem SlAt.takeS {α : Type} {base n : Nat} {w : World} {R : List Value → α → Prop} {A : Option Addr} {c : Nat} {xs ys : List α} (h : SlAt base w n R (.slice A (xs ++ ys).length c) (xs ++ ys)) : SlAt base w n R (.slice A xs.length c) xs := by
  obtain ⟨A', c', e, h0, h1, h2, h3⟩ := h
  cases e
  refine ⟨A, c, rfl, h0, ?_, h2, fun hn => ?_⟩
  · rw [List.length_append] at h1
    omega
  · obtain ⟨b, o, ea, hl, hr⟩ := h3 (by simp [hn])
    exact ⟨b, o, ea, hl, fun k x hx => hr k x (by rw [List.getElem?_append_left (List.getElem?_eq_some_iff.1 hx).1]; exact hx)⟩
/-- The other end is a place of the net. -/
theorem endOf_place {l : Lk} {ds : List Dv} {d p : Int} {t : Int × Int} (h : endOf l d p = some t) (h1 : isPl ds l.a l.p = true) (h2 : isPl ds l.b l.q = true) : isPl ds t.1 t.2 = true := by
  unfold endOf at h
  split at h
  · cases h; exact h2
  · split at h
    · cases h; exact h1
    · cases h
theorem peerF_place {ds : List Dv} : ∀ (ls : List Lk) (d p : Int) (t : Int × Int), (∀ l ∈ ls, isPl ds l.a l.p = true ∧ isPl ds l.b l.q = true) → peerF ls d p = some t → isPl ds t.1 t.2 = true
  | [], d, p, t, _, h => by cases h
  | l :: ls, d, p, t, hl, h => by
    have h' : (endOf l d p).or (peerF ls d p) = some t := h
    cases he : endOf l d p with
    | some t' =>
      rw [he] at h'
      cases h'
      exact endOf_place he (hl l (by simp)).1 (hl l (by simp)).2
    | none =>
      rw [he] at h'
      exact peerF_place ls d p t (fun m hm => hl m (by simp [hm])) h'
theorem isPl_ok {ds : List Dv} (hd : ds.length ≤ 10) {x y : Int} (h : isPl ds x y = true) : i64ok x ∧ i64ok y := by
  unfold isPl at h
  simp only [Bool.and_eq_true, decide_eq_true_eq] at h
  have : portsV (kindAt ds x) ≤ 4 := by
    unfold portsV
    split
    all_goals first | omega | (split <;> omega) | skip
  exact ⟨i64ok_of (by omega) (by omega), i64ok_of (by omega) (by omega)⟩
theorem peer_ok {ds : List Dv} {ls : List Lk} (hz : netV ds ls = 0) {d p : Int} {t : Int × Int} (h : peerF ls d p = some t) : i64ok t.1 ∧ i64ok t.2 :=
  isPl_ok (netV_links hz).1 (peerF_place ls d p t (netV_links hz).2.2.2 h)
/-- Below block number T all but maps is as it was. -/
def KT (T : Nat) (W W' : World) : Prop := ∀ b, b < T → (∀ es c, W.heap[b]? ≠ some (.map es c)) → W'.heap[b]? = W.heap[b]?
theorem KT.of_below {T : Nat} {W W' : World} (hb : Below W.heap.size W W') (hT : T ≤ W.heap.size) : KT T W W' := fun b h _ => hb.block b (by omega)
theorem KT.cell {T : Nat} {W W' : World} (h : KT T W W') {b o : Nat} {v : Value} (hb : b < T) (hc : W.cell? ⟨b, o, none⟩ = some v) : W'.cell? ⟨b, o, none⟩ = some v := by
  have e := h b hb (fun es c e => by
    unfold World.cell? at hc
    rw [e] at hc
    cases hc)
  unfold World.cell? at hc ⊢
  rw [e]
  exact hc
theorem SlAt.kt {α : Type} {T k : Nat} {w w' : World} {R R' : List Value → α → Prop} {v : Value} {xs : List α} (h : SlAt T w k R v xs) (hb : KT T w w') (hR : ∀ cs x, x ∈ xs → R cs x → R' cs x) : SlAt T w' k R' v xs := by
  obtain ⟨A, cap, e, h0, h1, h2, h3⟩ := h
  refine ⟨A, cap, e, h0, h1, h2, fun hn => ?_⟩
  obtain ⟨b, o, ea, hl, hr⟩ := h3 hn
  refine ⟨b, o, ea, hl, fun k x hx => ?_⟩
  obtain ⟨cs, c1, c2, c3⟩ := hr k x hx
  exact ⟨cs, c1, hR cs x (List.mem_of_getElem? hx) c2, fun j u hj => hb.cell hl (c3 j u hj)⟩
theorem IsDv.kt {T : Nat} {w w' : World} {cs : List Value} {d : Dv} (h : IsDv T w cs d) (hb : KT T w w') : IsDv T w' cs d := by
  obtain ⟨vb, vr, vt, e, h1, h2, h3⟩ := h
  exact ⟨vb, vr, vt, e, h1.kt hb (fun _ _ _ h => h), h2.kt hb (fun _ _ _ h => h), h3.kt hb (fun _ _ _ h => h)⟩
theorem Devs.kt {T : Nat} {w w' : World} {v : Value} {ds : List Dv} (h : Devs T w v ds) (hb : KT T w w') : Devs T w' v ds := SlAt.kt h hb (fun _ _ _ h => h.kt hb)
theorem Links.kt {T : Nat} {w w' : World} {v : Value} {ls : List Lk} (h : Links T w v ls) (hb : KT T w w') : Links T w' v ls := SlAt.kt h hb (fun _ _ _ h => h)
theorem Bk.kt {T k : Nat} {w w' : World} {c : Array Value} {t : TypeId} (h : Bk w k c t) (hb : KT T w w') (hk : k < T) : Bk w' k c t := (hb k hk (fun es x e => by unfold Bk at h; rw [h] at e; cases e)).trans h
end Go.Proofs.Ythioedgnambomaa
