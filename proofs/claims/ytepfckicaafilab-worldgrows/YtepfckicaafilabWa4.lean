/-
  Package world: arrive.
-/
import Derived.Test.YtepfckicaafilabWa3
namespace Go.Proofs.Ytepfckicaafilab
open Go.RowKit Go.Maps

open Classical in
noncomputable def addA (ar : List Arv) (x : Arv) : List Arv := if x ∈ ar then ar else ar ++ [x]
/-- Where the row of arrivals may lie behind a call. -/
def SG (S S' : Option Addr) (N : Nat) : Prop := ∀ a', S' = some a' → (∃ a, S = some a ∧ a.block = a'.block) ∨ N ≤ a'.block
theorem SG.refl (S : Option Addr) (N : Nat) : SG S S N := fun a h => Or.inl ⟨a, h, rfl⟩
theorem own_sl {w : World} {B e size n : Nat} {v : Value} {xs : List Value} (h : w.ownsRow B e size v n xs) : ∃ A cap, v = .slice A n cap ∧ ∀ a, A = some a → v.ownBlock = some a.block := by
  rcases h.2 with ⟨rfl, h0⟩ | ⟨g, cap, cur, rfl, _⟩
  · refine ⟨none, 0, ?_, fun a e => by cases e⟩
    first
      | rfl
      | (rw [h0])
      | simp_all
  · exact ⟨some ⟨g, 0, none⟩, cap, rfl, fun a e => by cases e; rfl⟩
theorem arC_one (x : Arv) : ∀ u ∈ arC x, u.oneCell' = true := by
  intro u hu
  simp only [arC, List.mem_cons, List.not_mem_nil, or_false] at hu
  rcases hu with rfl | rfl | rfl | rfl | rfl | rfl <;> rfl
/-- What arrive leaves. -/
def AOut (w : World) (p : Wp) (S : Option Addr) (ds : List Dv) (ls : List Lk) (n : Nat) (M : Mnd) (ar : List Arv) (w' : World) : Prop :=
  ∃ S' cS', WlAt w' p S' cS' ds ls n M ar ∧ WF p S w w' ∧ SG S S' w.heap.size
theorem aout_new {w w2 w3 w7 : World} {p : Wp} {S : Option Addr} {cS : Nat} {ds : List Dv} {ls : List Lk} {n : Nat} {M : Mnd} {ar : List Arv} {x : Arv} {v7 : Value} (hx : arvOk x) (hb : Below w.heap.size w w2) (h2 : WlAt w2 p S cS ds ls n M ar) (hG : MapAt arvE unitV w3 p.G (n + 1) (putF (inF ar) x ())) (ht : w2.drew.mapTurned w3 p.G) (O7 : w7.ownsRow (p.B + 1) 43 6 v7 (ar.length + 1) (ar.flatMap arC ++ arC x)) (D7 : Below (p.B + 1) w3.drew w7) (K7 : KeptB w3.drew w7 (Value.slice S ar.length cS).ownBlock) (g7 : v7.ownBlock = (Value.slice S ar.length cS).ownBlock ∨ ∃ g, v7.ownBlock = some g ∧ w3.drew.heap.size ≤ g) :
    AOut w p S ds ls (n + 1) M (ar ++ [x]) (w7.setCell ⟨p.B, 7, none⟩ v7) := by
  have hc := CK.of_turned ht
  have B3 : Bk w3 p.B _ _ := h2.drew.blk.ck hc
  have sz3 := mapTurned_size ht
  have zB : p.B < w3.heap.size := B3.lt
  have B7 : Bk w7 p.B _ _ := (D7.block p.B (by omega)).trans B3
  obtain ⟨A7, c7, rfl, hA7⟩ := own_sl O7
  have hF : ∀ b, b ≠ p.B → (w7.setCell ⟨p.B, 7, none⟩ (.slice A7 (ar.length + 1) c7)).heap[b]? = w7.heap[b]? := fun b h => Below.heap_setCell w7 ⟨p.B, 7, none⟩ _ b h
  have hlow : ∀ b, b < p.B → (w7.setCell ⟨p.B, 7, none⟩ (.slice A7 (ar.length + 1) c7)).heap[b]? = w3.heap[b]? := fun b h => (hF b (by omega)).trans (D7.block b (by omega))
  obtain ⟨l1, l2, l3, l4⟩ := h2.lo
  have kt : KT p.B w2 (w7.setCell ⟨p.B, 7, none⟩ (.slice A7 (ar.length + 1) c7)) := fun b hb' hn => (hlow b hb').trans (hc.block b hn (Nat.lt_trans hb' h2.blk.lt))
  have mp : ∀ b, b < p.B → b ≠ p.G → (w7.setCell ⟨p.B, 7, none⟩ (.slice A7 (ar.length + 1) c7)).heap[b]? = w2.heap[b]? := fun b h1 h3 => (hlow b h1).trans (mapTurned_block (w := w2.drew) ht h3)
  have hsz : (w7.setCell ⟨p.B, 7, none⟩ (.slice A7 (ar.length + 1) c7)).heap.size = w7.heap.size := by simp [World.setCell]
  refine ⟨A7, c7, ⟨?_, h2.devs.kt kt, h2.links.kt kt, h2.mdevs.kt kt, h2.mlinks.kt kt, (h2.fl.same (mp _ l1 (fun e => h2.gf e.symm))).mono (by omega), (h2.ow.same (mp _ l2 (fun e => h2.go e.symm))).mono (by omega), (h2.bk.same (mp _ l3 (fun e => h2.gk e.symm))).mono (by omega), h2.fo, h2.fk, h2.ok, ?_, ?_, h2.gf, h2.go, h2.gk, h2.lo, ?_⟩, ⟨?_, ?_, ?_, ?_, ?_⟩, ?_⟩
  · have := B7.setS (j := 7) (.slice A7 (ar.length + 1) c7)
    simpa using this
  · have ho := own_keptBut (w' := w7.setCell ⟨p.B, 7, none⟩ (.slice A7 (ar.length + 1) c7)) O7 (fun g hg => hF g (by have := (own_block O7 hg).2.1; omega))
    simpa using ho
  · rw [← inF_add]
    exact hG.same (hlow _ l4)
  · intro y hy
    rcases List.mem_append.1 hy with h | h
    · exact h2.all y h
    · rw [List.mem_singleton.1 h]
      exact hx
  · have e1 : w7.os = w3.drew.os := D7.os
    have e2 : w3.os = w2.os := ht.grown.os
    exact e1.trans (e2.trans hb.os)
  · exact (D7.tape.trans ht.grown.tape).trans hb.tape
  · exact (D7.output.trans ht.grown.output).trans hb.output
  · rw [hsz]
    have z7 := K7.size
    have : w3.drew.heap.size = w3.heap.size := rfl
    have : w2.drew.heap.size = w2.heap.size := rfl
    have := hb.size
    omega
  · intro b hb' q1 q2 q3 q4 q5 q6
    rw [hF b q1]
    have z2 := hb.size
    have e3 : w2.drew.heap.size = w2.heap.size := rfl
    have e4 : w3.drew.heap.size = w3.heap.size := rfl
    have hS : some b ≠ (Value.slice S ar.length cS).ownBlock := fun e => by
      cases S with
      | none => cases e
      | some a =>
        have : a.block = b := by
          simp only [Value.ownBlock] at e
          first
            | exact (Option.some.inj e).symm
            | (split at e <;> simp_all)
        exact q6 a rfl this.symm
    exact (K7.block b (by omega) hS).trans ((mapTurned_block ht q5).trans (hb.block b hb'))
  · intro a' ha'
    have hb7 := hA7 a' ha'
    rcases g7 with g7 | ⟨g, g7, hg⟩
    · rw [hb7] at g7
      left
      cases S with
      | none => cases g7
      | some a =>
        refine ⟨a, rfl, ?_⟩
        simp only [Value.ownBlock] at g7
        first
          | exact (Option.some.inj g7).symm
          | (split at g7 <;> simp_all)
    · right
      rw [hb7] at g7
      have e5 := Option.some.inj g7
      have e4 : w3.drew.heap.size = w3.heap.size := rfl
      have e3 : w2.drew.heap.size = w2.heap.size := rfl
      have := hb.size
      omega
end Go.Proofs.Ytepfckicaafilab
