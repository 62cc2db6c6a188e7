/-
  Package step: Handle, whole.
-/
import Derived.Test.YthioedgnambomaaSx2
import Derived.Test.YthioedgnambomaaSx3
import Derived.Test.YthioedgnambomaaSx4
namespace Go.Proofs.Ythioedgnambomaa
open Go.RowKit Go.Maps

/-- What is asked of a device's address, if its packets are to be keys. -/
def AddrsOk (ds : List Dv) : Prop := ∀ d ∈ ds, i64ok d.addr
/-- Handle. -/
theorem handle_any (m : Mp) (ds : List Dv) (ls : List Lk) (n : Nat) (M : Mnd) (i q : Int) (p : Pk) (c : Int) (w : World) (hM : MemAt w m ds ls n M) (hn : n < maxLen) (ha : AddrsOk ds) (hi : i64ok i) (hc : i64ok c) :
    Calls Try.prog 9 #[.pointer (some ⟨m.B, m.z, none⟩), plA i q, pkV p, .int .i64 c] w (HPost m ds ls n w (handleP ds ls M i q p c)) := by
  cases hpl : isPl ds i q
  · exact handle_none m ds ls n M i q p c _ w hM hpl (by show _ = _; unfold handleP; rw [hpl]; rfl)
  cases hpk : pkOk p
  · exact handle_bad m ds ls n M i q p c _ w hM hpl hpk (by show _ = _; unfold handleP; rw [hpl, hpk]; rfl)
  obtain ⟨k, rfl, d, hd, hg⟩ := isPl_dev hpl
  have e : handleP ds ls M (k : Int) q p c = if (sendP d M (k : Int) q p c).err = 0 then (match peerF ls (k : Int) (sendP d M (k : Int) q p c).port with
        | some t => ⟨0, t, (sendP d M (k : Int) q p c).p, learnP M (sendP d M (k : Int) q p c).l⟩
        | none => badH 7 M) else badH (sendP d M (k : Int) q p c).err M := by
    unfold handleP
    rw [hpl, hpk, hg]
    rfl
  have SD : ∀ W, MemAt W m ds ls n M → Calls Try.prog 18 #[.pointer (some ⟨m.B, m.z, none⟩), plA (k : Int) q, pkV p, .int .i64 c] W (SPost m W (sendP d M (k : Int) q p c)) := fun W h => send_any m ds ls n M k d q p c W h hd (pkOk_ok hpk) hi hc (ha d (List.mem_of_getElem? hd))
  rw [e]
  generalize sendP d M (k : Int) q p c = r at *
  by_cases hz : r.err = 0
  rotate_left
  · rw [if_neg hz]
    exact handle_err m ds ls n M k q p c _ r w hM hpl hpk (by simpa using hz) rfl SD
  rw [if_pos hz]
  obtain ⟨er, port, ⟨ps, pd, psp, pdp⟩, l⟩ := r
  simp only at hz
  subst hz
  have PE : ∀ W, MemAt W m ds ls n M → Calls Try.prog 19 #[.agg #[.slice m.A ds.length m.cap, .slice m.L ls.length m.cap'], plA (k : Int) port] W fun e w' => e = .returned (.tuple #[placeV (peerF ls (k : Int) port), .bool (peerF ls (k : Int) port).isSome]) ∧ Below W.heap.size W w' := fun W h => peer_any _ _ _ _ ls _ _ W h.links
  simp only
  generalize peerF ls (k : Int) port = pv at *
  cases l with
  | no => exact handle_no m ds ls n M k q p c _ port ps pd psp pdp pv w hM hn hpl hpk SD PE (fun e => by subst e; rfl) (fun t e => by subst e; rfl)
  | flow j p3 => exact handle_flow m ds ls n M k q p c j p3 _ port ps pd psp pdp pv w hM hn hpl hpk SD PE (fun e => by subst e; rfl) (fun t e => by subst e; rfl)
  | own j k3 s3 => exact handle_own m ds ls n M k q p c j k3 s3 _ port ps pd psp pdp pv w hM hn hpl hpk SD PE (fun e => by subst e; rfl) (fun t e => by subst e; rfl)
  | back j p3 x3 => exact handle_back m ds ls n M k q p c j p3 x3 _ port ps pd psp pdp pv w hM hn hpl hpk SD PE (fun e => by subst e; rfl) (fun t e => by subst e; rfl)
end Go.Proofs.Ythioedgnambomaa
