/-
  XBD.
-/
import Derived.Test.YtlmmeppifkigeaaGreatXBC
import Derived.Test.YtlmmeppifkigeaaGreatLy
set_option maxHeartbeats 8000000
set_option maxRecDepth 100000
namespace Go.Proofs.YtlmmeppifkigeaaGreat
open Go.RowKit Go.Maps
theorem bz_newR (w : World) (c : Array Value) (t : TypeId) : Bz (w.alloc (.cells c t)) w.heap.size c t := Bz.new w c t _ rfl
theorem bz_newR' (w : World) (c : Array Value) (t : TypeId) (k : Nat) (h : k = w.heap.size) : Bz (w.alloc (.cells c t)) k c t := Bz.new w c t k h
section
variable {w w' : World} {k : Nat} {c : Array Value} {t : TypeId}
theorem Bz.keepR (h : Bz w k c t) (hb : Below w.heap.size w w') : Bz w' k c t := (hb.block k h.lt).trans h
theorem Bz.atR (h : Bz w k c t) (j : Nat) : w.cell? ⟨k, j, none⟩ = c[j]? := cell_of_row w k j _ _ _ h
end
theorem Bz.fiveR {w : World} {k : Nat} {t : TypeId} {a b c d e : Value} (h : Bz w k #[a, b, c, d, e] t) : w.cell? ⟨k, 0, none⟩ = some a ∧ w.cell? ⟨k, 1, none⟩ = some b ∧ w.cell? ⟨k, 2, none⟩ = some c ∧ w.cell? ⟨k, 3, none⟩ = some d ∧ w.cell? ⟨k, 4, none⟩ = some e := ⟨h.atR 0, h.atR 1, h.atR 2, h.atR 3, h.atR 4⟩
def hostR (nm : ByteArray) (a : Int) (h : nm.size <= maxLen) : Dv := ⟨nm, 1, a, 0, [], [], [], by omega, h⟩
def chainR (d : Dv) : List Dv := [hostR ⟨#[105, 110]⟩ 1 (by decide), { d with name := ⟨#[100]⟩, hs := by decide }, hostR ⟨#[111, 117, 116]⟩ 2 (by decide)]
def chainLR : List Lk := [⟨0, 0, 1, 0⟩, ⟨1, 1, 2, 0⟩]
theorem checkV_nilR : checkV [] = 0 := by
 unfold checkV
 rw [if_neg (by simp), checkFrom_end (by simp)]
theorem backsFrom_nilR (ad : Int) : backsFrom [] ad 0 = 0 := by
 unfold backsFrom
 simp
theorem host_okR (nm : ByteArray) (a : Int) (h : nm.size <= maxLen) (h0 : 0 <= a) (h1 : a <= 15) : devC (hostR nm a h) = 0 := by
 unfold devC devV hostR
 simp [hasAddr, checkV_nilR, backsFrom_nilR, h0, h1]
theorem chain_netVR (d : Dv) (hk : d.kind = 3 ∨ d.kind = 4 ∨ d.kind = 5) : netV (chainR d) chainLR = devC d := by
 have e0 : devWrong (chainR d) 0 (hostR ⟨#[105, 110]⟩ 1 (by decide)) = 0 := by
  unfold devWrong
  rw [if_pos (by decide), if_neg (by simp), host_okR _ _ _ (by omega) (by omega)]
 have e1 : devWrong (chainR d) 1 { d with name := ⟨#[100]⟩, hs := by decide } = devC d := by
  unfold devWrong
  rw [if_pos (show nameOk ⟨#[100]⟩ = true by decide), if_neg]
  ·rfl
  ·simp [chainR, hostR]
 have e2 : devWrong (chainR d) 2 (hostR ⟨#[111, 117, 116]⟩ 2 (by decide)) = 0 := by
  unfold devWrong
  rw [if_pos (by decide), if_neg, host_okR _ _ _ (by omega) (by omega)]
  simp [chainR, hostR]
 have ld : (chainR d).length = 3 := rfl
 have ll : chainLR.length = 2 := rfl
 have pd : portsV d.kind = 2 := by
  unfold portsV
  rcases hk with h | h | h <;> rw [h] <;> rfl
 unfold netV
 rw [if_neg (by rw [ld, ll]; omega)]
 rw [devsFrom_at (d := hostR ⟨#[105, 110]⟩ 1 (by decide)) rfl, if_pos e0, devsFrom_at (d := { d with name := ⟨#[100]⟩, hs := by decide }) rfl, e1]
 by_cases hz : devC d = 0
 ·rw [if_pos hz, devsFrom_at (d := hostR ⟨#[111, 117, 116]⟩ 2 (by decide)) rfl, if_pos e2, devsFrom_end (by rw [ld]; omega), if_pos rfl, hz]
  have k0 : kindAt (chainR d) 0 = 1 := rfl
  have k1 : kindAt (chainR d) 1 = d.kind := rfl
  have k2 : kindAt (chainR d) 2 = 1 := rfl
  have p1 : portsV 1 = 1 := rfl
  have l0 : linkWrong (chainR d) chainLR 0 ⟨0, 0, 1, 0⟩ = 0 := by
   unfold linkWrong isPl
   simp [ld, k0, k1, pd, p1, selfB]
  have l1 : linkWrong (chainR d) chainLR 1 ⟨1, 1, 2, 0⟩ = 0 := by
   unfold linkWrong isPl
   simp [ld, k1, k2, pd, p1, selfB, chainLR, meetB]
  rw [linksFrom_at (l := ⟨0, 0, 1, 0⟩) rfl, if_pos l0, linksFrom_at (l := ⟨1, 1, 2, 0⟩) rfl, if_pos l1, linksFrom_end (by rw [ll]; omega)]
 ·rw [if_neg hz, if_neg hz]
theorem row21R {w : World} {b : Nat} {d : Dv} {vb vr vt : Value} (h : Bz w b #[.string ⟨#[105, 110]⟩, .int .i64 1, .int .i64 1, .int .u8 0, .slice none 0 0, .slice none 0 0, .slice none 0 0, .string ⟨#[100]⟩, .int .i64 d.kind, .int .i64 d.addr, .int .u8 (d.pool : Int), vb, vr, vt, .string ⟨#[111, 117, 116]⟩, .int .i64 1, .int .i64 2, .int .u8 0, .slice none 0 0, .slice none 0 0, .slice none 0 0] 62)
  (hb : SlAt w.heap.size w 1 IsI vb d.backs) (hr : SlAt w.heap.size w 5 IsRule vr d.rules) (ht : SlAt w.heap.size w 3 IsRoute vt d.routes) : Devs w.heap.size w (.slice (some ⟨b, 0, none⟩) 3 3) (chainR d) := by
 have nil : ∀ {α : Type} (n : Nat) (R : List Value -> α -> Prop), SlAt w.heap.size w n R (.slice none 0 0) [] := fun n R => ⟨none, 0, rfl, fun _ => rfl, Nat.le_refl _, Nat.zero_le _, fun h => absurd rfl h⟩
 refine ⟨some ⟨b, 0, none⟩, 3, rfl, (fun e => by cases e), Nat.le_refl _, by decide, fun _ => ⟨b, 0, rfl, h.lt, fun k x hx => ?_⟩⟩
 match k, hx with
 | 0, hx =>
   obtain rfl := Option.some.inj hx
   refine ⟨[.string ⟨#[105, 110]⟩, .int .i64 1, .int .i64 1, .int .u8 0, .slice none 0 0, .slice none 0 0, .slice none 0 0], rfl, ⟨_, _, _, rfl, nil _ _, nil _ _, nil _ _⟩, fun j u hj => ?_⟩
   have hj7 : j < 7 := (List.getElem?_eq_some_iff.1 hj).1
   rw [show 0 + 0 * 7 + j = j by omega, h.atR]
   match j, hj7, hj with
   | 0, _, hj => exact hj
   | 1, _, hj => exact hj
   | 2, _, hj => exact hj
   | 3, _, hj => exact hj
   | 4, _, hj => exact hj
   | 5, _, hj => exact hj
   | 6, _, hj => exact hj
 | 1, hx =>
   obtain rfl := Option.some.inj hx
   refine ⟨[.string ⟨#[100]⟩, .int .i64 d.kind, .int .i64 d.addr, .int .u8 (d.pool : Int), vb, vr, vt], rfl, ⟨_, _, _, rfl, hb, hr, ht⟩, fun j u hj => ?_⟩
   have hj7 : j < 7 := (List.getElem?_eq_some_iff.1 hj).1
   rw [show 0 + 1 * 7 + j = 7 + j by omega, h.atR]
   match j, hj7, hj with
   | 0, _, hj => exact hj
   | 1, _, hj => exact hj
   | 2, _, hj => exact hj
   | 3, _, hj => exact hj
   | 4, _, hj => exact hj
   | 5, _, hj => exact hj
   | 6, _, hj => exact hj
 | 2, hx =>
   obtain rfl := Option.some.inj hx
   refine ⟨[.string ⟨#[111, 117, 116]⟩, .int .i64 1, .int .i64 2, .int .u8 0, .slice none 0 0, .slice none 0 0, .slice none 0 0], rfl, ⟨_, _, _, rfl, nil _ _, nil _ _, nil _ _⟩, fun j u hj => ?_⟩
   have hj7 : j < 7 := (List.getElem?_eq_some_iff.1 hj).1
   rw [show 0 + 2 * 7 + j = 14 + j by omega, h.atR]
   match j, hj7, hj with
   | 0, _, hj => exact hj
   | 1, _, hj => exact hj
   | 2, _, hj => exact hj
   | 3, _, hj => exact hj
   | 4, _, hj => exact hj
   | 5, _, hj => exact hj
   | 6, _, hj => exact hj
theorem row8R {w : World} {b : Nat} (h : Bz w b #[.int .i64 0, .int .i64 0, .int .i64 1, .int .i64 0, .int .i64 1, .int .i64 1, .int .i64 2, .int .i64 0] 64) : Links w.heap.size w (.slice (some ⟨b, 0, none⟩) 2 2) chainLR := by
 refine ⟨some ⟨b, 0, none⟩, 2, rfl, (fun e => by cases e), Nat.le_refl _, by decide, fun _ => ⟨b, 0, rfl, h.lt, fun k x hx => ?_⟩⟩
 match k, hx with
 | 0, hx =>
   obtain rfl := Option.some.inj hx
   refine ⟨[.int .i64 0, .int .i64 0, .int .i64 1, .int .i64 0], rfl, rfl, fun j u hj => ?_⟩
   have hj7 : j < 4 := (List.getElem?_eq_some_iff.1 hj).1
   rw [show 0 + 0 * 4 + j = j by omega, h.atR]
   match j, hj7, hj with
   | 0, _, hj => exact hj
   | 1, _, hj => exact hj
   | 2, _, hj => exact hj
   | 3, _, hj => exact hj
 | 1, hx =>
   obtain rfl := Option.some.inj hx
   refine ⟨[.int .i64 1, .int .i64 1, .int .i64 2, .int .i64 0], rfl, rfl, fun j u hj => ?_⟩
   have hj7 : j < 4 := (List.getElem?_eq_some_iff.1 hj).1
   rw [show 0 + 1 * 4 + j = 4 + j by omega, h.atR]
   match j, hj7, hj with
   | 0, _, hj => exact hj
   | 1, _, hj => exact hj
   | 2, _, hj => exact hj
   | 3, _, hj => exact hj
theorem chain_anyR (d : Dv) (vb vr vt : Value) (w : World) (hb : SlAt w.heap.size w 1 IsI vb d.backs) (hr : SlAt w.heap.size w 5 IsRule vr d.rules) (ht : SlAt w.heap.size w 3 IsRoute vt d.routes) :
  Calls Tryz.prog 20 #[.agg #[.string d.name, .int .i64 d.kind, .int .i64 d.addr, .int .u8 (d.pool : Int), vb, vr, vt]] w fun e w' => ∃ b b', e = .returned (.agg #[.slice (some ⟨b, 0, none⟩) 3 3, .slice (some ⟨b', 0, none⟩) 2 2]) ∧ Devs w'.heap.size w' (.slice (some ⟨b, 0, none⟩) 3 3) (chainR d) ∧ Links w'.heap.size w' (.slice (some ⟨b', 0, none⟩) 2 2) chainLR ∧ Below w.heap.size w w' := by
 have fin : Hid (∀ (w' : World) (b b' : Nat), Below w.heap.size w w' -> Bz w' b #[.string ⟨#[105, 110]⟩, .int .i64 1, .int .i64 1, .int .u8 0, .slice none 0 0, .slice none 0 0, .slice none 0 0, .string ⟨#[100]⟩, .int .i64 d.kind, .int .i64 d.addr, .int .u8 (d.pool : Int), vb, vr, vt, .string ⟨#[111, 117, 116]⟩, .int .i64 1, .int .i64 2, .int .u8 0, .slice none 0 0, .slice none 0 0, .slice none 0 0] 62 -> Bz w' b' #[.int .i64 0, .int .i64 0, .int .i64 1, .int .i64 0, .int .i64 1, .int .i64 1, .int .i64 2, .int .i64 0] 64 -> Devs w'.heap.size w' (.slice (some ⟨b, 0, none⟩) 3 3) (chainR d) ∧ Links w'.heap.size w' (.slice (some ⟨b', 0, none⟩) 2 2) chainLR ∧ Below w.heap.size w w') := fun w' b b' h k1 k2 =>
  ⟨row21R k1 (SlAt.mono (SlAt.below hb h (fun _ _ _ h => h)) h.size (fun _ _ _ h => h)) (SlAt.mono (SlAt.below hr h (fun _ _ _ h => h)) h.size (fun _ _ _ h => h)) (SlAt.mono (SlAt.below ht h (fun _ _ _ h => h)) h.size (fun _ _ _ h => h)), row8R k2, h⟩
 obtain ⟨Ab, cb, rfl, _, _, _, _⟩ := hb
 obtain ⟨Ar, cr, rfl, _, _, _, _⟩ := hr
 obtain ⟨At, ct, rfl, _, _, _, _⟩ := ht
 generalize d.name = nm at *
 generalize d.kind = kd at *
 generalize d.addr = ad at *
 generalize d.pool = pl at *
 generalize d.backs.length = nb at *
 generalize d.rules.length = nr at *
 generalize d.routes.length = nt at *
 go_enter Tryz.func20, Tryz.ntmps20
 go_wp2_with fail
 refine bodyPost_ret (v := .agg #[.slice (some ⟨w.heap.size + 1 + 1, 0, none⟩) 3 3, .slice (some ⟨w.heap.size + 1 + 1 + 1, 0, none⟩) 2 2]) (by simp [results, Tryz.results20, go_sem]) rfl ⟨_, _, rfl, ?_⟩
 exact fin.out _ _ _ (by go_grown) ((bz_newR' _ _ _ _ (by simp)).al _) (bz_newR' _ _ _ _ (by simp))
theorem place_anyR (x y : Int) (w : World) : Calls Tryz.prog 18 #[.int .i64 x, .int .i64 y] w fun e w' => e = .returned (.agg #[.int .i64 x, .int .i64 y]) ∧ Below w.heap.size w w' := by
 go_enter Tryz.func18, Tryz.ntmps18
 go_wp2_with fail
 refine bodyPost_ret (v := .agg #[.int .i64 x, .int .i64 y]) (by simp [results, Tryz.results18, go_sem]) rfl ⟨rfl, ?_⟩
 exact Below.alloc' (Below.refl _ _) _
theorem mAll_anyR (w : World) : Calls Tryz.prog 43 #[] w fun e w' => e = .returned (.agg #[.int .u16 65535, .int .u16 65535, .int .u8 255, .int .u8 255]) ∧ Below w.heap.size w w' := by
 go_enter Tryz.func43, Tryz.ntmps43
 go_wp2_with fail
 refine bodyPost_ret (v := .agg #[.int .u16 65535, .int .u16 65535, .int .u8 255, .int .u8 255]) (by simp [results, Tryz.results43, go_sem]) rfl ⟨rfl, ?_⟩
 exact Below.alloc' (Below.refl _ _) _
theorem all_anyR (ok : Bool) (w : World) : Calls Tryz.prog 21 #[.bool ok] w fun e w' => e = .returned (.agg #[.bool ok, .int .u16 65535, .int .u16 65535, .int .u8 255, .int .u8 255]) ∧ Below w.heap.size w w' := by
 have R1 := bz_newR w #[.bool false, .int .u16 0, .int .u16 0, .int .u8 0, .int .u8 0] 71
 have D1 := Below.alloc' (Below.refl w.heap.size w) (.cells #[.bool false, .int .u16 0, .int .u16 0, .int .u8 0, .int .u8 0] 71)
 go_enter Tryz.func21, Tryz.ntmps21
 go_wp2_with fail
 refine (mAll_anyR _).mono ?_
 rintro e w2 ⟨rfl, hb2⟩
 have R2 := R1.keepR hb2
 have D2 := chain hb2 D1
 obtain ⟨r0, r1, r2, r3, r4⟩ := R2.fiveR
 have f0 := R2.free 0
 have f1 := R2.free 1
 have f2 := R2.free 2
 have f3 := R2.free 3
 have f4 := R2.free 4
 go_wp2_with fail
 refine bodyPost_ret (v := .agg #[.bool ok, .int .u16 65535, .int .u16 65535, .int .u8 255, .int .u8 255]) (by simp [results, Tryz.results21, go_sem, r0, r1, r2, r3, r4]) rfl ⟨rfl, ?_⟩
 go_grown
def fireR (rs : List NRule) : Dv := ⟨⟨#[]⟩, 3, 0, 0, [], rs, [], by omega, Nat.zero_le _⟩
def allNR (ok : Bool) : NRule := ⟨ok, 65535, 65535, 255, 255, by omega, by omega, by omega, by omega⟩
theorem fire_devCR (rs : List NRule) : devC (fireR rs) = if 8 < rs.length then 2 else 0 := by
 unfold devC devV fireR
 simp [hasAddr, checkV_nilR, backsFrom_nilR]
theorem fire_netVR (rs : List NRule) : netV (chainR (fireR rs)) chainLR = if 8 < rs.length then 2 else 0 := by
 rw [chain_netVR _ (Or.inl rfl), fire_devCR]
theorem abuild_zero {base a M : Nat} {w : World} {ns : List Nd} (h : Ar base a M 14 40000 w ns) (A : Option Addr) (n cap : Nat) (xs : List Rl) (hR : Rules w.heap.size w (.slice A n cap) xs) (hlen : xs.length <= 2) (b : Bool) (hc : ∀ x, letsF xs x = b) :
  Calls Tryz.prog 168 #[.pointer (some ⟨a, 0, none⟩), .slice A n cap] w (OPost base a M w ns 0 (letsF xs)) := by
 have hn : n = xs.length := by
  obtain ⟨_, _, e, _⟩ := hR
  cases e
  rfl
 have CK : Hid (∀ w, Calls Tryz.prog 78 #[.slice A n cap] w fun e w' => e = .returned (.int .i64 0) ∧ w' = w) := fun w => by
  have := check_ok A n cap w
  rw [if_neg (by omega)] at this
  exact this
 have NW : Hid (Calls Tryz.prog 26 #[.int .i64 14, .int .i64 40000] w fun e w' => ∃ a2 M2, e = .returned (.tuple #[.pointer (some ⟨a2, 0, none⟩), .int .i64 0]) ∧ Ar w.heap.size a2 M2 14 40000 w' [(14, 0, 0), (14, 1, 1)] ∧ Below w.heap.size w w') := new_ok (v := 14) (m := 40000) w (by omega) (by omega) (by omega) (by omega)
 clear hn
 go_enter Tryz.func168, Tryz.ntmps168
 go_wp2_with (go_at_call 78; refine (CK.out _).mono ?_; rintro e w' ⟨rfl, rfl⟩)
 refine NW.out.mono ?_
 rintro e w2 ⟨a2, M2, rfl, A2, hb2⟩
 have JO : Hid (Calls Tryz.prog 180 #[.pointer (some ⟨a2, 0, none⟩), .slice A n cap] w2 fun e w' => ∃ ns', Ar _ a2 M2 14 40000 w' ns' ∧ Below _ w2 w' ∧
   ((∃ f : Nat, e = .returned (.tuple #[.int .i64 (f : Int), .int .i64 0]) ∧ f < ns'.length ∧ ∀ x, ev ns' f x = letsF xs x) ∨ (e = .returned (.tuple #[.int .i64 0, .int .i64 6]) ∧ _))) := join_ok A2 A n cap xs (hR.below hb2) (by omega)
 clear CK NW
 go_wp2_with fail
 refine JO.out.mono ?_
 rintro e w3 ⟨ns3, A3, hb3, hres⟩
 have D3 := hb2.trans hb3
 have H3 := h.below D3
 have K3 := h.kbelow D3
 clear JO hb2 hb3 A2
 obtain ⟨f, rfl, lf, ef⟩ : ∃ f : Nat, e = .returned (.tuple #[.int .i64 (f : Int), .int .i64 0]) ∧ f < ns3.length ∧ ∀ x, ev ns3 f x = letsF xs x := by
  rcases hres with h | ⟨_, h⟩
  ·exact h
  ·simp only [List.length_cons, List.length_nil] at h
   omega
 have l3 := A3.wf.len
 have hf : f = if b then 1 else 0 := by
  refine canon A3.wf lf (by split <;> omega) (fun x => ?_)
  rw [ef x, hc x]
  cases b
  ·rfl
  ·simp [ev1]
 have TK : Hid (Calls Tryz.prog 93 #[.pointer (some ⟨a, 0, none⟩), .pointer (some ⟨a2, 0, none⟩), .int .i64 (f : Int)] w3 fun e w' => e = .returned (.tuple #[.int .i64 (f : Int), .int .i64 0]) ∧ Ar base a M 14 40000 w' ns ∧ Kp (ca base a M 14 40000) w3 w') := take_const H3 A3 (Nat.le_refl _) (by rw [hf]; split <;> omega)
 have h2 := h.wf.len
 have hlt : f < ns.length := by rw [hf]; split <;> omega
 have hev : ∀ x, ev ns f x = letsF xs x := fun x => by
  rw [hc x, hf]
  cases b
  ·rfl
  ·simp [ev1]
 have EV : Hid (∀ x, ev ns f x = letsF xs x) := hev
 clear hf hev ef A3 H3 hc hres
 go_wp2_with fail
 refine TK.out.mono ?_
 rintro e w4 ⟨rfl, A4, K4⟩
 have fin : Hid (OPost base a M w' ns 0 (letsF xs) (.returned (.tuple #[.int .i64 (f : Int), .int .i64 0])) w4) := ⟨ns, f, 0, rfl, A4, K3.trans K4, Ext.refl _, Nat.le_refl _, Or.inl ⟨rfl, f, rfl, hlt, EV.out⟩⟩
 clear A4 K4 K3 TK EV D3
 go_wp2_with fail
 go_ret2
 exact fin.out
section
variable {base q a M : Nat} {w0 w : World} {ns : List Nd} {er : Int}
theorem rulB_zero {A : Option Addr} {n cap : Nat} {xs : List Rl} (hR : Rules base w0 (.slice A n cap) xs) (hlen : xs.length <= 2) {b : Bool} (hc : ∀ x, letsF xs x = b) : RulB base q a M w0 (.slice A n cap) 0 (letsF xs) :=
 fun _ _ _ h => rules_w h (OP := abuild_zero h.ar A n cap xs ((hR.below h.bel).mono h.size) hlen b hc)
end
def S8 : Nat -> Bool := fun v => decide (v < 8)
theorem sel_fullR (k first : Nat) (x : Env) : sel k (2 ^ 2 ^ k - 1) first x = true := by
 rw [sel_val, Nat.testBit_two_pow_sub_one]
 have h : ∀ k first, val k first x < 2 ^ k := fun k => by
  induction k with
  | zero => intro first; simp [val]
  | succ k ih =>
    intro first
    have := ih (first + 1)
    have hp : 2 ^ (k + 1) = 2 ^ k + 2 ^ k := by rw [Nat.pow_succ]; omega
    unfold val
    split <;> omega
 simp [h k first]
theorem phi_src (z : Nat) (x : Env) : phi z 65535 255 255 x = sel 4 z 0 x := by
 unfold phi
 rw [show sel 4 65535 4 x = true from sel_fullR 4 4 x, show sel 3 255 8 x = true from sel_fullR 3 8 x, show sel 3 255 11 x = true from sel_fullR 3 11 x]
 simp
theorem sel_depR : ∀ (k bits first : Nat) (x y : Env), (∀ i, first <= i -> i < first + k -> x i = y i) -> sel k bits first x = sel k bits first y
 | 0, _, _, _, _, _ => rfl
 | k + 1, bits, first, x, y, h => by
   unfold sel
   rw [h first (Nat.le_refl _) (by omega), sel_depR k _ (first + 1) x y (fun i h1 h2 => h i (by omega) (by omega)), sel_depR k _ (first + 1) x y (fun i h1 h2 => h i (by omega) (by omega))]
theorem dep_src (z : Nat) : DepS S8 (phi z 65535 255 255) := fun e e' h => by
 rw [phi_src, phi_src]
 exact sel_depR _ _ _ _ _ fun i _ hi => h i (by simp [S8]; omega)
theorem dep_sw {φ : Env -> Bool} (h : DepS S8 φ) (i j : Nat) (hij : (i < 8 ∧ j < 8) ∨ (8 <= i ∧ 8 <= j)) : DepS S8 (fun x => φ (swE x i j)) := fun e e' he => h _ _ fun v hv => by
 have hv8 : v < 8 := by simpa [S8] using hv
 have g : ∀ u, u < 8 -> e u = e' u := fun u hu => he u (by simp [S8, hu])
 unfold swE
 split
 ·exact g j (by omega)
 split
 ·exact g i (by omega)
 ·exact g v hv8
theorem dep_ex {φ : Env -> Bool} (h : DepS S8 φ) (i j n : Nat) (hij : ∀ k, k < n -> (i + k < 8 ∧ j + k < 8) ∨ (8 <= i + k ∧ 8 <= j + k)) : ∀ k, k <= n -> DepS S8 (exF φ i j k)
 | 0, _ => h
 | k + 1, hk => dep_sw (dep_ex h i j n hij k (by omega)) (i + k) (j + k) (hij k (by omega))
theorem dep_fl {φ : Env -> Bool} (h : DepS S8 φ) : DepS S8 (flF φ) := dep_ex (dep_ex h 0 4 4 (fun k _ => Or.inl (by omega)) 4 (Nat.le_refl _)) 8 11 3 (fun k _ => Or.inr (by omega)) 3 (Nat.le_refl _)
theorem dep_and {φ ψ : Env -> Bool} (h : DepS S8 φ) (h' : DepS S8 ψ) : DepS S8 (fun x => φ x && ψ x) := fun e e' he => by show (φ e && ψ e) = (φ e' && ψ e'); rw [h e e' he, h' e e' he]
theorem dep_or {φ ψ : Env -> Bool} (h : DepS S8 φ) (h' : DepS S8 ψ) : DepS S8 (fun x => φ x || ψ x) := fun e e' he => by show (φ e || ψ e) = (φ e' || ψ e'); rw [h e e' he, h' e e' he]
theorem dep_const (b : Bool) : DepS S8 (fun _ => b) := fun _ _ _ => rfl
theorem cn8 : 2 ^ cnS S8 14 0 - 1 = 255 := by decide
theorem flB_8 {base q a M : Nat} {w0 : World} {φ : Env -> Bool} (h : DepS S8 φ) : FlB base q a M w0 φ (4 * 255 + 3 * 1023) := by
 refine flB_of (fun _ => S8) (fun _ => S8) 255 1023 ⟨fun k hk => ⟨dep_ex h 0 4 4 (fun k _ => Or.inl (by omega)) k (by omega), ?_⟩, fun k hk => ⟨dep_ex (dep_ex h 0 4 4 (fun k _ => Or.inl (by omega)) 4 (Nat.le_refl _)) 8 11 3 (fun k _ => Or.inr (by omega)) k (by omega), ?_⟩⟩
 ·match k, hk with
  | 0, _ => decide
  | 1, _ => decide
  | 2, _ => decide
  | 3, _ => decide
 ·match k, hk with
  | 0, _ => decide
  | 1, _ => decide
  | 2, _ => decide
theorem dep_send {d : Dv} (hk : d.kind = 1 ∨ (d.kind = 3 ∧ ∀ x, letsF (rulesD d) x = true)) (pt : Int) {φ0 φ1 φ2 φ3 : Env -> Bool} (h0 : DepS S8 φ0) (h1 : DepS S8 φ1) : DepS S8 (sendF d pt φ0 φ1 φ2 φ3) := by
 rcases hk with hk | ⟨hk, hl⟩
 ·unfold sendF
  rw [if_neg (by omega), if_neg (by omega), if_neg (by omega), if_neg (by omega)]
  exact dep_const false
 ·have el : letsF (rulesD d) = fun _ => true := funext hl
  unfold sendF
  rw [if_neg (by omega), if_pos hk, el]
  split
  ·exact dep_and h0 (dep_const true)
  ·exact dep_and h1 (dep_fl (dep_and h0 (dep_const true)))
theorem widB_small {d : Dv} (hk : d.kind = 1 ∨ (d.kind = 3 ∧ ∀ x, letsF (rulesD d) x = true)) (hlen : d.rules.length <= 2) (pt : Int) {χ φ0 φ1 φ2 φ3 : Env -> Bool} (hχ : DepS S8 χ) (h0 : DepS S8 φ0) (h1 : DepS S8 φ1) (h2 : DepS S8 φ2) (h3 : DepS S8 φ3) : WidB 255 False d pt χ φ0 φ1 φ2 φ3 := by
 intro bR R MR most nsR w hR Ab A At nb cb n cap nt ct hb hr ht set f0 f1 f2 f3 hs l0 l1 l2 l3 e0 e1 e2 e3 e4
 subst e0 e1 e2 e3 e4
 have hd := dep_send hk pt (φ2 := ev nsR f2) (φ3 := ev nsR f3) h0 h1
 refine (widen_w hR S8 S8 hs l0 l1 l2 l3 hχ h0 h1 h2 h3 (dep_or hχ hd) (gS := 5000) (gO := 255) (ψ := sendF d pt (ev nsR f0) (ev nsR f1) (ev nsR f2) (ev nsR f3)) (fun base q a M w0 W ns er i0 i1 i2 i3 hbl hle b m0 m1 m2 m3 => ?_) (fun base q a M w0 => ?_)).mono fun e w' ⟨ns', v, er, k1, k2, k3, k4, k5, k6⟩ => ⟨ns', v, er, k1, k2, k3, k4, ?_, ?_⟩
 ·have hr' := SlAt.mono (SlAt.below hr hbl (fun _ _ _ h => h)) hle (fun _ _ _ h => h)
  rcases hk with hk | ⟨hk, hl⟩
  ·have es : sendF d pt (ev nsR f0) (ev nsR f1) (ev nsR f2) (ev nsR f3) = fun _ => false := by
    unfold sendF
    rw [if_neg (by omega), if_neg (by omega), if_neg (by omega), if_neg (by omega)]
   rw [es, hk]
   exact (send_host b).mono fun _ _ B => B.more (by omega)
  ·have el : letsF (rulesD d) = fun _ => true := funext hl
   have RB : RulB base q a M w0 (.slice A n cap) 0 (letsF (rulesD d)) := rulB_zero (rules_ofD hr') (by unfold rulesD; rw [List.length_map]; exact hlen) hl
   by_cases hp : pt = 1
   ·have es : sendF d pt (ev nsR f0) (ev nsR f1) (ev nsR f2) (ev nsR f3) = fun x => ev nsR f0 x && letsF (rulesD d) x := by
     unfold sendF
     rw [if_neg (by omega), if_pos hk, if_pos hp]
    rw [es, hk]
    have AB : AndB base q a M w0 (ev nsR f0) (letsF (rulesD d)) 255 := by rw [el]; exact cn8 ▸ andB_of S8 h0 (dep_const true)
    exact (send_ask b hp (g := 0 + 0 + 255) fun W b' => ask_b b' RB AB m0).mono fun _ _ B => B.more (by omega)
   ·have es : sendF d pt (ev nsR f0) (ev nsR f1) (ev nsR f2) (ev nsR f3) = fun x => ev nsR f1 x && flF (fun x => ev nsR f0 x && letsF (rulesD d) x) x := by
     unfold sendF
     rw [if_neg (by omega), if_pos hk, if_neg hp]
    rw [es, hk]
    have AB : AndB base q a M w0 (ev nsR f0) (letsF (rulesD d)) 255 := by rw [el]; exact cn8 ▸ andB_of S8 h0 (dep_const true)
    have DL : DepS S8 (fun x => ev nsR f0 x && letsF (rulesD d) x) := by rw [el]; exact dep_and h0 (dep_const true)
    have BB : AndB base q a M w0 (ev nsR f1) (flF (fun x => ev nsR f0 x && letsF (rulesD d) x)) 255 := cn8 ▸ andB_of S8 h1 (dep_fl DL)
    exact (send_answer b hp (g := 0 + (0 + 0 + 255) + (4 * 255 + 3 * 1023) + 255) fun W b' => answer_b b' RB AB (flB_8 DL) BB m0 m1).mono fun _ _ B => B.more (by omega)
 ·exact cn8 ▸ orB_of S8 hχ hd
 ·rw [cn8] at k5
  exact k5
 ·rw [cn8] at k6
  rcases k6.out with h | ⟨a, b, c | c⟩
  ·exact Or.inl h
  ·omega
  ·exact Or.inr ⟨a, b, Or.inr c⟩
abbrev dsC : List Dv := chainR (fireR [allNR true])
abbrev lsC : List Lk := chainLR
abbrev fdC : Dv := { fireR [allNR true] with name := ⟨#[100]⟩, hs := by decide }
theorem chain_net : netV dsC lsC = 0 := by rw [fire_netVR]; rfl
theorem chain_at {i : Nat} {d : Dv} (h : dsC[i]? = some d) : (i = 0 ∧ d = hostR ⟨#[105, 110]⟩ 1 (by decide)) ∨ (i = 1 ∧ d = fdC) ∨ (i = 2 ∧ d = hostR ⟨#[111, 117, 116]⟩ 2 (by decide)) := by
 match i, h with
 | 0, h => exact Or.inl ⟨rfl, (Option.some.inj h).symm⟩
 | 1, h => exact Or.inr (Or.inl ⟨rfl, (Option.some.inj h).symm⟩)
 | 2, h => exact Or.inr (Or.inr ⟨rfl, (Option.some.inj h).symm⟩)
theorem chain_devs : ∀ d ∈ dsC, devC d = 0 := fun d hd => by
 obtain ⟨i, hi⟩ := List.mem_iff_getElem?.1 hd
 rcases chain_at hi with ⟨_, rfl⟩ | ⟨_, rfl⟩ | ⟨_, rfl⟩
 ·exact host_okR _ _ _ (by omega) (by omega)
 ·have := fire_devCR [allNR true]
  exact this
 ·exact host_okR _ _ _ (by omega) (by omega)
theorem chain_peers {i q : Int} {t : Int × Int} (h : peerF lsC i q = some t) : (i = 0 ∧ q = 0 ∧ t = (1, 0)) ∨ (i = 1 ∧ q = 0 ∧ t = (0, 0)) ∨ (i = 1 ∧ q = 1 ∧ t = (2, 0)) ∨ (i = 2 ∧ q = 0 ∧ t = (1, 1)) := by
 obtain ⟨l, hl, he⟩ := peerF_of h
 have hl' : l = ⟨0, 0, 1, 0⟩ ∨ l = ⟨1, 1, 2, 0⟩ := by simpa [chainLR] using hl
 rcases hl' with rfl | rfl
 ·rcases endOf_ends he with ⟨⟨h1, h2⟩, h3⟩ | ⟨⟨h1, h2⟩, h3⟩
  ·exact Or.inl ⟨h1.symm, h2.symm, h3⟩
  ·exact Or.inr (Or.inl ⟨h1.symm, h2.symm, h3⟩)
 ·rcases endOf_ends he with ⟨⟨h1, h2⟩, h3⟩ | ⟨⟨h1, h2⟩, h3⟩
  ·exact Or.inr (Or.inr (Or.inl ⟨h1.symm, h2.symm, h3⟩))
  ·exact Or.inr (Or.inr (Or.inr ⟨h1.symm, h2.symm, h3⟩))
theorem fdC_lets (x : Env) : letsF (rulesD fdC) x = true := by
 show letsF [⟨true, 65535, 65535, 255, 255, _, _, _, _⟩] x = true
 unfold letsF
 rw [if_pos]
 rw [phi_src]
 exact sel_fullR 4 0 x
theorem chain_kind {i : Nat} {d : Dv} (h : dsC[i]? = some d) : (d.kind = 1 ∨ (d.kind = 3 ∧ ∀ x, letsF (rulesD d) x = true)) ∧ d.rules.length <= 2 := by
 rcases chain_at h with ⟨_, rfl⟩ | ⟨_, rfl⟩ | ⟨_, rfl⟩
 ·exact ⟨Or.inl rfl, by decide⟩
 ·exact ⟨Or.inr ⟨rfl, fdC_lets⟩, by decide⟩
 ·exact ⟨Or.inl rfl, by decide⟩
theorem dep_set : ∀ (k a b : Nat), DepS S8 (SetF dsC lsC k a b)
 | 0, a, b => fun e e' he => by
   rw [Bool.eq_iff_iff, setF_zero, setF_zero]
   unfold HostBy
   constructor
   ·rintro ⟨i, d, h1, h2, h3, h4, h5⟩
    exact ⟨i, d, h1, h2, h3, h4, by rw [<- dep_src _ e e' he]; exact h5⟩
   ·rintro ⟨i, d, h1, h2, h3, h4, h5⟩
    exact ⟨i, d, h1, h2, h3, h4, by rw [dep_src _ e e' he]; exact h5⟩
 | k + 1, a, b => fun e e' he => by
   rw [Bool.eq_iff_iff, setF_succ, setF_succ, dep_set k a b e e' he]
   unfold SentBy
   constructor
   ·rintro (h | ⟨i, q, d, h1, h2, h3, h4, h5, h6⟩)
    ·exact Or.inl h
    ·exact Or.inr ⟨i, q, d, h1, h2, h3, h4, h5, by rw [<- dep_send (chain_kind h3).1 q (dep_set k i 0) (dep_set k i 1) e e' he]; exact h6⟩
   ·rintro (h | ⟨i, q, d, h1, h2, h3, h4, h5, h6⟩)
    ·exact Or.inl h
    ·exact Or.inr ⟨i, q, d, h1, h2, h3, h4, h5, by rw [dep_send (chain_kind h3).1 q (dep_set k i 0) (dep_set k i 1) e e' he]; exact h6⟩
theorem chain_wid (k i q a b : Nat) (d : Dv) (hd : dsC[i]? = some d) : WidB 255 False d (q : Int) (SetF dsC lsC k a b) (SetF dsC lsC k i 0) (SetF dsC lsC k i 1) (SetF dsC lsC k i 2) (SetF dsC lsC k i 3) :=
 widB_small (chain_kind hd).1 (chain_kind hd).2 q (dep_set k a b) (dep_set k i 0) (dep_set k i 1) (dep_set k i 2) (dep_set k i 3)
theorem send_hostF {d : Dv} (hk : d.kind = 1) (q : Int) (φ0 φ1 φ2 φ3 : Env -> Bool) (x : Env) : sendF d q φ0 φ1 φ2 φ3 x = false := by
 unfold sendF
 rw [if_neg (by omega), if_neg (by omega), if_neg (by omega), if_neg (by omega)]
theorem send_fdC (q : Int) (φ0 φ1 φ2 φ3 : Env -> Bool) (x : Env) : sendF fdC q φ0 φ1 φ2 φ3 x = if q = 1 then φ0 x else (φ1 x && flF φ0 x) := by
 have el : letsF (rulesD fdC) = fun _ => true := funext fdC_lets
 have e0 : (fun x => φ0 x && true) = φ0 := funext fun x => by simp
 unfold sendF
 rw [if_neg (show ¬ (fdC.kind = 2) by decide), if_pos (show fdC.kind = 3 by decide), el]
 split
 ·simp
 ·simp only [e0]
theorem chain_sent (F : Nat -> Nat -> Env -> Bool) (a b : Nat) (x : Env) : SentBy dsC lsC (fun _ => False) F dsC.length 0 ((a : Int), (b : Int)) x ↔ (a = 0 ∧ b = 0 ∧ (F 1 1 x && flF (F 1 0) x) = true) ∨ (a = 2 ∧ b = 0 ∧ F 1 0 x = true) := by
 constructor
 ·rintro ⟨i, q, d, h1, _, h3, h4, h5, h6⟩
  rcases chain_peers h5 with ⟨hi, hq, ht⟩ | ⟨hi, hq, ht⟩ | ⟨hi, hq, ht⟩ | ⟨hi, hq, ht⟩
  ·obtain rfl : i = 0 := by omega
   rcases chain_at h3 with ⟨_, rfl⟩ | ⟨h, _⟩ | ⟨h, _⟩
   ·rw [send_hostF rfl] at h6; cases h6
   ·omega
   ·omega
  ·obtain rfl : i = 1 := by omega
   rcases chain_at h3 with ⟨h, _⟩ | ⟨_, rfl⟩ | ⟨h, _⟩
   ·omega
   ·rw [send_fdC, if_neg (by omega)] at h6
    simp only [Prod.mk.injEq] at ht
    exact Or.inl ⟨by omega, by omega, h6⟩
   ·omega
  ·obtain rfl : i = 1 := by omega
   rcases chain_at h3 with ⟨h, _⟩ | ⟨_, rfl⟩ | ⟨h, _⟩
   ·omega
   ·rw [send_fdC, if_pos hq] at h6
    simp only [Prod.mk.injEq] at ht
    exact Or.inr ⟨by omega, by omega, h6⟩
   ·omega
  ·obtain rfl : i = 2 := by omega
   rcases chain_at h3 with ⟨h, _⟩ | ⟨h, _⟩ | ⟨_, rfl⟩
   ·omega
   ·omega
   ·rw [send_hostF rfl] at h6; cases h6
 ·rintro (⟨rfl, rfl, h⟩ | ⟨rfl, rfl, h⟩)
  ·exact ⟨1, 0, fdC, Or.inl (by decide), fun h => h, rfl, by decide, by decide, by rw [send_fdC, if_neg (by omega)]; exact h⟩
  ·exact ⟨1, 1, fdC, Or.inl (by decide), fun h => h, rfl, by decide, by decide, by rw [send_fdC, if_pos (by omega)]; exact h⟩
theorem chain_zero (a b : Nat) (x : Env) : SetF dsC lsC 0 a b x = true ↔ (a = 1 ∧ b = 0 ∧ phi 2 65535 255 255 x = true) ∨ (a = 1 ∧ b = 1 ∧ phi 4 65535 255 255 x = true) := by
 rw [setF_zero]
 constructor
 ·rintro ⟨i, d, h1, h2, h3, h4, h5⟩
  rcases chain_at h2 with ⟨rfl, rfl⟩ | ⟨rfl, rfl⟩ | ⟨rfl, rfl⟩
  ·rcases chain_peers h4 with ⟨hi, hq, ht⟩ | ⟨hi, hq, ht⟩ | ⟨hi, hq, ht⟩ | ⟨hi, hq, ht⟩
   ·simp only [Prod.mk.injEq] at ht
    exact Or.inl ⟨by omega, by omega, h5⟩
   ·simp at hi
   ·simp at hi
   ·simp at hi
  ·exact absurd h3 (by decide)
  ·rcases chain_peers h4 with ⟨hi, hq, ht⟩ | ⟨hi, hq, ht⟩ | ⟨hi, hq, ht⟩ | ⟨hi, hq, ht⟩
   ·simp at hi
   ·simp at hi
   ·simp at hi
   ·simp only [Prod.mk.injEq] at ht
    exact Or.inr ⟨by omega, by omega, h5⟩
 ·rintro (⟨rfl, rfl, h⟩ | ⟨rfl, rfl, h⟩)
  ·exact ⟨0, _, by decide, rfl, rfl, by decide, h⟩
  ·exact ⟨2, _, by decide, rfl, rfl, by decide, h⟩
theorem chain_dev1 : ∀ (k b : Nat), SetF dsC lsC k 1 b = SetF dsC lsC 0 1 b
 | 0, _ => rfl
 | k + 1, b => funext fun x => by
   rw [Bool.eq_iff_iff, setF_succ, chain_dev1 k b, chain_sent]
   constructor
   ·rintro (h | ⟨h, _⟩ | ⟨h, _⟩)
    ·exact h
    ·omega
    ·omega
   ·exact Or.inl
theorem chain_two (k a b : Nat) (x : Env) : SetF dsC lsC (k + 2) a b x = SetF dsC lsC (k + 1) a b x := by
 rw [Bool.eq_iff_iff, setF_succ (k + 1), chain_sent, chain_dev1 (k + 1), chain_dev1 (k + 1), <- chain_dev1 k, <- chain_dev1 k, <- chain_sent, setF_succ k]
 constructor
 ·rintro (h | h)
  ·exact h
  ·exact Or.inr h
 ·exact Or.inl
theorem chain_grow {k : Nat} (h : ∀ j, j < k -> cntF dsC lsC j < cntF dsC lsC (j + 1)) : k <= 1 := by
 by_cases hk : 1 < k
 ·have h1 := h 1 hk
  have e : cntF dsC lsC (1 + 1) = cntF dsC lsC 1 := by
   unfold cntF
   congr 1
   funext n
   exact chain_two 0 _ _ _
  omega
 ·omega
theorem chain_room : ¬ RoomP dsC lsC 40000 255 False := by
 rintro ⟨k, hk, h | h⟩
 ·exact h
 ·have := chain_grow hk
  rw [show dsC.length = 3 from rfl] at h
  have : 255 * (4 * 3) * (k + 1) <= 255 * (4 * 3) * 2 := Nat.mul_le_mul_left _ (by omega)
  omega
theorem chain_one (a b : Nat) (x : Env) : SetF dsC lsC 1 a b x = true ↔ SetF dsC lsC 0 a b x = true ∨ (a = 0 ∧ b = 0 ∧ (phi 4 65535 255 255 x && flF (phi 2 65535 255 255) x) = true) ∨ (a = 2 ∧ b = 0 ∧ phi 2 65535 255 255 x = true) := by
 have e1 : SetF dsC lsC 0 1 0 = phi 2 65535 255 255 := funext fun x => by rw [Bool.eq_iff_iff, chain_zero]; simp
 have e2 : SetF dsC lsC 0 1 1 = phi 4 65535 255 255 := funext fun x => by rw [Bool.eq_iff_iff, chain_zero]; simp
 rw [setF_succ, chain_sent, e1, e2]
theorem chain_20 : SetF dsC lsC 1 2 0 = phi 2 65535 255 255 := funext fun x => by rw [Bool.eq_iff_iff, chain_one, chain_zero]; simp
theorem chain_00 : SetF dsC lsC 1 0 0 = fun x => phi 4 65535 255 255 x && flF (phi 2 65535 255 255) x := funext fun x => by rw [Bool.eq_iff_iff, chain_one, chain_zero]; simp
theorem chain_000 : SetF dsC lsC 0 0 0 = fun _ => false := funext fun x => by
 cases h : SetF dsC lsC 0 0 0 x
 ·rfl
 ·rcases (chain_zero 0 0 x).1 h with ⟨h, _⟩ | ⟨h, _⟩ <;> omega
theorem chain_020 : SetF dsC lsC 0 2 0 = fun _ => false := funext fun x => by
 cases h : SetF dsC lsC 0 2 0 x
 ·rfl
 ·rcases (chain_zero 2 0 x).1 h with ⟨h, _⟩ | ⟨h, _⟩ <;> omega
theorem chain_K {K : Nat} (h1 : ∀ j, j < K -> cntF dsC lsC j < cntF dsC lsC (j + 1)) (h2 : ∀ a b, a < 10 -> b < 4 -> SetF dsC lsC (K + 1) a b = SetF dsC lsC K a b) : K = 1 := by
 have := chain_grow h1
 by_cases h0 : K = 0
 ·subst h0
  have h := h2 2 0 (by omega) (by omega)
  rw [chain_20, chain_020] at h
  have h' := congrFun h (envOf 14 1024)
  exact absurd h' (by decide)
 ·omega
theorem T_open {g : Env -> Bool} {i : Nat} (h : ∀ (e e' : Env), (∀ v, v < i -> e v = e' v) -> g e = g e') : ∀ (k j : Nat) (e : Env), i <= j -> T k j g e = if g e then 2 ^ k else 0
 | 0, _, e, _ => by unfold T; rfl
 | k + 1, j, e, hj => by
   have hs : ∀ b, g (setE e j b) = g e := fun b => h _ _ fun v hv => setE_ne e b (by omega)
   unfold T
   rw [T_open h k (j + 1) _ (by omega), T_open h k (j + 1) _ (by omega), hs, hs, Nat.pow_succ]
   split <;> omega
theorem cnt_20 : cntE (phi 2 65535 255 255) = 1024 := by
 have h : ∀ (e e' : Env), (∀ v, v < 4 -> e v = e' v) -> phi 2 65535 255 255 e = phi 2 65535 255 255 e' := fun e e' he => by
  rw [phi_src, phi_src]
  exact sel_depR _ _ _ _ _ fun i _ hi => he i (by omega)
 have g := T_open h 10 4
 unfold cntE T T T T
 simp only [g _ (Nat.le_refl _)]
 decide
theorem rnd_yes : (fun x => phi 4 65535 255 255 x && flF (phi 2 65535 255 255) x) (envOf 14 (codeR 2 1 0 0)) = true := by decide
theorem rnd_no : (fun x => phi 4 65535 255 255 x && flF (phi 2 65535 255 255) x) (envOf 14 (codeR 2 3 0 0)) = false := by decide
theorem rnd_one {P : Nat -> Bool} {v : Int} (h : RoundV 1 P v) (h0 : P 0 = false) (h1 : P 1 = true) : v = 1 := by
 obtain ⟨k, ⟨f1, f2, f3⟩, rfl⟩ := h
 have k1 : k = 1 := by
  by_cases a : k = 0
  ·have := f3 0 (by omega) (by omega); rw [h0] at this; cases this
  by_cases b : k = 2
  ·have := f2 1 (by omega); rw [h1] at this; cases this
  omega
 rw [k1]
 rfl
theorem rnd_none {P : Nat -> Bool} {v : Int} (h : RoundV 1 P v) (h0 : P 0 = false) (h1 : P 1 = false) : v = -1 := by
 obtain ⟨k, ⟨f1, f2, f3⟩, rfl⟩ := h
 have k1 : k = 2 := by
  by_cases a : k = 0
  ·have := f3 0 (by omega) (by omega); rw [h0] at this; cases this
  by_cases b : k = 1
  ·have := f3 1 (by omega) (by omega); rw [h1] at this; cases this
  omega
 rw [k1]
 rfl
abbrev ruleC : Array Value := #[.bool true, .int .u16 65535, .int .u16 65535, .int .u8 255, .int .u8 255]
theorem rule_sl (w : World) : SlAt (w.alloc (.cells ruleC 71)).heap.size (w.alloc (.cells ruleC 71)) 5 IsRule (.slice (some ⟨w.heap.size, 0, none⟩) 1 1) [allNR true] := by
 have h := bz_newR w ruleC 71
 refine ⟨some ⟨w.heap.size, 0, none⟩, 1, rfl, (fun e => by cases e), Nat.le_refl _, by decide, fun _ => ⟨w.heap.size, 0, rfl, h.lt, fun k x hx => ?_⟩⟩
 match k, hx with
 | 0, hx =>
   obtain rfl := Option.some.inj hx
   refine ⟨ruleC.toList, rfl, rfl, fun j u hj => ?_⟩
   rw [show 0 + 0 * 5 + j = j by omega, h.atR]
   simpa using hj
theorem nil_sl {α : Type} (w : World) (n : Nat) (R : List Value -> α -> Prop) : SlAt w.heap.size w n R (.slice none 0 0) [] := ⟨none, 0, rfl, fun _ => rfl, Nat.le_refl _, Nat.zero_le _, fun h => absurd rfl h⟩
theorem ready_any (w : World) : Calls Tryz.prog 6 #[] w fun e w' => e = .returned (.bool true) ∧ Below w.heap.size w w' := by
 have AL : Hd (∀ w, Calls Tryz.prog 21 #[.bool true] w fun e w' => e = .returned (.agg #[.bool true, .int .u16 65535, .int .u16 65535, .int .u8 255, .int .u8 255]) ∧ Below w.heap.size w w') := ⟨fun w => all_anyR true w⟩
 have CH : Hd (∀ w : World, Calls Tryz.prog 20 #[.agg #[.string ⟨#[]⟩, .int .i64 3, .int .i64 0, .int .u8 0, .slice none 0 0, .slice (some ⟨w.heap.size, 0, none⟩) 1 1, .slice none 0 0]] (w.alloc (.cells ruleC 71)) fun e w' => ∃ b b', e = .returned (.agg #[.slice (some ⟨b, 0, none⟩) 3 3, .slice (some ⟨b', 0, none⟩) 2 2]) ∧ Hd (Devs w'.heap.size w' (.slice (some ⟨b, 0, none⟩) 3 3) dsC ∧ Links w'.heap.size w' (.slice (some ⟨b', 0, none⟩) 2 2) lsC) ∧ Below w.heap.size w w') := ⟨fun w => by
  refine (chain_anyR (fireR [allNR true]) _ _ _ _ (nil_sl _ 1 IsI) (rule_sl w) (nil_sl _ 3 IsRoute)).mono fun e w' ⟨b, b', h1, h2, h3, h4⟩ => ⟨b, b', h1, ⟨h2, h3⟩, chain h4 (Below.alloc' (Below.refl _ _) _)⟩⟩
 have NW : Hd (∀ (W : World) (b b' : Nat), Devs W.heap.size W (.slice (some ⟨b, 0, none⟩) 3 3) dsC ∧ Links W.heap.size W (.slice (some ⟨b', 0, none⟩) 2 2) lsC -> Calls Tryz.prog 9 #[.agg #[.slice (some ⟨b, 0, none⟩) 3 3, .slice (some ⟨b', 0, none⟩) 2 2], .int .i64 40000] W fun e w' => ∃ (R : Nat) (I : World -> Prop), e = .returned (.tuple #[.pointer (some ⟨R, 0, none⟩), .int .i64 0]) ∧ Below W.heap.size W w' ∧ I w' ∧ Hd ((∀ V V' : World, Below V.heap.size V V' -> I V -> I V') ∧ (∀ V, I V -> Calls Tryz.prog 22 #[.pointer (some ⟨R, 0, none⟩)] V fun e w' => e = .returned (.int .i64 1) ∧ w' = V) ∧ (∀ V, I V -> Calls Tryz.prog 19 #[.pointer (some ⟨R, 0, none⟩), .agg #[.int .i64 2, .int .i64 0]] V fun e w' => e = .returned (.int .i64 1024) ∧ Below V.heap.size V w') ∧ (∀ V, I V -> Calls Tryz.prog 12 #[.pointer (some ⟨R, 0, none⟩), .agg #[.int .i64 0, .int .i64 0], .agg #[.int .i64 2, .int .i64 1, .int .i64 0, .int .i64 0]] V fun e w' => e = .returned (.int .i64 1) ∧ Below V.heap.size V w') ∧ (∀ V, I V -> Calls Tryz.prog 12 #[.pointer (some ⟨R, 0, none⟩), .agg #[.int .i64 0, .int .i64 0], .agg #[.int .i64 2, .int .i64 3, .int .i64 0, .int .i64 0]] V fun e w' => e = .returned (.int .i64 (-1)) ∧ Below V.heap.size V w'))) := ⟨fun W b b' ⟨hD, hL⟩ => by
  refine (rnew_any (some ⟨b, 0, none⟩) (some ⟨b', 0, none⟩) 3 2 dsC lsC 40000 (by omega) (by omega) chain_net chain_devs hD hL 255 False (fun k _ i q a b d hd _ _ _ => chain_wid k i q a b d hd)).mono fun e w' h => ?_
  obtain ⟨hb, ⟨bR, R, MR, K, sl, xs, ns, s, h1, h2, hF⟩ | ⟨_, hE⟩⟩ := h.made
  ·obtain rfl := chain_K hF.up hF.fix
   refine ⟨R, fun V => RcF dsC lsC bR R MR 40000 1 sl xs ns s V, h1, hb, hF, ⟨fun V V' k h => h.below k, fun V h => rounds_f h, fun V h => ?_, fun V h => ?_, fun V h => ?_⟩⟩
   ·have hc := count_f h 2 0
    rw [show atF dsC lsC 1 2 0 = phi 2 65535 255 255 from (atF_in (a := 2) (b := 0) 1 (by omega) (by omega)).trans chain_20, cnt_20] at hc
    exact hc
   ·refine (round_f h 0 0 2 1 0 0 (by decide)).mono fun e w' ⟨v, v1, v2, v3⟩ => ⟨?_, v3⟩
    have a0 : atF dsC lsC 0 0 0 = fun _ => false := (atF_in (a := 0) (b := 0) 0 (by omega) (by omega)).trans chain_000
    have a1 : atF dsC lsC 1 0 0 = fun x => phi 4 65535 255 255 x && flF (phi 2 65535 255 255) x := (atF_in (a := 0) (b := 0) 1 (by omega) (by omega)).trans chain_00
    rw [v1, rnd_one v2.out (by show atF dsC lsC 0 0 0 _ = false; rw [a0]) (by show atF dsC lsC 1 0 0 _ = true; rw [a1]; exact rnd_yes)]
   ·refine (round_f h 0 0 2 3 0 0 (by decide)).mono fun e w' ⟨v, v1, v2, v3⟩ => ⟨?_, v3⟩
    have a0 : atF dsC lsC 0 0 0 = fun _ => false := (atF_in (a := 0) (b := 0) 0 (by omega) (by omega)).trans chain_000
    have a1 : atF dsC lsC 1 0 0 = fun x => phi 4 65535 255 255 x && flF (phi 2 65535 255 255) x := (atF_in (a := 0) (b := 0) 1 (by omega) (by omega)).trans chain_00
    rw [v1, rnd_none v2.out (by show atF dsC lsC 0 0 0 _ = false; rw [a0]) (by show atF dsC lsC 1 0 0 _ = false; rw [a1]; exact rnd_no)]
  ·exact absurd hE chain_room⟩
 have PL : Hd (∀ (x y : Int) w, Calls Tryz.prog 18 #[.int .i64 x, .int .i64 y] w fun e w' => e = .returned (.agg #[.int .i64 x, .int .i64 y]) ∧ Below w.heap.size w w') := ⟨fun x y w => place_anyR x y w⟩
 go_enter Tryz.func6, Tryz.ntmps6
 go_wp2_with fail
 refine (AL.out _).mono ?_
 rintro e w1 ⟨rfl, hb1⟩
 go_wp2_with fail
 refine (CH.out w1).mono ?_
 rintro e w2 ⟨b, b', rfl, HN, hb2⟩
 have D2 := chain hb2 hb1
 clear hb1 hb2 AL CH
 go_wp2_with fail
 refine (NW.out w2 b b' HN.out).mono ?_
 rintro e w3 ⟨R, I, rfl, hb3, I3, H3⟩
 have D3 := chain hb3 D2
 have KI := Hd.mk H3.out.1
 have RO := Hd.mk H3.out.2.1
 have CO := Hd.mk H3.out.2.2.1
 have R1 := Hd.mk H3.out.2.2.2.1
 have R2 := Hd.mk H3.out.2.2.2.2
 clear NW hb3 D2 HN H3
 go_wp2_with fail
 refine (RO.out _ I3).mono ?_
 rintro e w4 ⟨rfl, rfl⟩
 go_wp2_with fail
 refine (PL.out 2 0 _).mono ?_
 rintro e w5 ⟨rfl, hb5⟩
 have D5 := chain hb5 D3
 have I5 := KI.out _ _ hb5 I3
 clear hb5 D3 I3 RO
 go_wp2_with fail
 refine (CO.out _ I5).mono ?_
 rintro e w6 ⟨rfl, hb6⟩
 have D6 := chain hb6 D5
 have I6 := KI.out _ _ hb6 I5
 clear hb6 D5 I5 CO
 go_wp2_with fail
 refine (PL.out 0 0 _).mono ?_
 rintro e w7 ⟨rfl, hb7⟩
 have D7 := chain hb7 D6
 have I7 := KI.out _ _ hb7 I6
 clear hb7 D6 I6
 go_wp2_with fail
 refine (R1.out _ I7).mono ?_
 rintro e w8 ⟨rfl, hb8⟩
 have D8 := chain hb8 D7
 have I8 := KI.out _ _ hb8 I7
 clear hb8 D7 I7 R1
 go_wp2_with fail
 refine (PL.out 0 0 _).mono ?_
 rintro e w9 ⟨rfl, hb9⟩
 have D9 := chain hb9 D8
 have I9 := KI.out _ _ hb9 I8
 clear hb9 D8 I8
 go_wp2_with fail
 refine (R2.out _ I9).mono ?_
 rintro e wa ⟨rfl, hba⟩
 have Da := chain hba D9
 clear hba D9 I9 R2 KI PL
 go_wp2_with fail
 go_ret
 exact ⟨rfl, Da⟩
theorem devsFrom_allR {ds : List Dv} : ∀ (m k : Nat), ds.length - k <= m -> devsFrom ds k = 0 -> ∀ j d, k <= j -> ds[j]? = some d -> devWrong ds j d = 0
 | 0, k, h, _, j, d, hj, hd => by
   have := (List.getElem?_eq_some_iff.1 hd).1
   omega
 | m + 1, k, h, h0, j, d, hj, hd => by
   have hjl := (List.getElem?_eq_some_iff.1 hd).1
   have hk : k < ds.length := by omega
   rw [devsFrom_at (List.getElem?_eq_getElem hk)] at h0
   split at h0
   ·rename_i hw
    by_cases e : j = k
    ·subst e
     rw [List.getElem?_eq_getElem hk, Option.some.injEq] at hd
     rw [<- hd]
     exact hw
    ·exact devsFrom_allR m (k + 1) (by omega) h0 j d (by omega) hd
   ·rename_i hw
    exact absurd h0 hw
theorem netV_devsR {ds : List Dv} {ls : List Lk} (h : netV ds ls = 0) : ∀ d ∈ ds, devC d = 0 := by
 intro d hd
 obtain ⟨k, hk, e⟩ := List.mem_iff_getElem.1 hd
 unfold netV at h
 split at h
 ·simp at h
 ·split at h
  ·rename_i hz
   have := devsFrom_allR ds.length 0 (by omega) hz k d (Nat.zero_le _) (by rw [List.getElem?_eq_getElem hk, e])
   unfold devWrong at this
   split at this
   ·split at this
    ·simp at this
    ·exact this
   ·simp at this
  ·rename_i hz
   exact absurd h hz
def linkCR (l : Lk) : List Value := [.int .i64 l.a, .int .i64 l.p, .int .i64 l.b, .int .i64 l.q]
def linksCR (ls : List Lk) : List Value := ls.flatMap linkCR
structure FL (w : World) (vd vl : Value) (pc : Array Value) (MB : Nat) (vm : Value) (ms : List Lk) (W : World) : Prop where
 be : Below w.heap.size w W
 bN : Bz W w.heap.size #[vd, vl] 25
 bP : Bz W (w.heap.size + 1) pc 36
 bM : Bz W MB #[vd, vm] 25
 row : W.ownsRow w.heap.size 64 4 vm ms.length (linksCR ms)
 lM : w.heap.size + 1 < MB
section
variable {w W W' : World} {vd vl vm : Value} {pc : Array Value} {MB : Nat} {ms : List Lk}
end
theorem round_b {ds : List Dv} {ls : List Lk} {bR R MR most K : Nat} {sl : Value} {xs : List Value} {ns : List Nd} {s : Nat -> Nat -> Nat -> Nat} {W : World} (h : RcF ds ls bR R MR most K sl xs ns s W) (p q a b c d : Int) : Calls Tryz.prog 12 #[.pointer (some ⟨R, 0, none⟩), .agg #[.int .i64 p, .int .i64 q], .agg #[.int .i64 a, .int .i64 b, .int .i64 c, .int .i64 d]] W fun e w' => ∃ v : Int, e = .returned (.int .i64 v) ∧ decide (v < 0) = (!(pkR a b c d && atF ds ls K p q (envOf 14 (codeR a b c d)))) ∧ decide (0 <= v) = (pkR a b c d && atF ds ls K p q (envOf 14 (codeR a b c d))) ∧ Below W.heap.size W w' := by
 cases hp : pkR a b c d
 ·exact (round_bad R p q a b c d W hp).mono fun e w' ⟨h1, h2⟩ => ⟨-1, h1, by simp, by simp, h2⟩
 ·refine (round_f h p q a b c d hp).mono fun e w' ⟨v, h1, h2, h3⟩ => ⟨v, h1, ?_, ?_, h3⟩
  ·have hn := h2.out.neg
   cases hx : atF ds ls K p q (envOf 14 (codeR a b c d))
   ·rw [hx] at hn
    simp
    exact hn.2 rfl
   ·rw [hx] at hn
    simp
    have : ¬ v < 0 := fun hv => by cases hn.1 hv
    omega
  ·have hn := h2.out.neg
   cases hx : atF ds ls K p q (envOf 14 (codeR a b c d))
   ·rw [hx] at hn
    simp
    exact hn.2 rfl
   ·rw [hx] at hn
    simp
    have : ¬ v < 0 := fun hv => by cases hn.1 hv
    omega
end Go.Proofs.YtlmmeppifkigeaaGreat
