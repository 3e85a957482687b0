/- Own facts, put together: no statement of its own. -/
import Derived.Test.YtibhkijaafdkoaaGreatDoorQ52
import Derived.Test.YtibhkijaafdkoaaGreatDoorTie
import Derived.ProofKit
import Derived.OpenShut
import Derived.ShutString
import Derived.ChangeOld
import Derived.ChangeVars
import Derived.Deep.SlicePairs
import Derived.Lib.SmallJoins
import Derived.LaidMore
import Derived.LaidLaws
import Derived.LaidHandle
import Derived.Stop.LaidErr
import Derived.Stop.Joined
import Derived.Test.YtibhkijaafdkoaaGreatDoorQ01
import Derived.Deep.Slices
import Derived.Test.YtibhkijaafdkoaaGreatDoorQ13
import Derived.Test.YtibhkijaafdkoaaGreatDoorQ50
import Derived.Test.YtibhkijaafdkoaaGreatDoorQ51
namespace Go.Proofs.YtibhkijaafdkoaaGreatDoor
open Go.RowKit
section
variable (ca : Option Addr) (ccap : Nat) (cs : List (List (Int × Int))) (kb : ByteArray) (per : Int) (na : Option Addr) (ncap : Nat) (ns : List Int) (ma : Option Addr) (mcap y : Nat) (pa : Option Addr) (pcap : Nat) (n : Nat) (w : World) (ad : Nat → Addr)
set_option maxRecDepth 100000 in
set_option maxHeartbeats 4000000 in
theorem gateBusy_out (GW : GateWalks) (he : Errs9 w ad) (hg : GateRaw w ca ccap cs na ncap ns) (hnx : n ≤ maxLen) (hym : y ≤ maxLen) (h : ¬ Slim cs ns ∨ ¬ (n ≤ 100 ∨ n = 301) ∨ ¬ y ≤ 10) :
  Calls Tryz.prog 5 #[.agg #[.slice ca cs.length ccap, .string kb, .int .i64 per, .slice na ns.length ncap], .slice ma y mcap, .slice pa n pcap] w fun e w' => e = .returned (.bool true) ∧ Below w.heap.size w w' := by
 have HOp : Hid (∀ W, Below w.heap.size w W → Calls Tryz.prog 9 #[] W fun e w' => e = .returned (.bool true) ∧ Below W.heap.size W w') := fun W hb => opens_by GW W ad (he.below hb)
 have HWi : Hid (∀ W, Below w.heap.size w W → Calls Tryz.prog 10 #[.agg #[.slice ca cs.length ccap, .string kb, .int .i64 per, .slice na ns.length ncap]] W fun e w' => WideEnd cs ns W e w') := fun W hb => wide_any ca ccap cs kb per na ncap ns W (hg.curves.below hb) hg.cfit hg.cmax hg.nfit hg.nmax
 have HFit : Hid (Slim cs ns → ∃ bf, (∀ w', Calls Tryz.prog 19 #[.slice pa n pcap, .int .i64 100] w' fun e w'' => e = .returned (.bool bf) ∧ w'' = w') ∧ (bf = false ∨ ¬ y ≤ 10)) := fun hs => by
  by_cases hf : n ≤ 100 ∨ n = 301
  ·
   refine ⟨true, fun w' => fitPkts_yes pa n pcap 100 w' hnx (by omega), .inr ?_⟩
   rcases h with h | h | h
   · exact absurd hs h
   · exact absurd hf h
   · exact h
  · exact ⟨false, fun w' => fitPkts_no pa n pcap 100 w' (by omega) (by omega), .inl rfl⟩
 unfold maxLen at hym
 have hb1 : Below w.heap.size w (w.alloc (.cells #[.slice ca cs.length ccap, .string kb, .int .i64 per, .slice na ns.length ncap] 25)) := (Below.refl _ _).alloc (Nat.le_refl _) _
 have hga := gateAt_new w (.slice ca cs.length ccap) kb per (.slice na ns.length ncap) 25
 obtain ⟨V, hV⟩ : ∃ V, w.alloc (.cells #[.slice ca cs.length ccap, .string kb, .int .i64 per, .slice na ns.length ncap] 25) = V := ⟨_, rfl⟩
 rw [hV] at hb1 hga
 have HV : Hid (Below w.heap.size w V ∧ GateAt V w.heap.size (.slice ca cs.length ccap) kb per (.slice na ns.length ncap)) := ⟨hb1, hga⟩
 obtain ⟨m, hm⟩ : ∃ m, cs.length = m := ⟨_, rfl⟩
 obtain ⟨r, hr⟩ : ∃ r, ns.length = r := ⟨_, rfl⟩
 rw [hm, hr] at HWi HV hV
 rw [hm, hr]
 clear he hg hb1 hga hm hr GW h hnx
 go_enter Tryz.func5, Tryz.ntmps5
 go_wp2_with fail
 refine (HOp.out _ HV.out.1).mono ?_
 rintro e w1 ⟨rfl, hb⟩
 have HB1 : Hid (Below w.heap.size w w1) := HV.out.1.trans (hb.mono HV.out.1.size)
 obtain ⟨x0, x1, x2, x3⟩ := HV.out.2.later hb
 clear hb hV
 go_wp2_with fail
 refine (HWi.out _ HB1.out).mono ?_
 rintro e w2 ⟨rfl | ⟨rfl, hs⟩, hb⟩
 ·
  have HB2 : Hid (Below w.heap.size w w2) := HB1.out.trans (hb.mono HB1.out.size)
  clear hb
  go_wp2_with fail
  go_ret
  exact ⟨rfl, HB2.out⟩
 have HB2 : Hid (Below w.heap.size w w2) := HB1.out.trans (hb.mono HB1.out.size)
 obtain ⟨bf, hbf, hor⟩ := HFit.out hs
 have HF : Hid (∀ w', Calls Tryz.prog 19 #[.slice pa n pcap, .int .i64 100] w' fun e w'' => e = .returned (.bool bf) ∧ w'' = w') := hbf
 clear hb hs x0 x1 x2 x3 hbf
 cases bf with
 | false =>
  clear hor
  go_wp2_with fail
  refine (HF.out _).mono ?_
  rintro e w3 ⟨rfl, rfl⟩
  go_wp2_with fail
  go_ret
  exact ⟨rfl, HB2.out⟩
 | true =>
  have hy0 : ¬ y ≤ 10 := by
   rcases hor with e | e
   · cases e
   · exact e
  have hy1 : decide ((10 : Int) < (y : Int)) = true := decide_eq_true (by omega)
  have hy2 : decide (10 < y) = true := decide_eq_true (by omega)
  clear hor
  go_wp2_with fail
  refine (HF.out _).mono ?_
  rintro e w3 ⟨rfl, rfl⟩
  go_wp2_with fail
  go_ret
  exact ⟨rfl, HB2.out⟩
end
theorem gateBusy_any (GW : GateWalks) (ca : Option Addr) (ccap : Nat) (cs : List (List (Int × Int))) (kb : ByteArray) (per : Int) (na : Option Addr) (ncap : Nat) (ns : List Int) (ma : Option Addr) (mcap : Nat) (nn : List (List Int)) (pa : Option Addr) (pcap : Nat) (ps : List Pk) (w : World) (ad : Nat → Addr) (he : Errs9 w ad) (hg : GateRaw w ca ccap cs na ncap ns) (hmm : LiesM w ma nn) (hmc : nn.length ≤ mcap) (hmx : mcap ≤ maxLen) (hp : PksLie w pa pcap ps) :
  Calls Tryz.prog 5 #[.agg #[.slice ca cs.length ccap, .string kb, .int .i64 per, .slice na ns.length ncap], .slice ma nn.length mcap, .slice pa ps.length pcap] w fun e w' => e = .returned (.bool true) ∧ Below w.heap.size w w' := by
 have h1 := Nat.le_trans hp.cap hp.max
 have h2 := Nat.le_trans hmc hmx
 by_cases hs : Slim cs ns
 ·
  by_cases hfit : ps.length ≤ 100 ∨ ps.length = 301
  ·
   by_cases h10 : nn.length ≤ 10
   · exact gateBusy_main ca ccap cs kb per na ncap ns ma mcap nn pa pcap ps w ad GW he (hg.lies hs) hmm hp hfit h10
   · exact gateBusy_out ca ccap cs kb per na ncap ns ma mcap _ pa pcap _ w ad GW he hg h1 h2 (.inr (.inr h10))
  · exact gateBusy_out ca ccap cs kb per na ncap ns ma mcap _ pa pcap _ w ad GW he hg h1 h2 (.inr (.inl hfit))
 · exact gateBusy_out ca ccap cs kb per na ncap ns ma mcap _ pa pcap _ w ad GW he hg h1 h2 (.inl hs)
end Go.Proofs.YtibhkijaafdkoaaGreatDoor

namespace Go.Proofs.YtibhkijaafdkoaaGreatDoor
open Go.ChangeShapes Go.WideShapes Go.ChangeAt Go.RowKit
theorem Tryz.own : ownKnob Tryz.prog.godebug = none := by kernel_rfl
theorem Tryz.laidOut : laidOutB Tryz.prog = true := by kernel_rfl
theorem Tryz.cellsInt : Tryz.prog.cellsOf 3 = 1 := by kernel_rfl
theorem Tryz.cellsES : Tryz.prog.cellsOf 291 = 1 := by kernel_rfl
theorem Tryz.cellsStr : Tryz.prog.cellsOf 9 = 1 := by kernel_rfl
def nameES : String := match (Rows.laid_floodgate_api_ErrBound : DataW Unit) with | .iface n _ => n | _ => "none"
theorem rows_star {P : Program} {tp : TypeId} {s : String} (hs : s = nameES) (h : ((List.range P.types.size).all fun u => P.typeName? 3 u != some nameES || u == tp) = true) : ((List.range P.types.size).all fun u => P.typeName? 3 u != some s || u == tp) = true := by
 rw [hs]
 exact h
theorem Tryz.rowPES (u : TypeId) (h : Tryz.prog.typeName? 3 u = some nameES) : u = 271 :=
 typeName_ptr_named (P := Tryz.prog) (nm := "errors.errorString") (tp := 271) (rows_star (by decide) (by kernel_rfl)) (by kernel_rfl) (by decide) u (h.trans (congrArg some (by decide)))
set_option maxRecDepth 100000 in
theorem sentinel_of_laid {n nm : String} {text : List UInt8} {r : List (String × DataW Unit)} {W : World} {g : Nat}
  (h : laidMet Tryz.prog ((n, .iface nm (.ptr (.agg [.lit (.string text)]))) :: r) W)
  (hnm : nm = nameES) (hg : Tryz.prog.globalNamed n = some g) (ht : (Tryz.prog.globals[g]?).map (·.type) = some 29) :
  ∃ (a : Addr) (s : ByteArray), W.cell? ⟨g, 0, none⟩ = some (.iface 271 (.pointer (some a))) ∧ W.cell? a = some (.string s) ∧ s.data.toList = text ∧ ∃ c t, W.heap[a.block]? = some (.cells c t (0, 0)) := by
 obtain ⟨ps, ⟨g0, t0, cs0, f0, p0, q0, hg0, ht0, hv0, hd0, _, e0⟩, _, hrows⟩ := h
 obtain rfl := Option.some.inj (hg.symm.trans hg0)
 obtain rfl := Option.some.inj (ht.symm.trans ht0)
 subst e0
 obtain ⟨l0⟩ := cs0
 have ok0 : ∀ u v, l0 = [.iface u v] → Value.okWide Tryz.prog W .any 0 u v := fun u v e => by
  subst e
  exact (hrows g 0 (by simp [MemPlace.row])).2 u v (by simpa using World.var?_cell hg0 hv0 0)
 obtain ⟨a0, s0, rfl, hc0, hs0, hz0, rfl⟩ := errorString_of_trod Tryz.underlying29 (fun u hu => Tryz.rowPES u (by rw [← hnm]; exact hu)) Tryz.underlying271 Tryz.underlying291 rfl rfl Tryz.underlying9 Tryz.cellsES Tryz.cellsStr hd0 ok0
 exact ⟨a0, s0, by simpa using World.var?_cell hg0 hv0 0, hc0, hs0, (hrows a0.block a0.off (by simp [MemPlace.row])).1⟩
end Go.Proofs.YtibhkijaafdkoaaGreatDoor

namespace Go.Proofs.YtibhkijaafdkoaaGreatDoor
open Go.ChangeShapes Go.WideShapes Go.ChangeAt Go.RowKit Go.Deep
theorem open_slice_three {H : Type} {enc : TypeId × Value → H} {P : Program} {w : World} {base : Nat} {spare : Nat → Bool} {held : Bool} {t e : TypeId} {f0 f1 f2 : Field} {fuel : Nat} {cs : List Value} {x : DataW H × List MemPlace}
  (ht : P.underlying t = some (.slice e)) (he : P.underlying e = some (.struct #[f0, f1, f2])) (ce : P.cellsOf e = 3) (o0 : f0.offset = 0) (o1 : f1.offset = 1) (o2 : f2.offset = 2) (c0 : P.cellsOf f0.type = 1) (c1 : P.cellsOf f1.type = 1) (c2 : P.cellsOf f2.type = 1)
  (h : DataW.trod enc P w base spare held fuel t cs = some x) :
  cs = [.slice none 0 0] ∨
  ∃ (a : Addr) (len cap n : Nat), cs = [.slice (some a) len cap] ∧ len ≤ cap ∧ cap ≤ maxLen ∧
   ∀ i, i < len → ∃ (v0 v1 v2 : Value) (y0 y1 y2 : DataW H × List MemPlace), w.cell? (a.add (i * 3)) = some v0 ∧ w.cell? (a.add (i * 3 + 1)) = some v1 ∧ w.cell? (a.add (i * 3 + 2)) = some v2 ∧
    DataW.trod enc P w base spare held n f0.type [v0] = some y0 ∧ DataW.trod enc P w base spare held n f1.type [v1] = some y1 ∧ DataW.trod enc P w base spare held n f2.type [v2] = some y2 := by
 rcases open_slice ht h with h0 | ⟨a, len, cap, m, n, D, Pl, rfl, hb, hl, hm, hmm, -, hx⟩
 · exact .inl h0.1
 right
 have hlm : len ≤ m := by rw [hmm]; split <;> omega
 refine ⟨a, len, cap, n - 1, rfl, hl, hm, fun i hi => ?_⟩
 obtain ⟨cs', h1, h2⟩ := hx i (by omega)
 rw [ce] at h1
 obtain ⟨_, hlen, hcell⟩ := World.cells?_some h1
 obtain ⟨xs, k, hk, hxy, _, hxl, hf⟩ := DataW.trod_struct he h2
 have hk' : k = n - 1 := by omega
 subst hk'
 match xs, hxl, cs', hlen with
 | [y0, y1, y2], _, [v0, v1, v2], _ =>
  have g0 := hf 0 f0 rfl
  have g1 := hf 1 f1 rfl
  have g2 := hf 2 f2 rfl
  simp [o0, o1, o2, c0, c1, c2] at g0 g1 g2
  have e0 := hcell 0 (by omega)
  have e1 := hcell 1 (by omega)
  have e2 := hcell 2 (by omega)
  rw [add_add] at e0 e1 e2
  exact ⟨v0, v1, v2, y0, y1, y2, by simpa using e0, by simpa using e1, by simpa using e2, g0, g1, g2⟩
theorem Tryz.cellsPkt : Tryz.prog.cellsOf 52 = 3 := by kernel_rfl
set_option maxRecDepth 100000 in
theorem open_pkts {H : Type} {enc : TypeId × Value → H} {W : World} {base : Nat} {v : Value} {d : DataW H} {p : List MemPlace} (hv : Value.okWide Tryz.prog W .any base 43 v)
  (h : DataW.Trod enc Tryz.prog W 0 (fun _ => true) true 43 v d p) :
  ∃ a cap ps, v = .slice a ps.length cap ∧ LiesP W a ps ∧ ps.length ≤ cap ∧ cap ≤ maxLen ∧ (a = none → ps = [] ∧ cap = 0) := by
 obtain ⟨a0, len0, cap0, rfl⟩ := okWide_slice Tryz.underlying43 hv
 obtain ⟨fuel, hf⟩ := h
 rcases open_slice_three Tryz.underlying43 Tryz.underlying52 Tryz.cellsPkt rfl rfl rfl Tryz.cellsInt Tryz.cellsInt Tryz.cellsInt hf with hcs | ⟨x, l, c, n, hcs, hl, hm, hcell⟩
 ·
  simp [Value.cells] at hcs
  obtain ⟨rfl, rfl, rfl⟩ := hcs
  exact ⟨none, 0, [], rfl, .inl rfl, by simp, by simp [maxLen], fun _ => ⟨rfl, rfl⟩⟩
 ·
  simp [Value.cells] at hcs
  obtain ⟨rfl, rfl, rfl⟩ := hcs
  have each : ∀ i, i < len0 → ∃ q : Int × Int × Int, W.cell? (x.add (i * 3)) = some (.int .i64 q.1) ∧ W.cell? (x.add (i * 3 + 1)) = some (.int .i64 q.2.1) ∧ W.cell? (x.add (i * 3 + 2)) = some (.int .i64 q.2.2) := by
   intro i hi
   obtain ⟨v0, v1, v2, y0, y1, y2, h0, h1, h2, g0, g1, g2⟩ := hcell i hi
   obtain ⟨k0, e0, _, _⟩ := DataW.trod_int Tryz.underlying3 g0
   obtain ⟨k1, e1, _, _⟩ := DataW.trod_int Tryz.underlying3 g1
   obtain ⟨k2, e2, _, _⟩ := DataW.trod_int Tryz.underlying3 g2
   simp at e0 e1 e2
   subst e0 e1 e2
   exact ⟨(k0, k1, k2), h0, h1, h2⟩
  obtain ⟨q, hq⟩ := choose_lt each
  refine ⟨some x, cap0, (List.range len0).map fun i => ⟨(q i).1, (q i).2.1, (q i).2.2⟩, by simp, ?_, by simpa using hl, hm, fun h => by cases h⟩
  by_cases h0 : len0 = 0
  · subst h0; exact .inl (by simp)
  ·
   obtain ⟨b, off, spot⟩ := x
   have hc0 := (hq 0 (by omega)).1
   have hspot : spot = none := by simpa [Addr.add] using World.cell?_spot hc0
   subst hspot
   refine .inr ⟨b, off, rfl, by simpa [Addr.add] using cell_lt hc0, fun i p hi => ?_⟩
   have hil : i < len0 := by
    rcases Nat.lt_or_ge i len0 with h | h
    · exact h
    · simp [h] at hi
   simp [hil] at hi
   subst hi
   obtain ⟨h0, h1, h2⟩ := hq i hil
   rw [Addr.add_lit] at h0 h1 h2
   exact ⟨h0, by rw [Nat.add_assoc]; exact h1, by rw [Nat.add_assoc]; exact h2⟩
end Go.Proofs.YtibhkijaafdkoaaGreatDoor

namespace Go.Proofs.YtibhkijaafdkoaaGreatDoor
open Go.ChangeShapes Go.WideShapes Go.ChangeAt Go.RowKit Go.Deep
section
variable {H : Type} {enc : TypeId × Value → H} {W : World} {fuel : Nat} {cs : List Value} {x : DataW H × List MemPlace}
theorem Tryz.cellsLine2 : Tryz.prog.cellsOf 133 = 2 := by kernel_rfl
theorem Tryz.cellsLines : Tryz.prog.cellsOf 38 = 1 := by kernel_rfl
theorem Tryz.cellsInts : Tryz.prog.cellsOf 23 = 1 := by kernel_rfl
theorem Tryz.cellsStr1 : Tryz.prog.cellsOf 9 = 1 := by kernel_rfl
theorem Tryz.cellsRGate : Tryz.prog.cellsOf 25 = 4 := by kernel_rfl
theorem Tryz.cellsCurves : Tryz.prog.cellsOf 22 = 1 := by kernel_rfl
set_option maxRecDepth 100000 in
theorem trod_lines (h : DataW.trod enc Tryz.prog W 0 (fun _ => true) true fuel 38 cs = some x) :
  ∃ a cap ls, cs = [.slice a ls.length cap] ∧ Lies W a ls ∧ ls.length ≤ cap ∧ cap ≤ maxLen ∧ (a = none → ls = [] ∧ cap = 0) := by
 rcases open_slice_pairs Tryz.underlying38 Tryz.underlying133 Tryz.cellsLine2 rfl rfl Tryz.cellsInt Tryz.cellsInt h with ⟨rfl, _⟩ | ⟨x, len0, cap0, m, n, V0, V1, D0, D1, P0, P1, rfl, _, hl, hm, hmm, _, hcell⟩
 · exact ⟨none, 0, [], rfl, .inl rfl, by simp, by simp [maxLen], fun _ => ⟨rfl, rfl⟩⟩
 ·
  have hm' : m = cap0 := by simpa using hmm
  refine ⟨some x, cap0, (List.range len0).map fun i => (intOf (V0 i), intOf (V1 i)), by simp, ?_, by simpa using hl, hm, fun h => by cases h⟩
  by_cases h0 : len0 = 0
  · subst h0; exact .inl (by simp)
  ·
   have hint : ∀ i, i < len0 → V0 i = .int .i64 (intOf (V0 i)) ∧ V1 i = .int .i64 (intOf (V1 i)) := by
    intro i hi
    obtain ⟨_, _, h2, h3⟩ := hcell i (by omega)
    obtain ⟨k0, e0, _, _⟩ := DataW.trod_int Tryz.underlying3 h2
    obtain ⟨k1, e1, _, _⟩ := DataW.trod_int Tryz.underlying3 h3
    simp at e0 e1
    rw [e0, e1]
    exact ⟨rfl, rfl⟩
   obtain ⟨b, off, spot⟩ := x
   have hc0 := (hcell 0 (by omega)).1
   have hspot : spot = none := by simpa [Addr.add] using World.cell?_spot hc0
   subst hspot
   refine .inr ⟨b, off, rfl, by simpa [Addr.add] using cell_lt hc0, fun i x y hi => ?_⟩
   have hil : i < len0 := by
    rcases Nat.lt_or_ge i len0 with h | h
    · exact h
    · simp [h] at hi
   simp [hil] at hi
   obtain ⟨h0, h1, _, _⟩ := hcell i (by omega)
   have := hint i hil
   rw [this.1, hi.1] at h0
   rw [this.2, hi.2] at h1
   rw [Addr.add_lit] at h0 h1
   exact ⟨h0, by rw [Nat.add_assoc]; exact h1⟩
set_option maxRecDepth 100000 in
theorem trod_nums (h : DataW.trod enc Tryz.prog W 0 (fun _ => true) true fuel 23 cs = some x) :
  ∃ a cap ns, cs = [.slice a ns.length cap] ∧ LiesN W a ns ∧ ns.length ≤ cap ∧ cap ≤ maxLen ∧ (a = none → ns = [] ∧ cap = 0) := by
 rcases open_ints Tryz.underlying23 Tryz.underlying3 Tryz.cellsInt h with ⟨rfl, _⟩ | ⟨x, len0, cap0, zs, rfl, _, hl, hm, hz, _, hcell, hwz⟩
 · exact ⟨none, 0, [], rfl, .inl rfl, by simp, by simp [maxLen], fun _ => ⟨rfl, rfl⟩⟩
 ·
  have hz' : zs.length = cap0 := by simpa using hz
  refine ⟨some x, cap0, zs.take len0, by rw [List.length_take, hz', Nat.min_eq_left hl], ?_, by rw [List.length_take]; omega, hm, fun e => by cases e⟩
  by_cases h0 : len0 = 0
  · subst h0; exact .inl (by simp)
  ·
   obtain ⟨b, off, spot⟩ := x
   have hc0 := hcell 0 (by omega)
   have hspot : spot = none := by simpa [Addr.add] using World.cell?_spot hc0
   subst hspot
   refine .inr ⟨b, off, rfl, by simpa [Addr.add] using cell_lt hc0, fun i y hi => ?_⟩
   rw [List.getElem?_take] at hi
   split at hi
   ·
    next hil =>
    have := hcell i (by omega)
    rw [Addr.add_lit, List.getD, hi] at this
    exact this
   · cases hi
set_option maxRecDepth 100000 in
theorem trod_curves (h : DataW.trod enc Tryz.prog W 0 (fun _ => true) true fuel 22 cs = some x) :
  ∃ a cap css, cs = [.slice a css.length cap] ∧ LiesC W a css ∧ css.length ≤ cap ∧ cap ≤ maxLen := by
 rcases open_slice Tryz.underlying22 h with ⟨rfl, _⟩ | ⟨ad, len, cap, m, n, D, Pl, rfl, hb, hl, hm, hmm, -, hx⟩
 · exact ⟨none, 0, [], rfl, .inl rfl, by simp, by simp [maxLen]⟩
 ·
  have hlm : len ≤ m := by rw [hmm]; split <;> omega
  have each : ∀ i, i < len → ∃ q : Option Addr × Nat × List (Int × Int), W.cell? (ad.add i) = some (.slice q.1 q.2.2.length q.2.1) ∧ Lies W q.1 q.2.2 ∧ q.2.2.length ≤ q.2.1 ∧ q.2.1 ≤ maxLen ∧ (q.1 = none → q.2.2 = [] ∧ q.2.1 = 0) := by
   intro i hi
   obtain ⟨cs', h1, h2⟩ := hx i (by omega)
   rw [Tryz.cellsLines] at h1
   obtain ⟨a', cap', ls, rfl, h3, h4⟩ := trod_lines h2
   obtain ⟨_, _, hcell⟩ := World.cells?_some h1
   have hc := hcell 0 (by omega)
   rw [add_add, Nat.mul_one, Nat.add_zero] at hc
   exact ⟨(a', cap', ls), by simpa using hc, h3, h4⟩
  obtain ⟨q, hq⟩ : ∃ q : Nat → Option Addr × Nat × List (Int × Int), ∀ i, i < len → W.cell? (ad.add i) = some (.slice (q i).1 (q i).2.2.length (q i).2.1) ∧ Lies W (q i).1 (q i).2.2 ∧ (q i).2.2.length ≤ (q i).2.1 ∧ (q i).2.1 ≤ maxLen ∧ ((q i).1 = none → (q i).2.2 = [] ∧ (q i).2.1 = 0) :=
   ⟨fun i => if h : i < len then Classical.choose (each i h) else (none, 0, []), fun i hi => by simp only [dif_pos hi]; exact Classical.choose_spec (each i hi)⟩
  refine ⟨some ad, cap, (List.range len).map fun i => (q i).2.2, by simp, ?_, by simpa using hl, hm⟩
  by_cases h0 : len = 0
  · subst h0; exact .inl (by simp)
  ·
   obtain ⟨b, off, spot⟩ := ad
   have hc0 := (hq 0 (by omega)).1
   have hspot : spot = none := by simpa [Addr.add] using World.cell?_spot hc0
   subst hspot
   refine .inr ⟨b, off, rfl, by simpa [Addr.add] using cell_lt hc0, fun i ls hi => ?_⟩
   have hil : i < len := by
    rcases Nat.lt_or_ge i len with h | h
    · exact h
    · simp [h] at hi
   simp [hil] at hi
   obtain ⟨g1, g2, g3, g4, g5⟩ := hq i hil
   rw [hi] at g1 g2 g3 g5
   rw [Addr.add_lit] at g1
   exact ⟨(q i).1, (q i).2.1, g1, g2, g3, g4, g5⟩
set_option maxRecDepth 100000 in
theorem open_rgate {base : Nat} {v : Value} {d : DataW H} {p : List MemPlace} (hv : Value.okWide Tryz.prog W .any base 25 v)
  (h : DataW.Trod enc Tryz.prog W 0 (fun _ => true) true 25 v d p) :
  ∃ ca ccap cs kb per na ncap ns, v = .agg #[.slice ca (cs : List (List (Int × Int))).length ccap, .string kb, .int .i64 per, .slice na (ns : List Int).length ncap] ∧ GateRaw W ca ccap cs na ncap ns := by
 obtain ⟨vs, rfl, hsz⟩ := okWide_struct Tryz.underlying25 hv
 obtain ⟨fuel, hf⟩ := h
 obtain ⟨xs, k, -, -, -, hxl, hfl⟩ := DataW.trod_struct Tryz.underlying25 hf
 rw [Tryz.cellsRGate] at hsz
 obtain ⟨l⟩ := vs
 match l, hsz, xs, hxl with
 | [v0, v1, v2, v3], _, [x0, x1, x2, x3], _ =>
  have g0 := hfl 0 _ rfl
  have g1 := hfl 1 _ rfl
  have g2 := hfl 2 _ rfl
  have g3 := hfl 3 _ rfl
  simp [Value.cells, Tryz.cellsCurves, Tryz.cellsStr1, Tryz.cellsInt, Tryz.cellsInts] at g0 g1 g2 g3
  obtain ⟨ca, ccap, css, e0, h1, h2, h3⟩ := trod_curves g0
  obtain ⟨kb, e1, -, -⟩ := DataW.trod_string Tryz.underlying9 g1
  obtain ⟨per, e2, -, -⟩ := DataW.trod_int Tryz.underlying3 g2
  obtain ⟨na, ncap, ns, e3, h4, h5, h6, h7⟩ := trod_nums g3
  simp at e0 e1 e2 e3
  subst e0 e1 e2 e3
  exact ⟨ca, ccap, css, kb, per, na, ncap, ns, rfl, h1, h2, h3, h4, h5, h6, h7⟩
end
end Go.Proofs.YtibhkijaafdkoaaGreatDoor

namespace Go.Proofs.YtibhkijaafdkoaaGreatDoor
open Go.ChangeShapes Go.WideShapes Go.ChangeAt Go.RowKit Go.Deep
section
variable {H : Type} {enc : TypeId × Value → H} {W : World}
set_option maxRecDepth 100000 in
theorem open_intss {base : Nat} {v : Value} {d : DataW H} {p : List MemPlace} (hv : Value.okWide Tryz.prog W .any base 56 v)
  (h : DataW.Trod enc Tryz.prog W 0 (fun _ => true) true 56 v d p) :
  ∃ a cap nn, v = .slice a (nn : List (List Int)).length cap ∧ LiesM W a nn ∧ nn.length ≤ cap ∧ cap ≤ maxLen ∧ (a = none → nn = [] ∧ cap = 0) := by
 obtain ⟨a0, len0, cap0, rfl⟩ := okWide_slice Tryz.underlying56 hv
 obtain ⟨fuel, hf⟩ := h
 rcases open_slice Tryz.underlying56 hf with ⟨hcs, _⟩ | ⟨ad, len, cap, m, n, D, Pl, hcs, hb, hl, hm, hmm, -, hx⟩
 ·
  simp [Value.cells] at hcs
  obtain ⟨rfl, rfl, rfl⟩ := hcs
  exact ⟨none, 0, [], rfl, .inl rfl, by simp, by simp [maxLen], fun _ => ⟨rfl, rfl⟩⟩
 ·
  simp [Value.cells] at hcs
  obtain ⟨rfl, rfl, rfl⟩ := hcs
  have hlm : len0 ≤ m := by rw [hmm]; split <;> omega
  have each : ∀ i, i < len0 → ∃ q : Option Addr × Nat × List Int, W.cell? (ad.add i) = some (.slice q.1 q.2.2.length q.2.1) ∧ LiesN W q.1 q.2.2 ∧ q.2.2.length ≤ q.2.1 ∧ q.2.1 ≤ maxLen ∧ (q.1 = none → q.2.2 = [] ∧ q.2.1 = 0) := by
   intro i hi
   obtain ⟨cs', h1, h2⟩ := hx i (by omega)
   rw [Tryz.cellsInts] at h1
   obtain ⟨a', cap', ns, rfl, h3, h4⟩ := trod_nums h2
   obtain ⟨_, _, hcell⟩ := World.cells?_some h1
   have hc := hcell 0 (by omega)
   rw [add_add, Nat.mul_one, Nat.add_zero] at hc
   exact ⟨(a', cap', ns), by simpa using hc, h3, h4⟩
  obtain ⟨q, hq⟩ : ∃ q : Nat → Option Addr × Nat × List Int, ∀ i, i < len0 → W.cell? (ad.add i) = some (.slice (q i).1 (q i).2.2.length (q i).2.1) ∧ LiesN W (q i).1 (q i).2.2 ∧ (q i).2.2.length ≤ (q i).2.1 ∧ (q i).2.1 ≤ maxLen ∧ ((q i).1 = none → (q i).2.2 = [] ∧ (q i).2.1 = 0) :=
   ⟨fun i => if h : i < len0 then Classical.choose (each i h) else (none, 0, []), fun i hi => by simp only [dif_pos hi]; exact Classical.choose_spec (each i hi)⟩
  refine ⟨some ad, cap0, (List.range len0).map fun i => (q i).2.2, by simp, ?_, by simpa using hl, hm, fun h => by cases h⟩
  by_cases h0 : len0 = 0
  · subst h0; exact .inl (by simp)
  ·
   obtain ⟨b, off, spot⟩ := ad
   have hc0 := (hq 0 (by omega)).1
   have hspot : spot = none := by simpa [Addr.add] using World.cell?_spot hc0
   subst hspot
   refine .inr ⟨b, off, rfl, by simpa [Addr.add] using cell_lt hc0, fun i ls hi => ?_⟩
   have hil : i < len0 := by
    rcases Nat.lt_or_ge i len0 with h | h
    · exact h
    · simp [h] at hi
   simp [hil] at hi
   obtain ⟨g1, g2, g3, g4, g5⟩ := hq i hil
   rw [hi] at g1 g2 g3 g5
   rw [Addr.add_lit] at g1
   exact ⟨(q i).1, (q i).2.1, g1, g2, g3, g4, g5⟩
end
end Go.Proofs.YtibhkijaafdkoaaGreatDoor
