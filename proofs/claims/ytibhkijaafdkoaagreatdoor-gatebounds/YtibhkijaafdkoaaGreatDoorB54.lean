/- Proved: for every gate, the call of floodgatelaw3.GateBounds returns true (the bound is that of the curves together), and each argument reads afterwards as it read before. Conditions: the row's own (the listed variables (the nine errors, and package errors' own type) read as the program's text lays them, which the card ties). -/
import Derived.Deep.SlicePairs
import Derived.Deep.Slices
import Derived.Test.YtibhkijaafdkoaaGreatDoorB53
import Derived.Test.YtibhkijaafdkoaaGreatDoorB18
import Derived.Test.YtibhkijaafdkoaaGreatDoorB17
import Derived.Test.YtibhkijaafdkoaaGreatDoorB25
import Derived.Test.YtibhkijaafdkoaaGreatDoorB09
import Derived.Test.YtibhkijaafdkoaaGreatDoorCards
namespace Go.Proofs.YtibhkijaafdkoaaGreatDoor
open Go.ChangeShapes Go.WideShapes Go.ChangeAt Go.RowKit Go.Deep
section
variable {H : Type} {enc : TypeId × Value → H} {W : World} {fuel : Nat} {cs : List Value} {x : DataW H × List MemPlace}
theorem Tryz.cellsLine2 : Tryz.prog.cellsOf 133 = 2 := by kernel_rfl
theorem Tryz.cellsLines : Tryz.prog.cellsOf 38 = 1 := by kernel_rfl
theorem Tryz.cellsInts : Tryz.prog.cellsOf 23 = 1 := by kernel_rfl
theorem Tryz.cellsStr1 : Tryz.prog.cellsOf 9 = 1 := by kernel_rfl
theorem Tryz.cellsRGate : Tryz.prog.cellsOf 25 = 4 := by kernel_rfl
theorem Tryz.cellsCurves : Tryz.prog.cellsOf 22 = 1 := by kernel_rfl
set_option maxRecDepth 100000 in
theorem trod_lines (h : DataW.trod enc Tryz.prog W 0 (fun _ => true) true fuel 38 cs = some x) :
  ∃ a cap ls, cs = [.slice a ls.length cap] ∧ Lies W a ls ∧ ls.length ≤ cap ∧ cap ≤ maxLen ∧ (a = none → ls = [] ∧ cap = 0) := by
 rcases open_slice_pairs Tryz.underlying38 Tryz.underlying133 Tryz.cellsLine2 rfl rfl Tryz.cellsInt Tryz.cellsInt h with ⟨rfl, _⟩ | ⟨x, len0, cap0, m, n, V0, V1, D0, D1, P0, P1, rfl, _, hl, hm, hmm, _, hcell⟩
 · exact ⟨none, 0, [], rfl, .inl rfl, by simp, by simp [maxLen], fun _ => ⟨rfl, rfl⟩⟩
 ·
  have hm' : m = cap0 := by simpa using hmm
  refine ⟨some x, cap0, (List.range len0).map fun i => (intOf (V0 i), intOf (V1 i)), by simp, ?_, by simpa using hl, hm, fun h => by cases h⟩
  by_cases h0 : len0 = 0
  · subst h0; exact .inl (by simp)
  ·
   have hint : ∀ i, i < len0 → V0 i = .int .i64 (intOf (V0 i)) ∧ V1 i = .int .i64 (intOf (V1 i)) := by
    intro i hi
    obtain ⟨_, _, h2, h3⟩ := hcell i (by omega)
    obtain ⟨k0, e0, _, _⟩ := DataW.trod_int Tryz.underlying3 h2
    obtain ⟨k1, e1, _, _⟩ := DataW.trod_int Tryz.underlying3 h3
    simp at e0 e1
    rw [e0, e1]
    exact ⟨rfl, rfl⟩
   obtain ⟨b, off, spot⟩ := x
   have hc0 := (hcell 0 (by omega)).1
   have hspot : spot = none := by simpa [Addr.add] using World.cell?_spot hc0
   subst hspot
   refine .inr ⟨b, off, rfl, by simpa [Addr.add] using cell_lt hc0, fun i x y hi => ?_⟩
   have hil : i < len0 := by
    rcases Nat.lt_or_ge i len0 with h | h
    · exact h
    · simp [h] at hi
   simp [hil] at hi
   obtain ⟨h0, h1, _, _⟩ := hcell i (by omega)
   have := hint i hil
   rw [this.1, hi.1] at h0
   rw [this.2, hi.2] at h1
   rw [Addr.add_lit] at h0 h1
   exact ⟨h0, by rw [Nat.add_assoc]; exact h1⟩
set_option maxRecDepth 100000 in
theorem trod_nums (h : DataW.trod enc Tryz.prog W 0 (fun _ => true) true fuel 23 cs = some x) :
  ∃ a cap ns, cs = [.slice a ns.length cap] ∧ LiesN W a ns ∧ ns.length ≤ cap ∧ cap ≤ maxLen ∧ (a = none → ns = [] ∧ cap = 0) := by
 rcases open_ints Tryz.underlying23 Tryz.underlying3 Tryz.cellsInt h with ⟨rfl, _⟩ | ⟨x, len0, cap0, zs, rfl, _, hl, hm, hz, _, hcell, hwz⟩
 · exact ⟨none, 0, [], rfl, .inl rfl, by simp, by simp [maxLen], fun _ => ⟨rfl, rfl⟩⟩
 ·
  have hz' : zs.length = cap0 := by simpa using hz
  refine ⟨some x, cap0, zs.take len0, by rw [List.length_take, hz', Nat.min_eq_left hl], ?_, by rw [List.length_take]; omega, hm, fun e => by cases e⟩
  by_cases h0 : len0 = 0
  · subst h0; exact .inl (by simp)
  ·
   obtain ⟨b, off, spot⟩ := x
   have hc0 := hcell 0 (by omega)
   have hspot : spot = none := by simpa [Addr.add] using World.cell?_spot hc0
   subst hspot
   refine .inr ⟨b, off, rfl, by simpa [Addr.add] using cell_lt hc0, fun i y hi => ?_⟩
   rw [List.getElem?_take] at hi
   split at hi
   ·
    next hil =>
    have := hcell i (by omega)
    rw [Addr.add_lit, List.getD, hi] at this
    exact this
   · cases hi
set_option maxRecDepth 100000 in
theorem trod_curves (h : DataW.trod enc Tryz.prog W 0 (fun _ => true) true fuel 22 cs = some x) :
  ∃ a cap css, cs = [.slice a css.length cap] ∧ LiesC W a css ∧ css.length ≤ cap ∧ cap ≤ maxLen := by
 rcases open_slice Tryz.underlying22 h with ⟨rfl, _⟩ | ⟨ad, len, cap, m, n, D, Pl, rfl, hb, hl, hm, hmm, -, hx⟩
 · exact ⟨none, 0, [], rfl, .inl rfl, by simp, by simp [maxLen]⟩
 ·
  have hlm : len ≤ m := by rw [hmm]; split <;> omega
  have each : ∀ i, i < len → ∃ q : Option Addr × Nat × List (Int × Int), W.cell? (ad.add i) = some (.slice q.1 q.2.2.length q.2.1) ∧ Lies W q.1 q.2.2 ∧ q.2.2.length ≤ q.2.1 ∧ q.2.1 ≤ maxLen ∧ (q.1 = none → q.2.2 = [] ∧ q.2.1 = 0) := by
   intro i hi
   obtain ⟨cs', h1, h2⟩ := hx i (by omega)
   rw [Tryz.cellsLines] at h1
   obtain ⟨a', cap', ls, rfl, h3, h4⟩ := trod_lines h2
   obtain ⟨_, _, hcell⟩ := World.cells?_some h1
   have hc := hcell 0 (by omega)
   rw [add_add, Nat.mul_one, Nat.add_zero] at hc
   exact ⟨(a', cap', ls), by simpa using hc, h3, h4⟩
  obtain ⟨q, hq⟩ : ∃ q : Nat → Option Addr × Nat × List (Int × Int), ∀ i, i < len → W.cell? (ad.add i) = some (.slice (q i).1 (q i).2.2.length (q i).2.1) ∧ Lies W (q i).1 (q i).2.2 ∧ (q i).2.2.length ≤ (q i).2.1 ∧ (q i).2.1 ≤ maxLen ∧ ((q i).1 = none → (q i).2.2 = [] ∧ (q i).2.1 = 0) :=
   ⟨fun i => if h : i < len then Classical.choose (each i h) else (none, 0, []), fun i hi => by simp only [dif_pos hi]; exact Classical.choose_spec (each i hi)⟩
  refine ⟨some ad, cap, (List.range len).map fun i => (q i).2.2, by simp, ?_, by simpa using hl, hm⟩
  by_cases h0 : len = 0
  · subst h0; exact .inl (by simp)
  ·
   obtain ⟨b, off, spot⟩ := ad
   have hc0 := (hq 0 (by omega)).1
   have hspot : spot = none := by simpa [Addr.add] using World.cell?_spot hc0
   subst hspot
   refine .inr ⟨b, off, rfl, by simpa [Addr.add] using cell_lt hc0, fun i ls hi => ?_⟩
   have hil : i < len := by
    rcases Nat.lt_or_ge i len with h | h
    · exact h
    · simp [h] at hi
   simp [hil] at hi
   obtain ⟨g1, g2, g3, g4, g5⟩ := hq i hil
   rw [hi] at g1 g2 g3 g5
   rw [Addr.add_lit] at g1
   exact ⟨(q i).1, (q i).2.1, g1, g2, g3, g4, g5⟩
set_option maxRecDepth 100000 in
theorem open_rgate {base : Nat} {v : Value} {d : DataW H} {p : List MemPlace} (hv : Value.okWide Tryz.prog W .any base 25 v)
  (h : DataW.Trod enc Tryz.prog W 0 (fun _ => true) true 25 v d p) :
  ∃ ca ccap cs kb per na ncap ns, v = .agg #[.slice ca (cs : List (List (Int × Int))).length ccap, .string kb, .int .i64 per, .slice na (ns : List Int).length ncap] ∧ GateRaw W ca ccap cs na ncap ns := by
 obtain ⟨vs, rfl, hsz⟩ := okWide_struct Tryz.underlying25 hv
 obtain ⟨fuel, hf⟩ := h
 obtain ⟨xs, k, -, -, -, hxl, hfl⟩ := DataW.trod_struct Tryz.underlying25 hf
 rw [Tryz.cellsRGate] at hsz
 obtain ⟨l⟩ := vs
 match l, hsz, xs, hxl with
 | [v0, v1, v2, v3], _, [x0, x1, x2, x3], _ =>
  have g0 := hfl 0 _ rfl
  have g1 := hfl 1 _ rfl
  have g2 := hfl 2 _ rfl
  have g3 := hfl 3 _ rfl
  simp [Value.cells, Tryz.cellsCurves, Tryz.cellsStr1, Tryz.cellsInt, Tryz.cellsInts] at g0 g1 g2 g3
  obtain ⟨ca, ccap, css, e0, h1, h2, h3⟩ := trod_curves g0
  obtain ⟨kb, e1, -, -⟩ := DataW.trod_string Tryz.underlying9 g1
  obtain ⟨per, e2, -, -⟩ := DataW.trod_int Tryz.underlying3 g2
  obtain ⟨na, ncap, ns, e3, h4, h5, h6, h7⟩ := trod_nums g3
  simp at e0 e1 e2 e3
  subst e0 e1 e2 e3
  exact ⟨ca, ccap, css, kb, per, na, ncap, ns, rfl, h1, h2, h3, h4, h5, h6, h7⟩
end
end Go.Proofs.YtibhkijaafdkoaaGreatDoor

namespace Go.Proofs.YtibhkijaafdkoaaGreatDoor
open Go.ChangeShapes Go.WideShapes Go.ChangeAt Go.RowKit
theorem Tryz.oneRow : ((List.range 303).filter fun t => Tryz.prog.rowNamed t [101, 114, 114, 111, 114]) = [29] := by kernel_rfl
theorem Tryz.sizeTypes : Tryz.prog.types.size = 303 := by kernel_rfl
theorem Tryz.handleErr : typeHandle Tryz.prog 29 = .pointer (some ⟨10, 29, none⟩) := by kernel_rfl
theorem Tryz.gType : Tryz.prog.globalNamed "errors.errorType" = some 9 := by kernel_rfl
def nth9 (a0 a1 a2 a3 a4 a5 a6 a7 a8 : Addr) : Nat → Addr
 | 0 => a0 | 1 => a1 | 2 => a2 | 3 => a3 | 4 => a4 | 5 => a5 | 6 => a6 | 7 => a7 | _ => a8
theorem errs9_of_laid {W : World} (h : laidMetH Tryz.prog Rows.gateRunsRow.laid W) : ∃ ad, Errs9 W ad := by
 have h' : laidMet Tryz.prog Rows.gateRunsRow.laid.tail W ∧ handlesMet Tryz.prog [("errors.errorType", Rows.laid_errors_errorType)] W := h
 obtain ⟨h1, h2⟩ := h'
 have hty : W.cell? ⟨9, 0, none⟩ = some (.iface 207 (.agg #[.pointer (some ⟨10, 29, none⟩)])) := by
  obtain ⟨name, u, ty, e1, e2, e3, e4, e5⟩ := h2 _ (List.mem_singleton.2 rfl)
  have en : name = [101, 114, 114, 111, 114] := (Option.some.inj e1).symm
  subst en
  obtain rfl : u = 207 := Option.some.inj (e2.symm.trans (by kernel_rfl))
  have hm : ty ∈ (List.range 303).filter fun t => Tryz.prog.rowNamed t [101, 114, 114, 111, 114] := List.mem_filter.2 ⟨List.mem_range.2 (by rw [← Tryz.sizeTypes]; exact e3), e4⟩
  rw [Tryz.oneRow] at hm
  obtain rfl := List.mem_singleton.1 hm
  rw [Tryz.handleErr] at e5
  simpa using World.var?_cell Tryz.gType e5 0
 obtain ⟨a0, s0, v0, c0, t0, b0⟩ := sentinel_of_laid (g := 2) h1 rfl (by kernel_rfl) (by kernel_rfl)
 obtain ⟨a1, s1, v1, c1, t1, b1⟩ := sentinel_of_laid (g := 3) h1.tail rfl (by kernel_rfl) (by kernel_rfl)
 obtain ⟨a2, s2, v2, c2, t2, b2⟩ := sentinel_of_laid (g := 4) h1.tail.tail rfl (by kernel_rfl) (by kernel_rfl)
 obtain ⟨a3, s3, v3, c3, t3, b3⟩ := sentinel_of_laid (g := 0) h1.tail.tail.tail rfl (by kernel_rfl) (by kernel_rfl)
 obtain ⟨a4, s4, v4, c4, t4, b4⟩ := sentinel_of_laid (g := 5) h1.tail.tail.tail.tail rfl (by kernel_rfl) (by kernel_rfl)
 obtain ⟨a5, s5, v5, c5, t5, b5⟩ := sentinel_of_laid (g := 6) h1.tail.tail.tail.tail.tail rfl (by kernel_rfl) (by kernel_rfl)
 obtain ⟨a6, s6, v6, c6, t6, b6⟩ := sentinel_of_laid (g := 7) h1.tail.tail.tail.tail.tail.tail rfl (by kernel_rfl) (by kernel_rfl)
 obtain ⟨a7, s7, v7, c7, t7, b7⟩ := sentinel_of_laid (g := 8) h1.tail.tail.tail.tail.tail.tail.tail rfl (by kernel_rfl) (by kernel_rfl)
 obtain ⟨a8, s8, v8, c8, t8, b8⟩ := sentinel_of_laid (g := 1) h1.tail.tail.tail.tail.tail.tail.tail.tail rfl (by kernel_rfl) (by kernel_rfl)
 have hc : ∀ i, i < 9 → ∃ s : ByteArray, W.cell? (nth9 a0 a1 a2 a3 a4 a5 a6 a7 a8 i) = some (.string s) ∧ some s.data.toList = [s0, s1, s2, s3, s4, s5, s6, s7, s8][i]?.map fun s => s.data.toList := by
  intro i hi
  match i, hi with
  | 0, _ => exact ⟨s0, c0, rfl⟩
  | 1, _ => exact ⟨s1, c1, rfl⟩
  | 2, _ => exact ⟨s2, c2, rfl⟩
  | 3, _ => exact ⟨s3, c3, rfl⟩
  | 4, _ => exact ⟨s4, c4, rfl⟩
  | 5, _ => exact ⟨s5, c5, rfl⟩
  | 6, _ => exact ⟨s6, c6, rfl⟩
  | 7, _ => exact ⟨s7, c7, rfl⟩
  | 8, _ => exact ⟨s8, c8, rfl⟩
  | i + 9, h => omega
 refine ⟨nth9 a0 a1 a2 a3 a4 a5 a6 a7 a8, hty, v0, v1, v2, v3, v4, v5, v6, v7, v8, ?_, ?_⟩
 ·
  have hl : [s0, s1, s2, s3, s4, s5, s6, s7, s8].map (fun s => s.data.toList) = (Rows.gateRunsRow.laid.tail.map fun x => match x.2 with | .iface _ (.ptr (.agg [.lit (.string t)])) => t | _ => []) := by
   simp only [List.map_cons, List.map_nil, t0, t1, t2, t3, t4, t5, t6, t7, t8]
   rfl
  have hnd : ((Rows.gateRunsRow.laid.tail.map fun x => match x.2 with | .iface _ (.ptr (.agg [.lit (.string t)])) => t | _ => []) : List (List UInt8)).Nodup := by decide
  intro i j hi hj hij he
  obtain ⟨s, h1, h2⟩ := hc i hi
  obtain ⟨u, h3, h4⟩ := hc j hj
  rw [he, h3] at h1
  injection h1 with h1
  injection h1 with h1
  subst h1
  rw [← List.getElem?_map, hl] at h2 h4
  exact hij ((List.getElem?_inj (by rw [← hl]; simpa using hi) hnd).1 (h2.symm.trans h4))
 ·
  intro i hi
  match i, hi with
  | 0, _ => exact b0
  | 1, _ => exact b1
  | 2, _ => exact b2
  | 3, _ => exact b3
  | 4, _ => exact b4
  | 5, _ => exact b5
  | 6, _ => exact b6
  | 7, _ => exact b7
  | 8, _ => exact b8
  | i + 9, h => omega
theorem door_met9 (os : Os) (args : Array Value) : laidMetH Tryz.prog Rows.gateRunsRow.laid ((World.doorLaid Tryz.prog 187 os).forCall (fun _ _ => 0) ⟨#[], args, []⟩).memory :=
 laidMetH_of_parts3 (fuel := 8) (laidMet_of_run' 8 (by kernel_rfl) (by kernel_rfl)) (by kernel_rfl) (by kernel_rfl)
end Go.Proofs.YtibhkijaafdkoaaGreatDoor

namespace Go.Proofs.YtibhkijaafdkoaaGreatDoor
open Go.ChangeShapes Go.WideShapes Go.ChangeAt Go.RowKit
set_option maxRecDepth 100000 in
theorem gbounds_lifted (os : Os) (started : os.Started) (H : Type) (enc : TypeId × Value → H) :
  ReturnsInHanded {} Tryz.checked os 3 .any (fun w args => (Rows.gateBoundsSpec.pre enc Tryz.prog Tryz.f3 [] false w args ∧ laidMetH Tryz.prog Rows.gateBoundsRow.laid w) ∧ sizedMet enc Tryz.prog Tryz.f3 (OpenSpec.ofChange Rows.gateBoundsSpec) false w args)
   (Rows.gateBoundsSpec.post enc Tryz.prog Tryz.f3 false true false false) := by
 refine returnsInHanded_of_change_and (C := Tryz.checked) (X := fun w _ => laidMetH Tryz.prog Rows.gateBoundsRow.laid w) (fun _ _ _ hh h => h.of_heap hh) Tryz.own started (by kernel_rfl) Tryz.func3
  (ChangeSpec.witness_shaped (enc := enc) (C := Tryz.checked) (os := os) (X := fun w _ => laidMetH Tryz.prog Rows.gateBoundsRow.laid w) false (World.doorLaid Tryz.prog 187 os) #[.agg #[.slice none 0 0, .string ⟨#[]⟩, .int .i64 0, .slice none 0 0]] 8 rfl (World.shaped_of_RefB (by kernel_rfl) (by kernel_rfl)) (by kernel_rfl) (by kernel_rfl) (by kernel_rfl) (door_met9 os _)) ?_
 intro W base args ds gs before hval0 hW _ _ hL _
 have hval : ∀ (j : Nat) t v, Tryz.f3.params[j]? = some t → args[j]? = some v → Value.okWide Tryz.prog W .any base t v := hval0
 have hW' := hW
 obtain ⟨p, q, hA0, hV, rfl, hfz, hnd⟩ := hW
 have hA : DataW.TrodAll enc Tryz.prog W 0 (fun _ => true) true Tryz.f3.params.toList args.toList ds p := hA0
 rw [Tryz.params3] at hA hval
 obtain ⟨v0, d0, rfl, rfl, h0⟩ := trodAll_one hA
 obtain ⟨rfl, rfl⟩ := trodVars_none hV
 have lt0 : ∀ x ∈ p, x.block < W.heap.size := by obtain ⟨m, hm⟩ := h0; exact DataW.trod_lt m _ _ _ hm
 have k0 := h0
 obtain ⟨ca0, ccap0, cs0, kb0, per0, na0, ncap0, ns0, rfl, hg0⟩ := open_rgate (hval 0 25 v0 rfl rfl) h0
 obtain ⟨ad, he⟩ := errs9_of_laid hL
 refine (gateBounds_any _ _ _ ca0 ccap0 cs0 kb0 per0 na0 ncap0 ns0 W ad gateWalks boundWalks he hg0).mono fun e W' ⟨he', bel⟩ => ?_
 subst he'
 exact ⟨_, rfl, _, _, _, [], _, [], hW', trodAll_mk1 (shut_bool Tryz.underlying4 _),
  (trodAll_mk1 (Below.trod Tryz.laidOut (by kernel_rfl) (of_decide_eq_true (by kernel_rfl)) k0 bel lt0)), rfl, bel.frame _, fun h => by cases h⟩
theorem gbounds_row : Rows.GateBoundsSaid :=
 OpenClaim.holds_of_wide 3 Tryz.f3 rfl rfl rfl rfl rfl rfl rfl ⟨rfl, rfl, rfl, rfl, rfl⟩ rfl rfl rfl rfl rfl (by kernel_rfl) Tryz.func3 (by kernel_rfl)
  (of_decide_eq_true (by kernel_rfl)) (by unfold Func.isWrapper; rw [if_neg (of_decide_eq_false (by kernel_rfl))]; exact ⟨rfl, rfl⟩)
  (fun os started H enc _ => gbounds_lifted os started H enc)
theorem gateBounds_holds : Rows.GateBoundsCardSaid :=
 Claim7.holds_tied_plain_at .later [] Rows.gateBoundsCard.laidKinds true Rows.gateBoundsCard.stood.harness true
  gbounds_row (fun _ h => by cases h) (by kernel_rfl) (fun _ h => by cases h) gateBounds_row_tie rfl ⟨rfl, rfl⟩ (by kernel_rfl) rfl
  (fun f fn hf hfn => by
   obtain rfl : f = 3 := Option.some.inj ((show Tryz.prog.funcNamed Rows.gateBoundsRow.func = some 3 by kernel_rfl).symm.trans hf) |>.symm
   obtain rfl : fn = Tryz.f3 := (Option.some.inj (Tryz.func3.symm.trans hfn)).symm
   exact ⟨by kernel_rfl, fun j t ht => by
    rw [Tryz.params3] at ht
    have h3 : t = 25 := by
     match j, ht with
     | 0, ht => exact (by simpa using ht.symm)
     | j + 1, ht => simp at ht
    rcases h3 with rfl
    · exact (show Tryz.prog.wantsStandIn 25 = false by kernel_rfl)⟩)
  (by kernel_rfl)
#print axioms gateBounds_holds
end Go.Proofs.YtibhkijaafdkoaaGreatDoor
