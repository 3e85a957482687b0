/- Proved: for every gate and every slice of numbers, the call of floodgatelaw3.PlayAll returns true (all bytes that come are sent, whatever the gate), and each argument reads afterwards as it read before. Conditions: the row's own (the listed variables (five errors, and package errors' own type) read as the program's text lays them, which the card ties). -/
import Derived.Deep.SlicePairs
import Derived.Deep.Slices
import Derived.Test.YtibhkijaafdkoaaGreatDoorA53
import Derived.Test.YtibhkijaafdkoaaGreatDoorA04
import Derived.Test.YtibhkijaafdkoaaGreatDoorA25
import Derived.Test.YtibhkijaafdkoaaGreatDoorA08
import Derived.Test.YtibhkijaafdkoaaGreatDoorCards
namespace Go.Proofs.YtibhkijaafdkoaaGreatDoor
open Go.ChangeShapes Go.WideShapes Go.ChangeAt Go.RowKit Go.Deep
section
variable {H : Type} {enc : TypeId × Value → H} {W : World} {fuel : Nat} {cs : List Value} {x : DataW H × List MemPlace}
theorem Tryz.cellsLine2 : Tryz.prog.cellsOf 133 = 2 := by kernel_rfl
theorem Tryz.cellsLines : Tryz.prog.cellsOf 38 = 1 := by kernel_rfl
theorem Tryz.cellsInts : Tryz.prog.cellsOf 23 = 1 := by kernel_rfl
theorem Tryz.cellsStr1 : Tryz.prog.cellsOf 9 = 1 := by kernel_rfl
theorem Tryz.cellsRGate : Tryz.prog.cellsOf 25 = 4 := by kernel_rfl
theorem Tryz.cellsCurves : Tryz.prog.cellsOf 22 = 1 := by kernel_rfl
set_option maxRecDepth 100000 in
theorem trod_lines (h : DataW.trod enc Tryz.prog W 0 (fun _ => true) true fuel 38 cs = some x) :
  ∃ a cap ls, cs = [.slice a ls.length cap] ∧ Lies W a ls ∧ ls.length ≤ cap ∧ cap ≤ maxLen ∧ (a = none → ls = [] ∧ cap = 0) := by
 rcases open_slice_pairs Tryz.underlying38 Tryz.underlying133 Tryz.cellsLine2 rfl rfl Tryz.cellsInt Tryz.cellsInt h with ⟨rfl, _⟩ | ⟨x, len0, cap0, m, n, V0, V1, D0, D1, P0, P1, rfl, _, hl, hm, hmm, _, hcell⟩
 · exact ⟨none, 0, [], rfl, .inl rfl, by simp, by simp [maxLen], fun _ => ⟨rfl, rfl⟩⟩
 ·
  have hm' : m = cap0 := by simpa using hmm
  refine ⟨some x, cap0, (List.range len0).map fun i => (intOf (V0 i), intOf (V1 i)), by simp, ?_, by simpa using hl, hm, fun h => by cases h⟩
  by_cases h0 : len0 = 0
  · subst h0; exact .inl (by simp)
  ·
   have hint : ∀ i, i < len0 → V0 i = .int .i64 (intOf (V0 i)) ∧ V1 i = .int .i64 (intOf (V1 i)) := by
    intro i hi
    obtain ⟨_, _, h2, h3⟩ := hcell i (by omega)
    obtain ⟨k0, e0, _, _⟩ := DataW.trod_int Tryz.underlying3 h2
    obtain ⟨k1, e1, _, _⟩ := DataW.trod_int Tryz.underlying3 h3
    simp at e0 e1
    rw [e0, e1]
    exact ⟨rfl, rfl⟩
   obtain ⟨b, off, spot⟩ := x
   have hc0 := (hcell 0 (by omega)).1
   have hspot : spot = none := by simpa [Addr.add] using World.cell?_spot hc0
   subst hspot
   refine .inr ⟨b, off, rfl, by simpa [Addr.add] using cell_lt hc0, fun i x y hi => ?_⟩
   have hil : i < len0 := by
    rcases Nat.lt_or_ge i len0 with h | h
    · exact h
    · simp [h] at hi
   simp [hil] at hi
   obtain ⟨h0, h1, _, _⟩ := hcell i (by omega)
   have := hint i hil
   rw [this.1, hi.1] at h0
   rw [this.2, hi.2] at h1
   rw [Addr.add_lit] at h0 h1
   exact ⟨h0, by rw [Nat.add_assoc]; exact h1⟩
set_option maxRecDepth 100000 in
theorem trod_nums (h : DataW.trod enc Tryz.prog W 0 (fun _ => true) true fuel 23 cs = some x) :
  ∃ a cap ns, cs = [.slice a ns.length cap] ∧ LiesN W a ns ∧ ns.length ≤ cap ∧ cap ≤ maxLen ∧ (a = none → ns = [] ∧ cap = 0) := by
 rcases open_ints Tryz.underlying23 Tryz.underlying3 Tryz.cellsInt h with ⟨rfl, _⟩ | ⟨x, len0, cap0, zs, rfl, _, hl, hm, hz, _, hcell, hwz⟩
 · exact ⟨none, 0, [], rfl, .inl rfl, by simp, by simp [maxLen], fun _ => ⟨rfl, rfl⟩⟩
 ·
  have hz' : zs.length = cap0 := by simpa using hz
  refine ⟨some x, cap0, zs.take len0, by rw [List.length_take, hz', Nat.min_eq_left hl], ?_, by rw [List.length_take]; omega, hm, fun e => by cases e⟩
  by_cases h0 : len0 = 0
  · subst h0; exact .inl (by simp)
  ·
   obtain ⟨b, off, spot⟩ := x
   have hc0 := hcell 0 (by omega)
   have hspot : spot = none := by simpa [Addr.add] using World.cell?_spot hc0
   subst hspot
   refine .inr ⟨b, off, rfl, by simpa [Addr.add] using cell_lt hc0, fun i y hi => ?_⟩
   rw [List.getElem?_take] at hi
   split at hi
   ·
    next hil =>
    have := hcell i (by omega)
    rw [Addr.add_lit, List.getD, hi] at this
    exact this
   · cases hi
set_option maxRecDepth 100000 in
theorem trod_curves (h : DataW.trod enc Tryz.prog W 0 (fun _ => true) true fuel 22 cs = some x) :
  ∃ a cap css, cs = [.slice a css.length cap] ∧ LiesC W a css ∧ css.length ≤ cap ∧ cap ≤ maxLen := by
 rcases open_slice Tryz.underlying22 h with ⟨rfl, _⟩ | ⟨ad, len, cap, m, n, D, Pl, rfl, hb, hl, hm, hmm, -, hx⟩
 · exact ⟨none, 0, [], rfl, .inl rfl, by simp, by simp [maxLen]⟩
 ·
  have hlm : len ≤ m := by rw [hmm]; split <;> omega
  have each : ∀ i, i < len → ∃ q : Option Addr × Nat × List (Int × Int), W.cell? (ad.add i) = some (.slice q.1 q.2.2.length q.2.1) ∧ Lies W q.1 q.2.2 ∧ q.2.2.length ≤ q.2.1 ∧ q.2.1 ≤ maxLen ∧ (q.1 = none → q.2.2 = [] ∧ q.2.1 = 0) := by
   intro i hi
   obtain ⟨cs', h1, h2⟩ := hx i (by omega)
   rw [Tryz.cellsLines] at h1
   obtain ⟨a', cap', ls, rfl, h3, h4⟩ := trod_lines h2
   obtain ⟨_, _, hcell⟩ := World.cells?_some h1
   have hc := hcell 0 (by omega)
   rw [add_add, Nat.mul_one, Nat.add_zero] at hc
   exact ⟨(a', cap', ls), by simpa using hc, h3, h4⟩
  obtain ⟨q, hq⟩ : ∃ q : Nat → Option Addr × Nat × List (Int × Int), ∀ i, i < len → W.cell? (ad.add i) = some (.slice (q i).1 (q i).2.2.length (q i).2.1) ∧ Lies W (q i).1 (q i).2.2 ∧ (q i).2.2.length ≤ (q i).2.1 ∧ (q i).2.1 ≤ maxLen ∧ ((q i).1 = none → (q i).2.2 = [] ∧ (q i).2.1 = 0) :=
   ⟨fun i => if h : i < len then Classical.choose (each i h) else (none, 0, []), fun i hi => by simp only [dif_pos hi]; exact Classical.choose_spec (each i hi)⟩
  refine ⟨some ad, cap, (List.range len).map fun i => (q i).2.2, by simp, ?_, by simpa using hl, hm⟩
  by_cases h0 : len = 0
  · subst h0; exact .inl (by simp)
  ·
   obtain ⟨b, off, spot⟩ := ad
   have hc0 := (hq 0 (by omega)).1
   have hspot : spot = none := by simpa [Addr.add] using World.cell?_spot hc0
   subst hspot
   refine .inr ⟨b, off, rfl, by simpa [Addr.add] using cell_lt hc0, fun i ls hi => ?_⟩
   have hil : i < len := by
    rcases Nat.lt_or_ge i len with h | h
    · exact h
    · simp [h] at hi
   simp [hil] at hi
   obtain ⟨g1, g2, g3, g4, g5⟩ := hq i hil
   rw [hi] at g1 g2 g3 g5
   rw [Addr.add_lit] at g1
   exact ⟨(q i).1, (q i).2.1, g1, g2, g3, g4, g5⟩
set_option maxRecDepth 100000 in
theorem open_rgate {base : Nat} {v : Value} {d : DataW H} {p : List MemPlace} (hv : Value.okWide Tryz.prog W .any base 25 v)
  (h : DataW.Trod enc Tryz.prog W 0 (fun _ => true) true 25 v d p) :
  ∃ ca ccap cs kb per na ncap ns, v = .agg #[.slice ca (cs : List (List (Int × Int))).length ccap, .string kb, .int .i64 per, .slice na (ns : List Int).length ncap] ∧ GateRaw W ca ccap cs na ncap ns := by
 obtain ⟨vs, rfl, hsz⟩ := okWide_struct Tryz.underlying25 hv
 obtain ⟨fuel, hf⟩ := h
 obtain ⟨xs, k, -, -, -, hxl, hfl⟩ := DataW.trod_struct Tryz.underlying25 hf
 rw [Tryz.cellsRGate] at hsz
 obtain ⟨l⟩ := vs
 match l, hsz, xs, hxl with
 | [v0, v1, v2, v3], _, [x0, x1, x2, x3], _ =>
  have g0 := hfl 0 _ rfl
  have g1 := hfl 1 _ rfl
  have g2 := hfl 2 _ rfl
  have g3 := hfl 3 _ rfl
  simp [Value.cells, Tryz.cellsCurves, Tryz.cellsStr1, Tryz.cellsInt, Tryz.cellsInts] at g0 g1 g2 g3
  obtain ⟨ca, ccap, css, e0, h1, h2, h3⟩ := trod_curves g0
  obtain ⟨kb, e1, -, -⟩ := DataW.trod_string Tryz.underlying9 g1
  obtain ⟨per, e2, -, -⟩ := DataW.trod_int Tryz.underlying3 g2
  obtain ⟨na, ncap, ns, e3, h4, h5, h6, h7⟩ := trod_nums g3
  simp at e0 e1 e2 e3
  subst e0 e1 e2 e3
  exact ⟨ca, ccap, css, kb, per, na, ncap, ns, rfl, h1, h2, h3, h4, h5, h6, h7⟩
end
end Go.Proofs.YtibhkijaafdkoaaGreatDoor

namespace Go.Proofs.YtibhkijaafdkoaaGreatDoor
open Go.ChangeShapes Go.WideShapes Go.ChangeAt Go.RowKit
set_option maxRecDepth 100000 in
theorem open_whole {H : Type} {enc : TypeId × Value → H} {W : World} {base : Nat} {v : Value} {d : DataW H} {p : List MemPlace} (hv : Value.okWide Tryz.prog W .any base 23 v)
  (h : DataW.Trod enc Tryz.prog W 0 (fun _ => true) true 23 v d p) :
  ∃ a cap ns, v = .slice a ns.length cap ∧ LiesN W a ns ∧ ns.length ≤ cap ∧ cap ≤ maxLen ∧ (a = none → ns = [] ∧ cap = 0) ∧ (∀ (i : Nat) v, ns[i]? = some v → v < 9223372036854775808) := by
 obtain ⟨a0, len0, cap0, rfl⟩ := okWide_slice Tryz.underlying23 hv
 obtain ⟨fuel, hf⟩ := h
 rcases open_ints Tryz.underlying23 Tryz.underlying3 Tryz.cellsInt hf with ⟨hcs, _⟩ | ⟨x, l, c, zs, hcs, _, hl, hm, hz, _, hcell, hwz⟩
 ·
  simp [Value.cells] at hcs
  obtain ⟨rfl, rfl, rfl⟩ := hcs
  exact ⟨none, 0, [], rfl, .inl rfl, by simp, by simp [maxLen], fun _ => ⟨rfl, rfl⟩, fun i v h => by simp at h⟩
 ·
  simp [Value.cells] at hcs
  obtain ⟨rfl, rfl, rfl⟩ := hcs
  have hz' : zs.length = cap0 := by simpa using hz
  refine ⟨some x, cap0, zs.take len0, by rw [List.length_take, hz', Nat.min_eq_left hl], ?_, by rw [List.length_take]; omega, hm, (fun e => by cases e), fun i v hi => ?_⟩
  rotate_left
  ·
   have hmem : v ∈ zs := List.mem_of_mem_take (List.mem_of_getElem? hi)
   have hw := hwz v hmem
   simp [Lit.wf, IntKind.min, IntKind.max, IntKind.signed, IntKind.bits] at hw
   omega
  by_cases h0 : len0 = 0
  · subst h0; exact .inl (by simp)
  ·
   obtain ⟨b, off, spot⟩ := x
   have hc0 := hcell 0 (by omega)
   have hspot : spot = none := by simpa [Addr.add] using World.cell?_spot hc0
   subst hspot
   refine .inr ⟨b, off, rfl, by simpa [Addr.add] using cell_lt hc0, fun i y hi => ?_⟩
   rw [List.getElem?_take] at hi
   split at hi
   ·
    next hil =>
    have := hcell i (by omega)
    rw [Addr.add_lit, List.getD, hi] at this
    exact this
   · cases hi
end Go.Proofs.YtibhkijaafdkoaaGreatDoor

namespace Go.Proofs.YtibhkijaafdkoaaGreatDoor
open Go.ChangeShapes Go.WideShapes Go.ChangeAt Go.RowKit
theorem Tryz.oneRow : ((List.range 303).filter fun t => Tryz.prog.rowNamed t [101, 114, 114, 111, 114]) = [29] := by kernel_rfl
theorem Tryz.sizeTypes : Tryz.prog.types.size = 303 := by kernel_rfl
theorem Tryz.handleErr : typeHandle Tryz.prog 29 = .pointer (some ⟨10, 29, none⟩) := by kernel_rfl
theorem Tryz.gType : Tryz.prog.globalNamed "errors.errorType" = some 9 := by kernel_rfl
def nth9 (a1 a2 a3 a4 a8 : Addr) : Nat → Addr
 | 1 => a1 | 2 => a2 | 3 => a3 | 4 => a4 | _ => a8
theorem errs9_of_laid {W : World} (h : laidMetH Tryz.prog Rows.playAllRow.laid W) : ∃ ad, Errs9 W ad := by
 have h' : laidMet Tryz.prog Rows.playAllRow.laid.tail W ∧ handlesMet Tryz.prog [("errors.errorType", Rows.laid_errors_errorType)] W := h
 obtain ⟨h1, h2⟩ := h'
 have hty : W.cell? ⟨9, 0, none⟩ = some (.iface 207 (.agg #[.pointer (some ⟨10, 29, none⟩)])) := by
  obtain ⟨name, u, ty, e1, e2, e3, e4, e5⟩ := h2 _ (List.mem_singleton.2 rfl)
  have en : name = [101, 114, 114, 111, 114] := (Option.some.inj e1).symm
  subst en
  obtain rfl : u = 207 := Option.some.inj (e2.symm.trans (by kernel_rfl))
  have hm : ty ∈ (List.range 303).filter fun t => Tryz.prog.rowNamed t [101, 114, 114, 111, 114] := List.mem_filter.2 ⟨List.mem_range.2 (by rw [← Tryz.sizeTypes]; exact e3), e4⟩
  rw [Tryz.oneRow] at hm
  obtain rfl := List.mem_singleton.1 hm
  rw [Tryz.handleErr] at e5
  simpa using World.var?_cell Tryz.gType e5 0
 obtain ⟨a1, _, v1, _⟩ := sentinel_of_laid (g := 3) h1 rfl (by kernel_rfl) (by kernel_rfl)
 obtain ⟨a2, _, v2, _⟩ := sentinel_of_laid (g := 4) h1.tail rfl (by kernel_rfl) (by kernel_rfl)
 obtain ⟨a3, _, v3, _⟩ := sentinel_of_laid (g := 0) h1.tail.tail rfl (by kernel_rfl) (by kernel_rfl)
 obtain ⟨a4, _, v4, _⟩ := sentinel_of_laid (g := 5) h1.tail.tail.tail rfl (by kernel_rfl) (by kernel_rfl)
 obtain ⟨a8, _, v8, _⟩ := sentinel_of_laid (g := 1) h1.tail.tail.tail.tail rfl (by kernel_rfl) (by kernel_rfl)
 exact ⟨nth9 a1 a2 a3 a4 a8, hty, v1, v2, v3, v4, v8⟩
theorem door_met9 (os : Os) (args : Array Value) : laidMetH Tryz.prog Rows.playAllRow.laid ((World.doorLaid Tryz.prog 187 os).forCall (fun _ _ => 0) ⟨#[], args, []⟩).memory :=
 laidMetH_of_parts3 (fuel := 8) (laidMet_of_run' 8 (by kernel_rfl) (by kernel_rfl)) (by kernel_rfl) (by kernel_rfl)
end Go.Proofs.YtibhkijaafdkoaaGreatDoor

namespace Go.Proofs.YtibhkijaafdkoaaGreatDoor
open Go.ChangeShapes Go.WideShapes Go.ChangeAt Go.RowKit
set_option maxRecDepth 100000 in
theorem pall_lifted (os : Os) (started : os.Started) (H : Type) (enc : TypeId × Value → H) :
  ReturnsInHanded {} Tryz.checked os 8 .any (fun w args => (Rows.playAllSpec.pre enc Tryz.prog Tryz.f8 [] false w args ∧ laidMetH Tryz.prog Rows.playAllRow.laid w) ∧ sizedMet enc Tryz.prog Tryz.f8 (OpenSpec.ofChange Rows.playAllSpec) false w args)
   (Rows.playAllSpec.post enc Tryz.prog Tryz.f8 false true false false) := by
 refine returnsInHanded_of_change_and (C := Tryz.checked) (X := fun w _ => laidMetH Tryz.prog Rows.playAllRow.laid w) (fun _ _ _ hh h => h.of_heap hh) Tryz.own started (by kernel_rfl) Tryz.func8
  (ChangeSpec.witness_shaped (enc := enc) (C := Tryz.checked) (os := os) (X := fun w _ => laidMetH Tryz.prog Rows.playAllRow.laid w) false (World.doorLaid Tryz.prog 187 os) #[.agg #[.slice none 0 0, .string ⟨#[]⟩, .int .i64 0, .slice none 0 0], .slice none 0 0] 8 rfl (World.shaped_of_RefB (by kernel_rfl) (by kernel_rfl)) (by kernel_rfl) (by kernel_rfl) (by kernel_rfl) (door_met9 os _)) ?_
 intro W base args ds gs before hval0 hW _ _ hL _
 have hval : ∀ (j : Nat) t v, Tryz.f8.params[j]? = some t → args[j]? = some v → Value.okWide Tryz.prog W .any base t v := hval0
 have hW' := hW
 obtain ⟨p, q, hA0, hV, rfl, hfz, hnd⟩ := hW
 have hA : DataW.TrodAll enc Tryz.prog W 0 (fun _ => true) true Tryz.f8.params.toList args.toList ds p := hA0
 rw [Tryz.params8] at hA hval
 obtain ⟨v0, v1, d0, d1, p0, p1, rfl, rfl, rfl, h0, h1⟩ := trodAll_two hA
 obtain ⟨rfl, rfl⟩ := trodVars_none hV
 have lt0 : ∀ x ∈ p0, x.block < W.heap.size := by obtain ⟨m, hm⟩ := h0; exact DataW.trod_lt m _ _ _ hm
 have lt1 : ∀ x ∈ p1, x.block < W.heap.size := by obtain ⟨m, hm⟩ := h1; exact DataW.trod_lt m _ _ _ hm
 have k0 := h0
 have k1 := h1
 obtain ⟨ca0, ccap0, cs0, kb0, per0, na0, ncap0, ns0, rfl, hg0⟩ := open_rgate (hval 0 25 v0 rfl rfl) h0
 obtain ⟨a1, cap1, l1, rfl, hl1, hc1, hm1, ha1, hr1⟩ := open_whole (hval 1 23 v1 rfl rfl) h1
 obtain ⟨ad, he⟩ := errs9_of_laid hL
 refine (playAll_any ca0 ccap0 cs0 kb0 per0 na0 ncap0 ns0 a1 cap1 l1 W ad he hg0 hl1 (Nat.le_trans hc1 hm1) hr1).mono fun e W' ⟨he', bel⟩ => ?_
 subst he'
 exact ⟨_, rfl, _, _, _, [], _, [], hW', trodAll_mk1 (shut_bool Tryz.underlying4 _),
  (trodAll_cons_mk (Below.trod Tryz.laidOut (by kernel_rfl) (of_decide_eq_true (by kernel_rfl)) k0 bel lt0) (trodAll_cons_mk (Below.trod Tryz.laidOut (by kernel_rfl) (of_decide_eq_true (by kernel_rfl)) k1 bel lt1) trodAll_mk0)), rfl, bel.frame _, fun h => by cases h⟩
theorem pall_row : Rows.PlayAllSaid :=
 OpenClaim.holds_of_wide 8 Tryz.f8 rfl rfl rfl rfl rfl rfl rfl ⟨rfl, rfl, rfl, rfl, rfl⟩ rfl rfl rfl rfl rfl (by kernel_rfl) Tryz.func8 (by kernel_rfl)
  (of_decide_eq_true (by kernel_rfl)) (by unfold Func.isWrapper; rw [if_neg (of_decide_eq_false (by kernel_rfl))]; exact ⟨rfl, rfl⟩)
  (fun os started H enc _ => pall_lifted os started H enc)
theorem playAll_holds : Rows.PlayAllCardSaid :=
 Claim7.holds_tied_plain_at .later [] Rows.playAllCard.laidKinds true Rows.playAllCard.stood.harness true
  pall_row (fun _ h => by cases h) (by kernel_rfl) (fun _ h => by cases h) playAll_row_tie rfl ⟨rfl, rfl⟩ (by kernel_rfl) rfl
  (fun f fn hf hfn => by
   obtain rfl : f = 8 := Option.some.inj ((show Tryz.prog.funcNamed Rows.playAllRow.func = some 8 by kernel_rfl).symm.trans hf) |>.symm
   obtain rfl : fn = Tryz.f8 := (Option.some.inj (Tryz.func8.symm.trans hfn)).symm
   exact ⟨by kernel_rfl, fun j t ht => by
    rw [Tryz.params8] at ht
    have h3 : t = 25 ∨ t = 23 := by
     match j, ht with
     | 0, ht => exact .inl (by simpa using ht.symm)
     | 1, ht => exact .inr (by simpa using ht.symm)
     | j + 2, ht => simp at ht
    rcases h3 with rfl | rfl
    · exact (show Tryz.prog.wantsStandIn 25 = false by kernel_rfl)
    · exact (show Tryz.prog.wantsStandIn 23 = false by kernel_rfl)⟩)
  (by kernel_rfl)
#print axioms playAll_holds
end Go.Proofs.YtibhkijaafdkoaaGreatDoor
