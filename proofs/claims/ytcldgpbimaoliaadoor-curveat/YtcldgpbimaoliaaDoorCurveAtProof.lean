/- Proved: for every slice of lines and every tick, the call of floodgatelaw1.CurveAt returns true, and each argument reads afterwards as it read before. Conditions: the row's own (the ten listed variables read as the program's text lays them, which the card ties). -/
import Derived.Test.YtcldgpbimaoliaaDoorCurveAt2
import Derived.Test.YtcldgpbimaoliaaDoorCurveAt3
import Derived.Test.YtcldgpbimaoliaaDoorLift9
import Derived.Test.YtcldgpbimaoliaaDoorLift
import Derived.Test.YtcldgpbimaoliaaDoorCards
namespace Go.Proofs.YtcldgpbimaoliaaDoor
open Go.ChangeShapes Go.WideShapes Go.ChangeAt Go.RowKit

theorem curveAt_any (a : Option Addr) (cap : Nat) (ls : List (Int × Int)) (t : Int) (w : World) (ad : Nat → Addr) (he : Errs9 w ad) (hl : Lies w a ls) (hcap : ls.length ≤ cap) (hm : cap ≤ maxLen) (ha : a = none → ls = [] ∧ cap = 0) :
    Calls Tryd.prog 4 #[.slice a ls.length cap, .int .i64 t] w fun e w' => e = .returned (.bool true) ∧ Below w.heap.size w w' := by
  by_cases hn : 30 < ls.length
  · exact curveAt_len a ls.length cap t w (Nat.le_trans hcap hm) hn
  obtain ⟨c, p, hf⟩ := fault_is ls
  rcases hf.num with rfl | hc
  · obtain ⟨hk, rfl⟩ := hf.ok
    by_cases ht0 : t < 0
    · exact curveAt_neg a cap ls t w ad he hl (by omega) hcap hm ha hk ht0
    by_cases ht : 1099511627776 < t
    · exact curveAt_late a cap ls t w ad he hl (by omega) hcap hm ha hk (by omega) ht
    exact curveAt_fine a cap ls t w ad he hl (by omega) hcap hm ha hk (by omega) (by omega)
  · exact curveAt_bad a cap ls t w ad he hl (by omega) hcap hm ha c p hf hc

set_option maxRecDepth 100000 in
theorem curveAt_lifted (os : Os) (started : os.Started) (H : Type) (enc : TypeId × Value → H) :
    ReturnsInHanded {} Tryd.checked os 4 .any (fun w args => (Rows.curveAtSpec.pre enc Tryd.prog Tryd.f4 [] false w args ∧ laidMetH Tryd.prog Rows.curveAtRow.laid w) ∧ sizedMet enc Tryd.prog Tryd.f4 (OpenSpec.ofChange Rows.curveAtSpec) false w args)
      (Rows.curveAtSpec.post enc Tryd.prog Tryd.f4 false true false false) := by
  refine returnsInHanded_of_change_and (C := Tryd.checked) (X := fun w _ => laidMetH Tryd.prog Rows.curveAtRow.laid w) (fun _ _ _ hh h => h.of_heap hh) Tryd.own started (by kernel_rfl) Tryd.func4
    (ChangeSpec.witness_shaped (enc := enc) (C := Tryd.checked) (os := os) (X := fun w _ => laidMetH Tryd.prog Rows.curveAtRow.laid w) false (World.doorLaid Tryd.prog 187 os) #[.slice none 0 0, .int .i64 0] 8 rfl (World.shaped_of_RefB (by kernel_rfl) (by kernel_rfl)) (by kernel_rfl) (by kernel_rfl) (by kernel_rfl) (door_met9 os _)) ?_
  intro W base args ds gs before hval0 hW _ _ hL _
  have hval : ∀ (j : Nat) t v, Tryd.f4.params[j]? = some t → args[j]? = some v → Value.okWide Tryd.prog W .any base t v := hval0
  have hW' := hW
  obtain ⟨p, q, hA0, hV, rfl, hfz, hnd⟩ := hW
  have hA : DataW.TrodAll enc Tryd.prog W 0 (fun _ => true) true Tryd.f4.params.toList args.toList ds p := hA0
  rw [Tryd.params4] at hA hval
  obtain ⟨v0, v1, d0, d1, p0, p1, rfl, rfl, rfl, h0, h1⟩ := trodAll_two hA
  obtain ⟨rfl, rfl⟩ := trodVars_none hV
  have lt0 : ∀ x ∈ p0, x.block < W.heap.size := by obtain ⟨m, hm⟩ := h0; exact DataW.trod_lt m _ _ _ hm
  have lt1 : ∀ x ∈ p1, x.block < W.heap.size := by obtain ⟨m, hm⟩ := h1; exact DataW.trod_lt m _ _ _ hm
  have k0 := h0
  have k1 := h1
  obtain ⟨a, cap, ls, rfl, hl, hcap, hm, ha⟩ := open_lines (hval 0 35 v0 rfl rfl) h0
  obtain ⟨t, rfl, _, _, _⟩ := open_int Tryd.underlying3 (hval 1 3 v1 rfl rfl) h1
  obtain ⟨ad, he⟩ := errs9_of_laid hL
  refine (curveAt_any a cap ls t W ad he hl hcap hm ha).mono fun e W' ⟨he', bel⟩ => ?_
  subst he'
  exact ⟨_, rfl, _, _, _, [], _, [], hW', trodAll_mk1 (shut_bool Tryd.underlying4 _),
    (trodAll_cons_mk (Below.trod Tryd.laidOut (by kernel_rfl) (of_decide_eq_true (by kernel_rfl)) k0 bel lt0) (trodAll_cons_mk (Below.trod Tryd.laidOut (by kernel_rfl) (of_decide_eq_true (by kernel_rfl)) k1 bel lt1) trodAll_mk0)), rfl, bel.frame _, fun h => by cases h⟩

theorem curveAt_row : Rows.CurveAtSaid :=
  OpenClaim.holds_of_wide 4 Tryd.f4 rfl rfl rfl rfl rfl rfl rfl ⟨rfl, rfl, rfl, rfl, rfl⟩ rfl rfl rfl rfl rfl (by kernel_rfl) Tryd.func4 (by kernel_rfl)
    (of_decide_eq_true (by kernel_rfl)) (by unfold Func.isWrapper; rw [if_neg (of_decide_eq_false (by kernel_rfl))]; exact ⟨rfl, rfl⟩)
    (fun os started H enc _ => curveAt_lifted os started H enc)

theorem curveAt_holds : Rows.CurveAtCardSaid :=
  Claim7.holds_tied_plain_at .later [] Rows.curveAtCard.laidKinds true Rows.curveAtCard.stood.harness true
    curveAt_row (fun _ h => by cases h) (by kernel_rfl) (fun _ h => by cases h) curveAt_row_tie rfl ⟨rfl, rfl⟩ (by kernel_rfl) rfl
    (fun f fn hf hfn => by
      obtain rfl : f = 4 := Option.some.inj ((show Tryd.prog.funcNamed Rows.curveAtRow.func = some 4 by kernel_rfl).symm.trans hf) |>.symm
      obtain rfl : fn = Tryd.f4 := (Option.some.inj (Tryd.func4.symm.trans hfn)).symm
      exact ⟨by kernel_rfl, fun j t ht => by
        rw [Tryd.params4] at ht
        have h3 : t = 35 ∨ t = 3 := by
          match j, ht with
          | 0, ht => exact .inl (by simpa using ht.symm)
          | 1, ht => exact .inr (by simpa using ht.symm)
          | j + 2, ht => simp at ht
        rcases h3 with rfl | rfl
        · exact (show Tryd.prog.wantsStandIn 35 = false by kernel_rfl)
        · exact (show Tryd.prog.wantsStandIn 3 = false by kernel_rfl)⟩)
    (by kernel_rfl)
#print axioms curveAt_holds
end Go.Proofs.YtcldgpbimaoliaaDoor
