/- Proved: for every two slices of lines, the call of floodgatelaw1.CurveTidy returns true, and each argument reads afterwards as it read before. Conditions: the row's own (the ten listed variables read as the program's text lays them, which the card ties). -/
import Derived.Test.YtcldgpbimaoliaaDoorTidyLaw2
import Derived.Test.YtcldgpbimaoliaaDoorLift9
import Derived.Test.YtcldgpbimaoliaaDoorLift
import Derived.Test.YtcldgpbimaoliaaDoorCards
namespace Go.Proofs.YtcldgpbimaoliaaDoor
open Go.ChangeShapes Go.WideShapes Go.ChangeAt Go.RowKit

theorem tidyLaw_any (a a2 : Option Addr) (cap cap2 : Nat) (la lb : List (Int × Int)) (w : World) (ad : Nat → Addr) (he : Errs9 w ad) (hl : Lies w a la) (hcap : la.length ≤ cap) (hm : cap ≤ maxLen) (ha : a = none → la = [] ∧ cap = 0) (hl2 : Lies w a2 lb) (hcap2 : lb.length ≤ cap2) (hm2 : cap2 ≤ maxLen) (ha2 : a2 = none → lb = [] ∧ cap2 = 0) :
    Calls Tryd.prog 5 #[.slice a la.length cap, .slice a2 lb.length cap2] w fun e w' => e = .returned (.bool true) ∧ Below w.heap.size w w' := by
  by_cases hn : 30 < la.length
  · exact tidyLaw_len1 a a2 la.length cap lb.length cap2 w (Nat.le_trans hcap hm) hn
  by_cases hn2 : 30 < lb.length
  · exact tidyLaw_len2 a a2 la.length cap lb.length cap2 w (by omega) (Nat.le_trans hcap2 hm2) hn2
  obtain ⟨c, p, hf⟩ := fault_is la
  rcases hf.num with rfl | hc
  · obtain ⟨hk, rfl⟩ := hf.ok
    obtain ⟨c2, p2, hf2⟩ := fault_is lb
    rcases hf2.num with rfl | hc2
    · obtain ⟨hk2, rfl⟩ := hf2.ok
      exact tidyLaw_fine a a2 cap cap2 la lb w ad he hl ha hcap hm hl2 ha2 hcap2 hm2 (by omega) (by omega) hk hk2
    · exact tidyLaw_bad2 a a2 cap cap2 la lb w ad he hl ha hcap hm hl2 ha2 hcap2 hm2 (by omega) (by omega) hk c2 p2 hf2 hc2
  · exact tidyLaw_bad a a2 cap cap2 la lb w ad he hl ha hcap hm hl2 ha2 (by omega) (by omega) c p hf hc

set_option maxRecDepth 100000 in
theorem tidyLaw_lifted (os : Os) (started : os.Started) (H : Type) (enc : TypeId × Value → H) :
    ReturnsInHanded {} Tryd.checked os 5 .any (fun w args => (Rows.curveTidySpec.pre enc Tryd.prog Tryd.f5 [] false w args ∧ laidMetH Tryd.prog Rows.curveTidyRow.laid w) ∧ sizedMet enc Tryd.prog Tryd.f5 (OpenSpec.ofChange Rows.curveTidySpec) false w args)
      (Rows.curveTidySpec.post enc Tryd.prog Tryd.f5 false true false false) := by
  refine returnsInHanded_of_change_and (C := Tryd.checked) (X := fun w _ => laidMetH Tryd.prog Rows.curveTidyRow.laid w) (fun _ _ _ hh h => h.of_heap hh) Tryd.own started (by kernel_rfl) Tryd.func5
    (ChangeSpec.witness_shaped (enc := enc) (C := Tryd.checked) (os := os) (X := fun w _ => laidMetH Tryd.prog Rows.curveTidyRow.laid w) false (World.doorLaid Tryd.prog 187 os) #[.slice none 0 0, .slice none 0 0] 8 rfl (World.shaped_of_RefB (by kernel_rfl) (by kernel_rfl)) (by kernel_rfl) (by kernel_rfl) (by kernel_rfl) (door_met9 os _)) ?_
  intro W base args ds gs before hval0 hW _ _ hL _
  have hval : ∀ (j : Nat) t v, Tryd.f5.params[j]? = some t → args[j]? = some v → Value.okWide Tryd.prog W .any base t v := hval0
  have hW' := hW
  obtain ⟨p, q, hA0, hV, rfl, hfz, hnd⟩ := hW
  have hA : DataW.TrodAll enc Tryd.prog W 0 (fun _ => true) true Tryd.f5.params.toList args.toList ds p := hA0
  rw [Tryd.params5] at hA hval
  obtain ⟨v0, v1, d0, d1, p0, p1, rfl, rfl, rfl, h0, h1⟩ := trodAll_two hA
  obtain ⟨rfl, rfl⟩ := trodVars_none hV
  have lt0 : ∀ x ∈ p0, x.block < W.heap.size := by obtain ⟨m, hm⟩ := h0; exact DataW.trod_lt m _ _ _ hm
  have lt1 : ∀ x ∈ p1, x.block < W.heap.size := by obtain ⟨m, hm⟩ := h1; exact DataW.trod_lt m _ _ _ hm
  have k0 := h0
  have k1 := h1
  obtain ⟨a, cap, la, rfl, hl, hcap, hm, ha⟩ := open_lines (hval 0 35 v0 rfl rfl) h0
  obtain ⟨a2, cap2, lb, rfl, hl2, hcap2, hm2, ha2⟩ := open_lines (hval 1 35 v1 rfl rfl) h1
  obtain ⟨ad, he⟩ := errs9_of_laid hL
  refine (tidyLaw_any a a2 cap cap2 la lb W ad he hl hcap hm ha hl2 hcap2 hm2 ha2).mono fun e W' ⟨he', bel⟩ => ?_
  subst he'
  exact ⟨_, rfl, _, _, _, [], _, [], hW', trodAll_mk1 (shut_bool Tryd.underlying4 _),
    (trodAll_cons_mk (Below.trod Tryd.laidOut (by kernel_rfl) (of_decide_eq_true (by kernel_rfl)) k0 bel lt0) (trodAll_cons_mk (Below.trod Tryd.laidOut (by kernel_rfl) (of_decide_eq_true (by kernel_rfl)) k1 bel lt1) trodAll_mk0)), rfl, bel.frame _, fun h => by cases h⟩

theorem tidyLaw_row : Rows.CurveTidySaid :=
  OpenClaim.holds_of_wide 5 Tryd.f5 rfl rfl rfl rfl rfl rfl rfl ⟨rfl, rfl, rfl, rfl, rfl⟩ rfl rfl rfl rfl rfl (by kernel_rfl) Tryd.func5 (by kernel_rfl)
    (of_decide_eq_true (by kernel_rfl)) (by unfold Func.isWrapper; rw [if_neg (of_decide_eq_false (by kernel_rfl))]; exact ⟨rfl, rfl⟩)
    (fun os started H enc _ => tidyLaw_lifted os started H enc)

theorem curveTidy_holds : Rows.CurveTidyCardSaid :=
  Claim7.holds_tied_plain_at .later [] Rows.curveTidyCard.laidKinds true Rows.curveTidyCard.stood.harness true
    tidyLaw_row (fun _ h => by cases h) (by kernel_rfl) (fun _ h => by cases h) curveTidy_row_tie rfl ⟨rfl, rfl⟩ (by kernel_rfl) rfl
    (fun f fn hf hfn => by
      obtain rfl : f = 5 := Option.some.inj ((show Tryd.prog.funcNamed Rows.curveTidyRow.func = some 5 by kernel_rfl).symm.trans hf) |>.symm
      obtain rfl : fn = Tryd.f5 := (Option.some.inj (Tryd.func5.symm.trans hfn)).symm
      exact ⟨by kernel_rfl, fun j t ht => by
        rw [Tryd.params5] at ht
        have h3 : t = 35 := by
          match j, ht with
          | 0, ht => simpa using ht.symm
          | 1, ht => simpa using ht.symm
          | j + 2, ht => simp at ht
        subst h3
        exact (show Tryd.prog.wantsStandIn 35 = false by kernel_rfl)⟩)
    (by kernel_rfl)
#print axioms curveTidy_holds
end Go.Proofs.YtcldgpbimaoliaaDoor
