/- Proved: for every line and every slice of packets, the call of floodgatelaw1.BucketPasses returns true, and each argument reads afterwards as it read before. Conditions: the row's own (the four listed errors' variables read as the program's text lays them, which the card ties). -/
import Derived.Test.YtcldgpbimaoliaaDoorPasses2
import Derived.Test.YtcldgpbimaoliaaDoorLift4
import Derived.Test.YtcldgpbimaoliaaDoorCards
namespace Go.Proofs.YtcldgpbimaoliaaDoor
open Go.ChangeShapes Go.WideShapes Go.ChangeAt Go.RowKit

theorem passes_any (a : Option Addr) (cap : Nat) (ps : List Pk) (x y : Int) (w : World) (ad : Nat → Addr) (he : Errs4 w ad) (hl : LiesP w a ps) (hcap : ps.length ≤ cap) (hm : cap ≤ maxLen) :
    Calls Tryd.prog 12 #[.agg #[.int .i64 x, .int .i64 y], .slice a ps.length cap] w fun e w' => e = .returned (.bool true) ∧ Below w.heap.size w w' := by
  cases ho : okLine x y with
  | false => exact passes_line a ps.length cap x y w ad he ho
  | true =>
    by_cases hn : ps.length ≤ 60 ∨ ps.length = 301
    · rcases pks_split ps with hp | hp | ⟨h300, j, p, k, hj, hg, hbad⟩
      · exact passes_main a cap ps x y w ad he ho hl (by have := hp.few; omega) hp
      · exact passes_bad a ps.length cap x y 2 (-1) w ad he ho (Nat.le_trans hcap hm) hn (by omega) (fun w' _ => pfault_long a ps.length cap w' (Nat.le_trans hcap hm) hp)
      · have hjl : j ≤ ps.length := by
          rcases Nat.lt_or_ge j ps.length with h | h
          · omega
          · simp [List.getElem?_eq_none h] at hj
        exact passes_bad a ps.length cap x y (k + 1) j w ad he ho (Nat.le_trans hcap hm) hn (by omega) (fun w' hb => pfault_all a cap ps w' (hl.below hb) h300 j hjl hg _ _ (.inr ⟨p, k, hj, hbad, rfl, rfl⟩))
    · exact passes_many a ps.length cap x y w ad he ho (by omega) (by omega)

set_option maxRecDepth 100000 in
theorem passes_lifted (os : Os) (started : os.Started) (H : Type) (enc : TypeId × Value → H) :
    ReturnsInHanded {} Tryd.checked os 12 .any (fun w args => (Rows.bucketPassesSpec.pre enc Tryd.prog Tryd.f12 [] false w args ∧ laidMetH Tryd.prog Rows.bucketPassesRow.laid w) ∧ sizedMet enc Tryd.prog Tryd.f12 (OpenSpec.ofChange Rows.bucketPassesSpec) false w args)
      (Rows.bucketPassesSpec.post enc Tryd.prog Tryd.f12 false true false false) := by
  refine returnsInHanded_of_change_and (C := Tryd.checked) (X := fun w _ => laidMetH Tryd.prog Rows.bucketPassesRow.laid w) (fun _ _ _ hh h => h.of_heap hh) Tryd.own started (by kernel_rfl) Tryd.func12
    (ChangeSpec.witness_shaped (enc := enc) (C := Tryd.checked) (os := os) (X := fun w _ => laidMetH Tryd.prog Rows.bucketPassesRow.laid w) false (World.doorLaid Tryd.prog 187 os) #[.agg #[.int .i64 0, .int .i64 0], .slice none 0 0] 8 rfl (World.shaped_of_RefB (by kernel_rfl) (by kernel_rfl)) (by kernel_rfl) (by kernel_rfl) (by kernel_rfl) (door_met4 os _)) ?_
  intro W base args ds gs before hval0 hW _ _ hL _
  have hval : ∀ (j : Nat) t v, Tryd.f12.params[j]? = some t → args[j]? = some v → Value.okWide Tryd.prog W .any base t v := hval0
  have hW' := hW
  obtain ⟨p, q, hA0, hV, rfl, hfz, hnd⟩ := hW
  have hA : DataW.TrodAll enc Tryd.prog W 0 (fun _ => true) true Tryd.f12.params.toList args.toList ds p := hA0
  rw [Tryd.params12] at hA hval
  obtain ⟨v0, v1, d0, d1, p0, p1, rfl, rfl, rfl, h0, h1⟩ := trodAll_two hA
  obtain ⟨rfl, rfl⟩ := trodVars_none hV
  have lt0 : ∀ x ∈ p0, x.block < W.heap.size := by obtain ⟨m, hm⟩ := h0; exact DataW.trod_lt m _ _ _ hm
  have lt1 : ∀ x ∈ p1, x.block < W.heap.size := by obtain ⟨m, hm⟩ := h1; exact DataW.trod_lt m _ _ _ hm
  have k0 := h0
  have k1 := h1
  obtain ⟨c0, c1, y0, y1, m, rfl, rfl, rfl, hy0, hy1⟩ := Go.Joins.open_agg2 Tryd.underlying54 (by kernel_rfl) Tryd.cellsLine (hval 0 54 v0 rfl rfl) h0
  obtain ⟨x, e0, _, _⟩ := DataW.trod_int Tryd.underlying3 hy0
  obtain ⟨y, e1, _, _⟩ := DataW.trod_int Tryd.underlying3 hy1
  simp at e0 e1
  subst e0 e1
  obtain ⟨a, cap, ps, rfl, hl, hcap, hm, ha⟩ := open_pkts (hval 1 62 v1 rfl rfl) h1
  obtain ⟨ad, he⟩ := errs4_of_laid hL
  refine (passes_any a cap ps x y W ad he hl hcap hm).mono fun e W' ⟨he', bel⟩ => ?_
  subst he'
  exact ⟨_, rfl, _, _, _, [], _, [], hW', trodAll_mk1 (shut_bool Tryd.underlying4 _),
    (trodAll_cons_mk (Below.trod Tryd.laidOut (by kernel_rfl) (of_decide_eq_true (by kernel_rfl)) k0 bel lt0) (trodAll_cons_mk (Below.trod Tryd.laidOut (by kernel_rfl) (of_decide_eq_true (by kernel_rfl)) k1 bel lt1) trodAll_mk0)), rfl, bel.frame _, fun h => by cases h⟩

theorem passes_row : Rows.BucketPassesSaid :=
  OpenClaim.holds_of_wide 12 Tryd.f12 rfl rfl rfl rfl rfl rfl rfl ⟨rfl, rfl, rfl, rfl, rfl⟩ rfl rfl rfl rfl rfl (by kernel_rfl) Tryd.func12 (by kernel_rfl)
    (of_decide_eq_true (by kernel_rfl)) (by unfold Func.isWrapper; rw [if_neg (of_decide_eq_false (by kernel_rfl))]; exact ⟨rfl, rfl⟩)
    (fun os started H enc _ => passes_lifted os started H enc)

theorem bucketPasses_holds : Rows.BucketPassesCardSaid :=
  Claim7.holds_tied_plain_at .later [] Rows.bucketPassesCard.laidKinds true Rows.bucketPassesCard.stood.harness true
    passes_row (fun _ h => by cases h) (by kernel_rfl) (fun _ h => by cases h) bucketPasses_row_tie rfl ⟨rfl, rfl⟩ (by kernel_rfl) rfl
    (fun f fn hf hfn => by
      obtain rfl : f = 12 := Option.some.inj ((show Tryd.prog.funcNamed Rows.bucketPassesRow.func = some 12 by kernel_rfl).symm.trans hf) |>.symm
      obtain rfl : fn = Tryd.f12 := (Option.some.inj (Tryd.func12.symm.trans hfn)).symm
      exact ⟨by kernel_rfl, fun j t ht => by
        rw [Tryd.params12] at ht
        have h3 : t = 54 ∨ t = 62 := by
          match j, ht with
          | 0, ht => exact .inl (by simpa using ht.symm)
          | 1, ht => exact .inr (by simpa using ht.symm)
          | j + 2, ht => simp at ht
        rcases h3 with rfl | rfl
        · exact (show Tryd.prog.wantsStandIn 54 = false by kernel_rfl)
        · exact (show Tryd.prog.wantsStandIn 62 = false by kernel_rfl)⟩)
    (by kernel_rfl)
#print axioms bucketPasses_holds
end Go.Proofs.YtcldgpbimaoliaaDoor
