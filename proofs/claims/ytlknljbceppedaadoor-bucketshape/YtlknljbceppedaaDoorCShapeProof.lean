/- Proved: for every slice of lines and every slice of packets, the call of floodgatelaw1.BucketShape returns true, and each argument reads afterwards as it read before. Conditions: the row's own (the ten listed variables read as the program's text lays them, which the card ties). -/
import Derived.Test.YtlknljbceppedaaDoorCShapeLaw3
import Derived.Test.YtlknljbceppedaaDoorCLift4
import Derived.Test.YtlknljbceppedaaDoorCLift9
import Derived.Test.YtlknljbceppedaaDoorCards
namespace Go.Proofs.YtlknljbceppedaaDoor
open Go.ChangeShapes Go.WideShapes Go.ChangeAt Go.RowKit

theorem bshape_any (la : Option Addr) (lcap : Nat) (ls : List (Int × Int)) (pa : Option Addr) (cap : Nat) (ps : List Pk) (w : World) (ad : Nat → Addr) (he : Errs9 w ad) (hl : Lies w la ls) (hlc : ls.length ≤ lcap) (hlm : lcap ≤ maxLen) (hla : la = none → ls = [] ∧ lcap = 0) (hp : LiesP w pa ps) (hcap : ps.length ≤ cap) (hm : cap ≤ maxLen) (hpa : pa = none → ps = [] ∧ cap = 0) :
    Calls Tryd.prog 10 #[.slice la ls.length lcap, .slice pa ps.length cap] w fun e w' => e = .returned (.bool true) ∧ Below w.heap.size w w' := by
  by_cases h30 : 30 < ls.length
  · exact bshape_long la ls.length lcap pa ps.length cap w ad he.four (Nat.le_trans hlc hlm) h30
  by_cases hn : ps.length ≤ 60 ∨ ps.length = 301
  · obtain ⟨c0, p0, hf⟩ := pksFault_is ps
    rcases hf.num with ⟨rfl, rfl, ho⟩ | hc
    · obtain ⟨c, p, hfl⟩ := fault_is ls
      rcases hfl.num with rfl | hc
      · obtain ⟨hk, rfl⟩ := hfl.ok
        rcases shape_split ls ps with ⟨s, hs⟩ | ⟨j, q, s, h1, h2, h3⟩
        · exact bshape_yes la lcap ls pa cap ps w ad he hl hlc hlm hla (by omega) hp hcap hm hpa hn ho hk s hs
        · exact bshape_never la lcap ls pa cap ps w ad he hl hlc hlm hla (by omega) hp hcap hm hpa hn ho hk j q s h1 h2 h3
      · exact bshape_fault la lcap ls pa cap ps w ad he hl hlc hlm hla (by omega) hp hcap hm hpa hn 0 (-1) c p hf (.inr ⟨rfl, rfl, ho, hfl, by omega⟩)
    · exact bshape_fault la lcap ls pa cap ps w ad he hl hlc hlm hla (by omega) hp hcap hm hpa hn c0 p0 c0 p0 hf (.inl ⟨rfl, rfl, hc⟩)
  · exact bshape_many la ls.length lcap pa ps.length cap w ad he.four (by omega) (by omega) (by omega)

set_option maxRecDepth 100000 in
theorem bshape_lifted (os : Os) (started : os.Started) (H : Type) (enc : TypeId × Value → H) :
    ReturnsInHanded {} Tryd.checked os 10 .any (fun w args => (Rows.bucketShapeSpec.pre enc Tryd.prog Tryd.f10 [] false w args ∧ laidMetH Tryd.prog Rows.bucketShapeRow.laid w) ∧ sizedMet enc Tryd.prog Tryd.f10 (OpenSpec.ofChange Rows.bucketShapeSpec) false w args)
      (Rows.bucketShapeSpec.post enc Tryd.prog Tryd.f10 false true false false) := by
  refine returnsInHanded_of_change_and (C := Tryd.checked) (X := fun w _ => laidMetH Tryd.prog Rows.bucketShapeRow.laid w) (fun _ _ _ hh h => h.of_heap hh) Tryd.own started (by kernel_rfl) Tryd.func10
    (ChangeSpec.witness_shaped (enc := enc) (C := Tryd.checked) (os := os) (X := fun w _ => laidMetH Tryd.prog Rows.bucketShapeRow.laid w) false (World.doorLaid Tryd.prog 187 os) #[.slice none 0 0, .slice none 0 0] 8 rfl (World.shaped_of_RefB (by kernel_rfl) (by kernel_rfl)) (by kernel_rfl) (by kernel_rfl) (by kernel_rfl) (door_met9 os _)) ?_
  intro W base args ds gs before hval0 hW _ _ hL _
  have hval : ∀ (j : Nat) t v, Tryd.f10.params[j]? = some t → args[j]? = some v → Value.okWide Tryd.prog W .any base t v := hval0
  have hW' := hW
  obtain ⟨p, q, hA0, hV, rfl, hfz, hnd⟩ := hW
  have hA : DataW.TrodAll enc Tryd.prog W 0 (fun _ => true) true Tryd.f10.params.toList args.toList ds p := hA0
  rw [Tryd.params10] at hA hval
  obtain ⟨v0, v1, d0, d1, p0, p1, rfl, rfl, rfl, h0, h1⟩ := trodAll_two hA
  obtain ⟨rfl, rfl⟩ := trodVars_none hV
  have lt0 : ∀ x ∈ p0, x.block < W.heap.size := by obtain ⟨m, hm⟩ := h0; exact DataW.trod_lt m _ _ _ hm
  have lt1 : ∀ x ∈ p1, x.block < W.heap.size := by obtain ⟨m, hm⟩ := h1; exact DataW.trod_lt m _ _ _ hm
  have k0 := h0
  have k1 := h1
  obtain ⟨la, lcap, ls, rfl, hl, hlc, hlm, hla⟩ := open_lines (hval 0 35 v0 rfl rfl) h0
  obtain ⟨pa, cap, ps, rfl, hp, hcap, hm, hpa⟩ := open_pkts (hval 1 62 v1 rfl rfl) h1
  obtain ⟨ad, he⟩ := errs9_of_laid hL
  refine (bshape_any la lcap ls pa cap ps W ad he hl hlc hlm hla hp hcap hm hpa).mono fun e W' ⟨he', bel⟩ => ?_
  subst he'
  exact ⟨_, rfl, _, _, _, [], _, [], hW', trodAll_mk1 (shut_bool Tryd.underlying4 _),
    (trodAll_cons_mk (Below.trod Tryd.laidOut (by kernel_rfl) (of_decide_eq_true (by kernel_rfl)) k0 bel lt0) (trodAll_cons_mk (Below.trod Tryd.laidOut (by kernel_rfl) (of_decide_eq_true (by kernel_rfl)) k1 bel lt1) trodAll_mk0)), rfl, bel.frame _, fun h => by cases h⟩

theorem bshape_row : Rows.BucketShapeSaid :=
  OpenClaim.holds_of_wide 10 Tryd.f10 rfl rfl rfl rfl rfl rfl rfl ⟨rfl, rfl, rfl, rfl, rfl⟩ rfl rfl rfl rfl rfl (by kernel_rfl) Tryd.func10 (by kernel_rfl)
    (of_decide_eq_true (by kernel_rfl)) (by unfold Func.isWrapper; rw [if_neg (of_decide_eq_false (by kernel_rfl))]; exact ⟨rfl, rfl⟩)
    (fun os started H enc _ => bshape_lifted os started H enc)

theorem bucketShape_holds : Rows.BucketShapeCardSaid :=
  Claim7.holds_tied_plain_at .later [] Rows.bucketShapeCard.laidKinds true Rows.bucketShapeCard.stood.harness true
    bshape_row (fun _ h => by cases h) (by kernel_rfl) (fun _ h => by cases h) bucketShape_row_tie rfl ⟨rfl, rfl⟩ (by kernel_rfl) rfl
    (fun f fn hf hfn => by
      obtain rfl : f = 10 := Option.some.inj ((show Tryd.prog.funcNamed Rows.bucketShapeRow.func = some 10 by kernel_rfl).symm.trans hf) |>.symm
      obtain rfl : fn = Tryd.f10 := (Option.some.inj (Tryd.func10.symm.trans hfn)).symm
      exact ⟨by kernel_rfl, fun j t ht => by
        rw [Tryd.params10] at ht
        have h3 : t = 35 ∨ t = 62 := by
          match j, ht with
          | 0, ht => exact .inl (by simpa using ht.symm)
          | 1, ht => exact .inr (by simpa using ht.symm)
          | j + 2, ht => simp at ht
        rcases h3 with rfl | rfl
        · exact (show Tryd.prog.wantsStandIn 35 = false by kernel_rfl)
        · exact (show Tryd.prog.wantsStandIn 62 = false by kernel_rfl)⟩)
    (by kernel_rfl)
#print axioms bucketShape_holds
end Go.Proofs.YtlknljbceppedaaDoor
