/- Proved: for every line, every slice of packets and every two numbers, the call of floodgatelaw1.BucketWhen returns true, and each argument reads afterwards as it read before. Conditions: the row's own (the four listed errors' variables read as the program's text lays them, which the card ties). -/
import Derived.Test.YtcldgpbimaoliaaDoorWhen2
import Derived.Test.YtcldgpbimaoliaaDoorLift4
import Derived.Test.YtcldgpbimaoliaaDoorCards
namespace Go.Proofs.YtcldgpbimaoliaaDoor
open Go.ChangeShapes Go.WideShapes Go.ChangeAt Go.RowKit

theorem when_any (a : Option Addr) (cap : Nat) (ps : List Pk) (x y t n : Int) (w : World) (ad : Nat → Addr) (he : Errs4 w ad) (hl : LiesP w a ps) (hcap : ps.length ≤ cap) (hm : cap ≤ maxLen) :
    Calls Tryd.prog 13 #[.agg #[.int .i64 x, .int .i64 y], .slice a ps.length cap, .int .i64 t, .int .i64 n] w fun e w' => e = .returned (.bool true) ∧ Below w.heap.size w w' := by
  cases ho : okLine x y with
  | false => exact when_line a ps.length cap x y t n w ad he ho
  | true =>
    by_cases h : 60 < ps.length ∨ (ps.length ≤ 60 ∧ t < 0) ∨ (ps.length ≤ 60 ∧ 0 ≤ t ∧ 1073741824 < t)
    · exact when_far a ps.length cap x y t n w ad he ho (Nat.le_trans hcap hm) h
    · rcases pks_split ps with hp | hp | ⟨-, j, p, k, hj, hg, hbad⟩
      · exact when_main a cap ps x y t n w ad he ho hl (by omega) (by omega) (by omega) hp
      · omega
      · exact when_bad a cap ps x y t n w ad he ho hl (by omega) (by omega) (by omega) j p k hj hg hbad

set_option maxRecDepth 100000 in
theorem when_lifted (os : Os) (started : os.Started) (H : Type) (enc : TypeId × Value → H) :
    ReturnsInHanded {} Tryd.checked os 13 .any (fun w args => (Rows.bucketWhenSpec.pre enc Tryd.prog Tryd.f13 [] false w args ∧ laidMetH Tryd.prog Rows.bucketWhenRow.laid w) ∧ sizedMet enc Tryd.prog Tryd.f13 (OpenSpec.ofChange Rows.bucketWhenSpec) false w args)
      (Rows.bucketWhenSpec.post enc Tryd.prog Tryd.f13 false true false false) := by
  refine returnsInHanded_of_change_and (C := Tryd.checked) (X := fun w _ => laidMetH Tryd.prog Rows.bucketWhenRow.laid w) (fun _ _ _ hh h => h.of_heap hh) Tryd.own started (by kernel_rfl) Tryd.func13
    (ChangeSpec.witness_shaped (enc := enc) (C := Tryd.checked) (os := os) (X := fun w _ => laidMetH Tryd.prog Rows.bucketWhenRow.laid w) false (World.doorLaid Tryd.prog 187 os) #[.agg #[.int .i64 0, .int .i64 0], .slice none 0 0, .int .i64 0, .int .i64 0] 8 rfl (World.shaped_of_RefB (by kernel_rfl) (by kernel_rfl)) (by kernel_rfl) (by kernel_rfl) (by kernel_rfl) (door_met4 os _)) ?_
  intro W base args ds gs before hval0 hW _ _ hL _
  have hval : ∀ (j : Nat) t v, Tryd.f13.params[j]? = some t → args[j]? = some v → Value.okWide Tryd.prog W .any base t v := hval0
  have hW' := hW
  obtain ⟨p, q, hA0, hV, rfl, hfz, hnd⟩ := hW
  have hA : DataW.TrodAll enc Tryd.prog W 0 (fun _ => true) true Tryd.f13.params.toList args.toList ds p := hA0
  rw [Tryd.params13] at hA hval
  obtain ⟨v0, v1, v2, v3, d0, d1, d2, d3, p0, p1, p2, p3, rfl, rfl, rfl, h0, h1, h2, h3⟩ := trodAll_four hA
  obtain ⟨rfl, rfl⟩ := trodVars_none hV
  have lt0 : ∀ x ∈ p0, x.block < W.heap.size := by obtain ⟨m, hm⟩ := h0; exact DataW.trod_lt m _ _ _ hm
  have lt1 : ∀ x ∈ p1, x.block < W.heap.size := by obtain ⟨m, hm⟩ := h1; exact DataW.trod_lt m _ _ _ hm
  have lt2 : ∀ x ∈ p2, x.block < W.heap.size := by obtain ⟨m, hm⟩ := h2; exact DataW.trod_lt m _ _ _ hm
  have lt3 : ∀ x ∈ p3, x.block < W.heap.size := by obtain ⟨m, hm⟩ := h3; exact DataW.trod_lt m _ _ _ hm
  have k0 := h0
  have k1 := h1
  have k2 := h2
  have k3 := h3
  obtain ⟨c0, c1, y0, y1, m, rfl, rfl, rfl, hy0, hy1⟩ := Go.Joins.open_agg2 Tryd.underlying54 (by kernel_rfl) Tryd.cellsLine (hval 0 54 v0 rfl rfl) h0
  obtain ⟨x, e0, _, _⟩ := DataW.trod_int Tryd.underlying3 hy0
  obtain ⟨y, e1, _, _⟩ := DataW.trod_int Tryd.underlying3 hy1
  simp at e0 e1
  subst e0 e1
  obtain ⟨a, cap, ps, rfl, hl, hcap, hm, ha⟩ := open_pkts (hval 1 62 v1 rfl rfl) h1
  obtain ⟨t, rfl, _, _, _⟩ := open_int Tryd.underlying3 (hval 2 3 v2 rfl rfl) h2
  obtain ⟨n, rfl, _, _, _⟩ := open_int Tryd.underlying3 (hval 3 3 v3 rfl rfl) h3
  obtain ⟨ad, he⟩ := errs4_of_laid hL
  refine (when_any a cap ps x y t n W ad he hl hcap hm).mono fun e W' ⟨he', bel⟩ => ?_
  subst he'
  exact ⟨_, rfl, _, _, _, [], _, [], hW', trodAll_mk1 (shut_bool Tryd.underlying4 _),
    (trodAll_cons_mk (Below.trod Tryd.laidOut (by kernel_rfl) (of_decide_eq_true (by kernel_rfl)) k0 bel lt0) (trodAll_cons_mk (Below.trod Tryd.laidOut (by kernel_rfl) (of_decide_eq_true (by kernel_rfl)) k1 bel lt1) (trodAll_cons_mk (Below.trod Tryd.laidOut (by kernel_rfl) (of_decide_eq_true (by kernel_rfl)) k2 bel lt2) (trodAll_cons_mk (Below.trod Tryd.laidOut (by kernel_rfl) (of_decide_eq_true (by kernel_rfl)) k3 bel lt3) trodAll_mk0)))), rfl, bel.frame _, fun h => by cases h⟩

theorem when_row : Rows.BucketWhenSaid :=
  OpenClaim.holds_of_wide 13 Tryd.f13 rfl rfl rfl rfl rfl rfl rfl ⟨rfl, rfl, rfl, rfl, rfl⟩ rfl rfl rfl rfl rfl (by kernel_rfl) Tryd.func13 (by kernel_rfl)
    (of_decide_eq_true (by kernel_rfl)) (by unfold Func.isWrapper; rw [if_neg (of_decide_eq_false (by kernel_rfl))]; exact ⟨rfl, rfl⟩)
    (fun os started H enc _ => when_lifted os started H enc)

theorem bucketWhen_holds : Rows.BucketWhenCardSaid :=
  Claim7.holds_tied_plain_at .later [] Rows.bucketWhenCard.laidKinds true Rows.bucketWhenCard.stood.harness true
    when_row (fun _ h => by cases h) (by kernel_rfl) (fun _ h => by cases h) bucketWhen_row_tie rfl ⟨rfl, rfl⟩ (by kernel_rfl) rfl
    (fun f fn hf hfn => by
      obtain rfl : f = 13 := Option.some.inj ((show Tryd.prog.funcNamed Rows.bucketWhenRow.func = some 13 by kernel_rfl).symm.trans hf) |>.symm
      obtain rfl : fn = Tryd.f13 := (Option.some.inj (Tryd.func13.symm.trans hfn)).symm
      exact ⟨by kernel_rfl, fun j t ht => by
        rw [Tryd.params13] at ht
        have h3 : t = 54 ∨ t = 62 ∨ t = 3 := by
          match j, ht with
          | 0, ht => exact .inl (by simpa using ht.symm)
          | 1, ht => exact .inr (.inl (by simpa using ht.symm))
          | 2, ht => exact .inr (.inr (by simpa using ht.symm))
          | 3, ht => exact .inr (.inr (by simpa using ht.symm))
          | j + 4, ht => simp at ht
        rcases h3 with rfl | rfl | rfl
        · exact (show Tryd.prog.wantsStandIn 54 = false by kernel_rfl)
        · exact (show Tryd.prog.wantsStandIn 62 = false by kernel_rfl)
        · exact (show Tryd.prog.wantsStandIn 3 = false by kernel_rfl)⟩)
    (by kernel_rfl)
#print axioms bucketWhen_holds
end Go.Proofs.YtcldgpbimaoliaaDoor
