/- Proved: for every slice of lines and every time of a byte, the call of floodgatelaw1.CurveBounds returns true, and each argument reads afterwards as it read before. Conditions: the row's own (the ten listed variables read as the program's text lays them, which the card ties). -/
import Derived.Test.YtcldgpbimaoliaaDoorBounds2
import Derived.Test.YtcldgpbimaoliaaDoorBounds3
import Derived.Test.YtcldgpbimaoliaaDoorLift9
import Derived.Test.YtcldgpbimaoliaaDoorLift
import Derived.Test.YtcldgpbimaoliaaDoorCards
namespace Go.Proofs.YtcldgpbimaoliaaDoor
open Go.ChangeShapes Go.WideShapes Go.ChangeAt Go.RowKit

set_option maxHeartbeats 400000 in
theorem bounds_len (a : Option Addr) (n cap : Nat) (per : Int) (w : World) (hm : n ≤ maxLen) (hn : 30 < n) :
    Calls Tryd.prog 8 #[.slice a n cap, .int .i64 per] w fun e w' => e = .returned (.bool true) ∧ Below w.heap.size w w' := by
  unfold maxLen at hm
  go_enter Tryd.func8, Tryd.ntmps8
  go_wp2_with fail
  refine (drawn_any _).mono ?_
  rintro e w1 ⟨rfl, hb⟩
  have HB : Hid (Below w.heap.size w w1) := hb
  clear hb
  go_wp2_with fail
  go_ret
  exact ⟨rfl, HB.out⟩

theorem firstWide (ls : List (Int × Int)) : (∀ p, p ∈ ls → p.1 ≤ 60) ∨ ∃ j, j < ls.length ∧ (∀ i x y, i < j → ls[i]? = some (x, y) → x ≤ 60) ∧ ∀ x y, ls[j]? = some (x, y) → 60 < x := by
  induction ls with
  | nil => exact .inl fun p hp => by cases hp
  | cons q r ih =>
    by_cases hq : q.1 ≤ 60
    · rcases ih with h | ⟨j, hj, h1, h2⟩
      · refine .inl fun p hp => ?_
        rcases List.mem_cons.1 hp with rfl | hp
        · exact hq
        · exact h p hp
      · refine .inr ⟨j + 1, by simpa using hj, fun i x y hi he => ?_, fun x y he => h2 x y (by simpa using he)⟩
        cases i with
        | zero => simp at he; subst he; exact hq
        | succ i => exact h1 i x y (by omega) (by simpa using he)
    · exact .inr ⟨0, by simp, fun i x y hi => by omega, fun x y h => by simp at h; subst h; simp only [] at hq; omega⟩

set_option maxHeartbeats 400000 in
theorem bounds_wide (a : Option Addr) (cap : Nat) (ls : List (Int × Int)) (per : Int) (w : World) (hl : Lies w a ls) (hn : ls.length ≤ 30) (j : Nat) (hj : j < ls.length) (h1 : ∀ i x y, i < j → ls[i]? = some (x, y) → x ≤ 60) (h2 : ∀ x y, ls[j]? = some (x, y) → 60 < x) :
    Calls Tryd.prog 8 #[.slice a ls.length cap, .int .i64 per] w fun e w' => e = .returned (.bool true) ∧ Below w.heap.size w w' := by
  obtain ⟨b, off, rfl, hlt, hc⟩ := hl.some (by omega)
  have HC : Hid (∀ i x y, ls[i]? = some (x, y) → w.cell? ⟨b, off + i * 2, none⟩ = some (.int .i64 x) ∧ w.cell? ⟨b, off + i * 2 + 1, none⟩ = some (.int .i64 y)) := hc
  have H1 : Hid (∀ i x y, i < j → ls[i]? = some (x, y) → x ≤ 60) := h1
  have H2 : Hid (∀ x y, ls[j]? = some (x, y) → 60 < x) := h2
  clear hl hc h1 h2
  go_enter Tryd.func8, Tryd.ntmps8
  go_wp2_with fail
  refine (drawn_any _).mono ?_
  rintro e w1 ⟨rfl, hb⟩
  have HB1 : Hid (Below w.heap.size w w1) := hb
  clear hb
  go_wp2_with fail
  go_loop [6] (fun i => ∃ k : Nat, k ≤ j ∧ i = .int .i64 k) (fun i => ls.length - (intOf i).toNat)
  case atStart => exact ⟨0, Nat.zero_le _, rfl⟩
  case round =>
    obtain ⟨k, hk, rfl⟩ := hrel
    obtain ⟨⟨x, y⟩, hp, -⟩ := get_some ls k (by omega)
    have q := cell_later HB1.out (HC.out k x y hp).1
    by_cases hkj : k < j
    · have hx : x ≤ 60 := H1.out k x y hkj hp
      clear hp
      go_wp2_with fail
      go_round
      case rel => exact ⟨k + 1, by omega, by go_num⟩
      case measure => simp [intOf]; omega
    · obtain rfl : k = j := by omega
      have hx : 60 < x := H2.out x y hp
      clear hp
      go_wp2_with fail
      go_ret
      exact ⟨rfl, HB1.out⟩

theorem bounds_any (a : Option Addr) (cap : Nat) (ls : List (Int × Int)) (per : Int) (w : World) (ad : Nat → Addr) (he : Errs9 w ad) (hl : Lies w a ls) (hcap : ls.length ≤ cap) (hm : cap ≤ maxLen) (ha : a = none → ls = [] ∧ cap = 0) :
    Calls Tryd.prog 8 #[.slice a ls.length cap, .int .i64 per] w fun e w' => e = .returned (.bool true) ∧ Below w.heap.size w w' := by
  by_cases hn : 30 < ls.length
  · exact bounds_len a ls.length cap per w (Nat.le_trans hcap hm) hn
  rcases firstWide ls with hs | ⟨j, hj, h1, h2⟩
  · obtain ⟨c, p, hf⟩ := fault_is ls
    rcases hf.num with rfl | hc
    · obtain ⟨hk, rfl⟩ := hf.ok
      by_cases hp0 : per < 1
      · exact bounds_neg a cap ls per w ad he hl (by omega) hcap hm ha hs hk hp0
      by_cases hp1 : 1000 < per
      · exact bounds_late a cap ls per w ad he hl (by omega) hcap hm ha hs hk (by omega) hp1
      have hlk : LinkOk ls per := ⟨hk, by omega, by omega⟩
      by_cases hr : leastR ls * per < 1000
      · exact bounds_fine a cap ls per w ad he hl (by omega) hcap hm ha hs hlk hr
      by_cases hr2 : leastR ls * per = 1000
      · exact bounds_even a cap ls per w ad he hl (by omega) hcap hm ha hs hlk hr2
      · exact bounds_none a cap ls per w ad he hl (by omega) hcap hm ha hs hlk (by omega)
    · exact bounds_bad a cap ls per w ad he hl (by omega) hcap hm ha hs c p hf hc
  · exact bounds_wide a cap ls per w hl (by omega) j hj h1 h2

set_option maxRecDepth 100000 in
theorem bounds_lifted (os : Os) (started : os.Started) (H : Type) (enc : TypeId × Value → H) :
    ReturnsInHanded {} Tryd.checked os 8 .any (fun w args => (Rows.curveBoundsSpec.pre enc Tryd.prog Tryd.f8 [] false w args ∧ laidMetH Tryd.prog Rows.curveBoundsRow.laid w) ∧ sizedMet enc Tryd.prog Tryd.f8 (OpenSpec.ofChange Rows.curveBoundsSpec) false w args)
      (Rows.curveBoundsSpec.post enc Tryd.prog Tryd.f8 false true false false) := by
  refine returnsInHanded_of_change_and (C := Tryd.checked) (X := fun w _ => laidMetH Tryd.prog Rows.curveBoundsRow.laid w) (fun _ _ _ hh h => h.of_heap hh) Tryd.own started (by kernel_rfl) Tryd.func8
    (ChangeSpec.witness_shaped (enc := enc) (C := Tryd.checked) (os := os) (X := fun w _ => laidMetH Tryd.prog Rows.curveBoundsRow.laid w) false (World.doorLaid Tryd.prog 187 os) #[.slice none 0 0, .int .i64 0] 8 rfl (World.shaped_of_RefB (by kernel_rfl) (by kernel_rfl)) (by kernel_rfl) (by kernel_rfl) (by kernel_rfl) (door_met9 os _)) ?_
  intro W base args ds gs before hval0 hW _ _ hL _
  have hval : ∀ (j : Nat) t v, Tryd.f8.params[j]? = some t → args[j]? = some v → Value.okWide Tryd.prog W .any base t v := hval0
  have hW' := hW
  obtain ⟨p, q, hA0, hV, rfl, hfz, hnd⟩ := hW
  have hA : DataW.TrodAll enc Tryd.prog W 0 (fun _ => true) true Tryd.f8.params.toList args.toList ds p := hA0
  rw [Tryd.params8] at hA hval
  obtain ⟨v0, v1, d0, d1, p0, p1, rfl, rfl, rfl, h0, h1⟩ := trodAll_two hA
  obtain ⟨rfl, rfl⟩ := trodVars_none hV
  have lt0 : ∀ x ∈ p0, x.block < W.heap.size := by obtain ⟨m, hm⟩ := h0; exact DataW.trod_lt m _ _ _ hm
  have lt1 : ∀ x ∈ p1, x.block < W.heap.size := by obtain ⟨m, hm⟩ := h1; exact DataW.trod_lt m _ _ _ hm
  have k0 := h0
  have k1 := h1
  obtain ⟨a, cap, ls, rfl, hl, hcap, hm, ha⟩ := open_lines (hval 0 35 v0 rfl rfl) h0
  obtain ⟨t, rfl, _, _, _⟩ := open_int Tryd.underlying3 (hval 1 3 v1 rfl rfl) h1
  obtain ⟨ad, he⟩ := errs9_of_laid hL
  refine (bounds_any a cap ls t W ad he hl hcap hm ha).mono fun e W' ⟨he', bel⟩ => ?_
  subst he'
  exact ⟨_, rfl, _, _, _, [], _, [], hW', trodAll_mk1 (shut_bool Tryd.underlying4 _),
    (trodAll_cons_mk (Below.trod Tryd.laidOut (by kernel_rfl) (of_decide_eq_true (by kernel_rfl)) k0 bel lt0) (trodAll_cons_mk (Below.trod Tryd.laidOut (by kernel_rfl) (of_decide_eq_true (by kernel_rfl)) k1 bel lt1) trodAll_mk0)), rfl, bel.frame _, fun h => by cases h⟩

theorem bounds_row : Rows.CurveBoundsSaid :=
  OpenClaim.holds_of_wide 8 Tryd.f8 rfl rfl rfl rfl rfl rfl rfl ⟨rfl, rfl, rfl, rfl, rfl⟩ rfl rfl rfl rfl rfl (by kernel_rfl) Tryd.func8 (by kernel_rfl)
    (of_decide_eq_true (by kernel_rfl)) (by unfold Func.isWrapper; rw [if_neg (of_decide_eq_false (by kernel_rfl))]; exact ⟨rfl, rfl⟩)
    (fun os started H enc _ => bounds_lifted os started H enc)

theorem curveBounds_holds : Rows.CurveBoundsCardSaid :=
  Claim7.holds_tied_plain_at .later [] Rows.curveBoundsCard.laidKinds true Rows.curveBoundsCard.stood.harness true
    bounds_row (fun _ h => by cases h) (by kernel_rfl) (fun _ h => by cases h) curveBounds_row_tie rfl ⟨rfl, rfl⟩ (by kernel_rfl) rfl
    (fun f fn hf hfn => by
      obtain rfl : f = 8 := Option.some.inj ((show Tryd.prog.funcNamed Rows.curveBoundsRow.func = some 8 by kernel_rfl).symm.trans hf) |>.symm
      obtain rfl : fn = Tryd.f8 := (Option.some.inj (Tryd.func8.symm.trans hfn)).symm
      exact ⟨by kernel_rfl, fun j t ht => by
        rw [Tryd.params8] at ht
        have h3 : t = 35 ∨ t = 3 := by
          match j, ht with
          | 0, ht => exact .inl (by simpa using ht.symm)
          | 1, ht => exact .inr (by simpa using ht.symm)
          | j + 2, ht => simp at ht
        rcases h3 with rfl | rfl
        · exact (show Tryd.prog.wantsStandIn 35 = false by kernel_rfl)
        · exact (show Tryd.prog.wantsStandIn 3 = false by kernel_rfl)⟩)
    (by kernel_rfl)
#print axioms curveBounds_holds
end Go.Proofs.YtcldgpbimaoliaaDoor
