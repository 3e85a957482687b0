/- Proved: for every slice of packets and every number, the call of floodgatelaw2.FifoLindley returns true, and each argument reads afterwards as it read before. Conditions: the row's own (the two listed errors' variables read as the program's text lays them, which the card ties). -/
import Derived.Test.YtcldgpbimaoliabDoorLindley
import Derived.Test.YtcldgpbimaoliabDoorLiftBO
import Derived.Test.YtcldgpbimaoliabDoorCards
namespace Go.Proofs.YtcldgpbimaoliabDoor
open Go.ChangeShapes Go.WideShapes Go.ChangeAt Go.RowKit

theorem lindley_any (pa : Option Addr) (cap : Nat) (ps : List Pk) (per : Int) (w : World) (ad : Nat → Addr) (he : ErrsBO w ad) (hp : LiesP w pa ps) (hcap : ps.length ≤ cap) (hm : cap ≤ maxLen) (hpa : pa = none → ps = [] ∧ cap = 0) :
    Calls Tryd.prog 4 #[.slice pa ps.length cap, .int .i64 per] w fun e w' => e = .returned (.bool true) ∧ Below w.heap.size w w' := by
  by_cases hn : ps.length ≤ 100 ∨ ps.length = 301
  · by_cases hok : OkPks ps ∧ 1 ≤ per ∧ per ≤ 1000
    · have := hok.1.few
      exact lindley_main pa cap ps per w hp hpa (Nat.le_trans hcap hm) (by omega) hok.1 hok.2.1 hok.2.2
    · exact lindley_bad pa cap ps per w ad he hp hpa (Nat.le_trans hcap hm) hn hok
  · exact lindley_many pa ps.length cap per w (by omega) (by omega)

set_option maxRecDepth 100000 in
theorem lindley_lifted (os : Os) (started : os.Started) (H : Type) (enc : TypeId × Value → H) :
    ReturnsInHanded {} Tryd.checked os 4 .any (fun w args => (Rows.fifoLindleySpec.pre enc Tryd.prog Tryd.f4 [] false w args ∧ laidMetH Tryd.prog Rows.fifoLindleyRow.laid w) ∧ sizedMet enc Tryd.prog Tryd.f4 (OpenSpec.ofChange Rows.fifoLindleySpec) false w args)
      (Rows.fifoLindleySpec.post enc Tryd.prog Tryd.f4 false true false false) := by
  refine returnsInHanded_of_change_and (C := Tryd.checked) (X := fun w _ => laidMetH Tryd.prog Rows.fifoLindleyRow.laid w) (fun _ _ _ hh h => h.of_heap hh) Tryd.own started (by kernel_rfl) Tryd.func4
    (ChangeSpec.witness_shaped (enc := enc) (C := Tryd.checked) (os := os) (X := fun w _ => laidMetH Tryd.prog Rows.fifoLindleyRow.laid w) false (World.doorLaid Tryd.prog 187 os) #[.slice none 0 0, .int .i64 0] 8 rfl (World.shaped_of_RefB (by kernel_rfl) (by kernel_rfl)) (by kernel_rfl) (by kernel_rfl) (by kernel_rfl) (door_metBO os _)) ?_
  intro W base args ds gs before hval0 hW _ _ hL _
  have hval : ∀ (j : Nat) t v, Tryd.f4.params[j]? = some t → args[j]? = some v → Value.okWide Tryd.prog W .any base t v := hval0
  have hW' := hW
  obtain ⟨p, q, hA0, hV, rfl, hfz, hnd⟩ := hW
  have hA : DataW.TrodAll enc Tryd.prog W 0 (fun _ => true) true Tryd.f4.params.toList args.toList ds p := hA0
  rw [Tryd.params4] at hA hval
  obtain ⟨v0, v1, d0, d1, p0, p1, rfl, rfl, rfl, h0, h1⟩ := trodAll_two hA
  obtain ⟨rfl, rfl⟩ := trodVars_none hV
  have lt0 : ∀ x ∈ p0, x.block < W.heap.size := by obtain ⟨m, hm⟩ := h0; exact DataW.trod_lt m _ _ _ hm
  have lt1 : ∀ x ∈ p1, x.block < W.heap.size := by obtain ⟨m, hm⟩ := h1; exact DataW.trod_lt m _ _ _ hm
  have k0 := h0
  have k1 := h1
  obtain ⟨pa, cap, ps, rfl, hp, hcap, hm, hpa⟩ := open_pkts (hval 0 22 v0 rfl rfl) h0
  obtain ⟨per, rfl, _, _, _⟩ := open_int Tryd.underlying3 (hval 1 3 v1 rfl rfl) h1
  obtain ⟨ad, he⟩ := errsBO_of_laid hL
  refine (lindley_any pa cap ps per W ad he hp hcap hm hpa).mono fun e W' ⟨he', bel⟩ => ?_
  subst he'
  exact ⟨_, rfl, _, _, _, [], _, [], hW', trodAll_mk1 (shut_bool Tryd.underlying4 _),
    (trodAll_cons_mk (Below.trod Tryd.laidOut (by kernel_rfl) (of_decide_eq_true (by kernel_rfl)) k0 bel lt0) (trodAll_cons_mk (Below.trod Tryd.laidOut (by kernel_rfl) (of_decide_eq_true (by kernel_rfl)) k1 bel lt1) trodAll_mk0)), rfl, bel.frame _, fun h => by cases h⟩

theorem lindley_row : Rows.FifoLindleySaid :=
  OpenClaim.holds_of_wide 4 Tryd.f4 rfl rfl rfl rfl rfl rfl rfl ⟨rfl, rfl, rfl, rfl, rfl⟩ rfl rfl rfl rfl rfl (by kernel_rfl) Tryd.func4 (by kernel_rfl)
    (of_decide_eq_true (by kernel_rfl)) (by unfold Func.isWrapper; rw [if_neg (of_decide_eq_false (by kernel_rfl))]; exact ⟨rfl, rfl⟩)
    (fun os started H enc _ => lindley_lifted os started H enc)

theorem fifoLindley_holds : Rows.FifoLindleyCardSaid :=
  Claim7.holds_tied_plain_at .later [] Rows.fifoLindleyCard.laidKinds true Rows.fifoLindleyCard.stood.harness true
    lindley_row (fun _ h => by cases h) (by kernel_rfl) (fun _ h => by cases h) fifoLindley_row_tie rfl ⟨rfl, rfl⟩ (by kernel_rfl) rfl
    (fun f fn hf hfn => by
      obtain rfl : f = 4 := Option.some.inj ((show Tryd.prog.funcNamed Rows.fifoLindleyRow.func = some 4 by kernel_rfl).symm.trans hf) |>.symm
      obtain rfl : fn = Tryd.f4 := (Option.some.inj (Tryd.func4.symm.trans hfn)).symm
      exact ⟨by kernel_rfl, fun j t ht => by
        rw [Tryd.params4] at ht
        have h3 : t = 22 ∨ t = 3 := by
          match j, ht with
          | 0, ht => exact .inl (by simpa using ht.symm)
          | 1, ht => exact .inr (by simpa using ht.symm)
          | j + 2, ht => simp at ht
        rcases h3 with rfl | rfl
        · exact (show Tryd.prog.wantsStandIn 22 = false by kernel_rfl)
        · exact (show Tryd.prog.wantsStandIn 3 = false by kernel_rfl)⟩)
    (by kernel_rfl)
#print axioms fifoLindley_holds
end Go.Proofs.YtcldgpbimaoliabDoor
