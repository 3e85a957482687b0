/- Proved: for every gate and every slice of packets, the call of floodgatelaw3.GateKeeps returns true (CRUZ: no packet of the flows that are spoken of is longer at the link than the bound; what a gate does is what a link may do), and each argument reads afterwards as it read before. Conditions: the row's own (the listed variables (seven errors, and package errors' own type) read as the program's text lays them, which the card ties). -/
import Derived.Test.YtibhkijaafdkoaaGreatDoorCards
import Derived.Test.YtibhkijaafdkoaaGreatDoorK51
namespace Go.Proofs.YtibhkijaafdkoaaGreatDoor
open Go.ChangeShapes Go.WideShapes Go.ChangeAt Go.RowKit
set_option maxRecDepth 100000 in
theorem gkeeps_lifted (os : Os) (started : os.Started) (H : Type) (enc : TypeId × Value → H) :
  ReturnsInHanded {} Tryz.checked os 4 .any (fun w args => (Rows.gateKeepsSpec.pre enc Tryz.prog Tryz.f4 [] false w args ∧ laidMetH Tryz.prog Rows.gateKeepsRow.laid w) ∧ sizedMet enc Tryz.prog Tryz.f4 (OpenSpec.ofChange Rows.gateKeepsSpec) false w args)
   (Rows.gateKeepsSpec.post enc Tryz.prog Tryz.f4 false true false false) := by
 refine returnsInHanded_of_change_and (C := Tryz.checked) (X := fun w _ => laidMetH Tryz.prog Rows.gateKeepsRow.laid w) (fun _ _ _ hh h => h.of_heap hh) Tryz.own started (by kernel_rfl) Tryz.func4
  (ChangeSpec.witness_shaped (enc := enc) (C := Tryz.checked) (os := os) (X := fun w _ => laidMetH Tryz.prog Rows.gateKeepsRow.laid w) false (World.doorLaid Tryz.prog 187 os) #[.agg #[.slice none 0 0, .string ⟨#[]⟩, .int .i64 0, .slice none 0 0], .slice none 0 0] 8 rfl (World.shaped_of_RefB (by kernel_rfl) (by kernel_rfl)) (by kernel_rfl) (by kernel_rfl) (by kernel_rfl) (door_met9 os _)) ?_
 intro W base args ds gs before hval0 hW _ _ hL _
 have hval : ∀ (j : Nat) t v, Tryz.f4.params[j]? = some t → args[j]? = some v → Value.okWide Tryz.prog W .any base t v := hval0
 have hW' := hW
 obtain ⟨p, q, hA0, hV, rfl, hfz, hnd⟩ := hW
 have hA : DataW.TrodAll enc Tryz.prog W 0 (fun _ => true) true Tryz.f4.params.toList args.toList ds p := hA0
 rw [Tryz.params4] at hA hval
 obtain ⟨v0, v1, d0, d1, p0, p1, rfl, rfl, rfl, h0, h1⟩ := trodAll_two hA
 obtain ⟨rfl, rfl⟩ := trodVars_none hV
 have lt0 : ∀ x ∈ p0, x.block < W.heap.size := by obtain ⟨m, hm⟩ := h0; exact DataW.trod_lt m _ _ _ hm
 have lt1 : ∀ x ∈ p1, x.block < W.heap.size := by obtain ⟨m, hm⟩ := h1; exact DataW.trod_lt m _ _ _ hm
 have k0 := h0
 have k1 := h1
 obtain ⟨ca0, ccap0, cs0, kb0, per0, na0, ncap0, ns0, rfl, hg0⟩ := open_rgate (hval 0 25 v0 rfl rfl) h0
 obtain ⟨a1, cap1, l1, rfl, hl1, hc1, hm1, ha1⟩ := open_pkts (hval 1 43 v1 rfl rfl) h1
 obtain ⟨ad, he⟩ := errs9_of_laid hL
 refine (gateKeeps_any _ _ _ gateWalks boundWalks keepWalks ca0 ccap0 cs0 kb0 per0 na0 ncap0 ns0 a1 cap1 l1 W ad he hg0 ⟨hl1, hc1, hm1, ha1⟩).mono fun e W' ⟨he', bel⟩ => ?_
 subst he'
 exact ⟨_, rfl, _, _, _, [], _, [], hW', trodAll_mk1 (shut_bool Tryz.underlying4 _),
  (trodAll_cons_mk (Below.trod Tryz.laidOut (by kernel_rfl) (of_decide_eq_true (by kernel_rfl)) k0 bel lt0) (trodAll_cons_mk (Below.trod Tryz.laidOut (by kernel_rfl) (of_decide_eq_true (by kernel_rfl)) k1 bel lt1) trodAll_mk0)), rfl, bel.frame _, fun h => by cases h⟩
theorem gkeeps_row : Rows.GateKeepsSaid :=
 OpenClaim.holds_of_wide 4 Tryz.f4 rfl rfl rfl rfl rfl rfl rfl ⟨rfl, rfl, rfl, rfl, rfl⟩ rfl rfl rfl rfl rfl (by kernel_rfl) Tryz.func4 (by kernel_rfl)
  (of_decide_eq_true (by kernel_rfl)) (by unfold Func.isWrapper; rw [if_neg (of_decide_eq_false (by kernel_rfl))]; exact ⟨rfl, rfl⟩)
  (fun os started H enc _ => gkeeps_lifted os started H enc)
theorem gateKeeps_holds : Rows.GateKeepsCardSaid :=
 Claim7.holds_tied_plain_at .later [] Rows.gateKeepsCard.laidKinds true Rows.gateKeepsCard.stood.harness true
  gkeeps_row (fun _ h => by cases h) (by kernel_rfl) (fun _ h => by cases h) gateKeeps_row_tie rfl ⟨rfl, rfl⟩ (by kernel_rfl) rfl
  (fun f fn hf hfn => by
   obtain rfl : f = 4 := Option.some.inj ((show Tryz.prog.funcNamed Rows.gateKeepsRow.func = some 4 by kernel_rfl).symm.trans hf) |>.symm
   obtain rfl : fn = Tryz.f4 := (Option.some.inj (Tryz.func4.symm.trans hfn)).symm
   exact ⟨by kernel_rfl, fun j t ht => by
    rw [Tryz.params4] at ht
    have h3 : t = 25 ∨ t = 43 := by
     match j, ht with
     | 0, ht => exact .inl (by simpa using ht.symm)
     | 1, ht => exact .inr (by simpa using ht.symm)
     | j + 2, ht => simp at ht
    rcases h3 with rfl | rfl
    · exact (show Tryz.prog.wantsStandIn 25 = false by kernel_rfl)
    · exact (show Tryz.prog.wantsStandIn 43 = false by kernel_rfl)⟩)
  (by kernel_rfl)
#print axioms gateKeeps_holds
end Go.Proofs.YtibhkijaafdkoaaGreatDoor
