/- Proved: for every gate, every slice of slices of numbers and every slice of packets, the call of floodgatelaw3.GateBusy returns true (KLEINROCK: whatever the kind of a link, it is busy at the same ticks), and each argument reads afterwards as it read before. Conditions: the row's own (the listed variables (five errors, and package errors' own type) read as the program's text lays them, which the card ties). -/
import Derived.Test.YtibhkijaafdkoaaGreatDoorQ53
import Derived.Test.YtibhkijaafdkoaaGreatDoorQ02
import Derived.Test.YtibhkijaafdkoaaGreatDoorCards
import Derived.Test.YtibhkijaafdkoaaGreatDoorQ50
namespace Go.Proofs.YtibhkijaafdkoaaGreatDoor
open Go.ChangeShapes Go.WideShapes Go.ChangeAt Go.RowKit
theorem Tryz.oneRow : ((List.range 303).filter fun t => Tryz.prog.rowNamed t [101, 114, 114, 111, 114]) = [29] := by kernel_rfl
theorem Tryz.sizeTypes : Tryz.prog.types.size = 303 := by kernel_rfl
theorem Tryz.handleErr : typeHandle Tryz.prog 29 = .pointer (some ⟨10, 29, none⟩) := by kernel_rfl
theorem Tryz.gType : Tryz.prog.globalNamed "errors.errorType" = some 9 := by kernel_rfl
def nth9 (a1 a2 a3 a4 a8 : Addr) : Nat → Addr
 | 1 => a1 | 2 => a2 | 3 => a3 | 4 => a4 | _ => a8
theorem errs9_of_laid {W : World} (h : laidMetH Tryz.prog Rows.gateOpenRow.laid W) : ∃ ad, Errs9 W ad := by
 have h' : laidMet Tryz.prog Rows.gateOpenRow.laid.tail W ∧ handlesMet Tryz.prog [("errors.errorType", Rows.laid_errors_errorType)] W := h
 obtain ⟨h1, h2⟩ := h'
 have hty : W.cell? ⟨9, 0, none⟩ = some (.iface 207 (.agg #[.pointer (some ⟨10, 29, none⟩)])) := by
  obtain ⟨name, u, ty, e1, e2, e3, e4, e5⟩ := h2 _ (List.mem_singleton.2 rfl)
  have en : name = [101, 114, 114, 111, 114] := (Option.some.inj e1).symm
  subst en
  obtain rfl : u = 207 := Option.some.inj (e2.symm.trans (by kernel_rfl))
  have hm : ty ∈ (List.range 303).filter fun t => Tryz.prog.rowNamed t [101, 114, 114, 111, 114] := List.mem_filter.2 ⟨List.mem_range.2 (by rw [← Tryz.sizeTypes]; exact e3), e4⟩
  rw [Tryz.oneRow] at hm
  obtain rfl := List.mem_singleton.1 hm
  rw [Tryz.handleErr] at e5
  simpa using World.var?_cell Tryz.gType e5 0
 obtain ⟨a1, _, v1, _⟩ := sentinel_of_laid (g := 3) h1 rfl (by kernel_rfl) (by kernel_rfl)
 obtain ⟨a2, _, v2, _⟩ := sentinel_of_laid (g := 4) h1.tail rfl (by kernel_rfl) (by kernel_rfl)
 obtain ⟨a3, _, v3, _⟩ := sentinel_of_laid (g := 0) h1.tail.tail rfl (by kernel_rfl) (by kernel_rfl)
 obtain ⟨a4, _, v4, _⟩ := sentinel_of_laid (g := 5) h1.tail.tail.tail rfl (by kernel_rfl) (by kernel_rfl)
 obtain ⟨a8, _, v8, _⟩ := sentinel_of_laid (g := 1) h1.tail.tail.tail.tail rfl (by kernel_rfl) (by kernel_rfl)
 exact ⟨nth9 a1 a2 a3 a4 a8, hty, v1, v2, v3, v4, v8⟩
theorem door_met9 (os : Os) (args : Array Value) : laidMetH Tryz.prog Rows.gateOpenRow.laid ((World.doorLaid Tryz.prog 187 os).forCall (fun _ _ => 0) ⟨#[], args, []⟩).memory :=
 laidMetH_of_parts3 (fuel := 8) (laidMet_of_run' 8 (by kernel_rfl) (by kernel_rfl)) (by kernel_rfl) (by kernel_rfl)
end Go.Proofs.YtibhkijaafdkoaaGreatDoor

namespace Go.Proofs.YtibhkijaafdkoaaGreatDoor
open Go.ChangeShapes Go.WideShapes Go.ChangeAt Go.RowKit
set_option maxRecDepth 100000 in
theorem gbusy_lifted (os : Os) (started : os.Started) (H : Type) (enc : TypeId × Value → H) :
  ReturnsInHanded {} Tryz.checked os 5 .any (fun w args => (Rows.gateBusySpec.pre enc Tryz.prog Tryz.f5 [] false w args ∧ laidMetH Tryz.prog Rows.gateBusyRow.laid w) ∧ sizedMet enc Tryz.prog Tryz.f5 (OpenSpec.ofChange Rows.gateBusySpec) false w args)
   (Rows.gateBusySpec.post enc Tryz.prog Tryz.f5 false true false false) := by
 refine returnsInHanded_of_change_and (C := Tryz.checked) (X := fun w _ => laidMetH Tryz.prog Rows.gateBusyRow.laid w) (fun _ _ _ hh h => h.of_heap hh) Tryz.own started (by kernel_rfl) Tryz.func5
  (ChangeSpec.witness_shaped (enc := enc) (C := Tryz.checked) (os := os) (X := fun w _ => laidMetH Tryz.prog Rows.gateBusyRow.laid w) false (World.doorLaid Tryz.prog 187 os) #[.agg #[.slice none 0 0, .string ⟨#[]⟩, .int .i64 0, .slice none 0 0], .slice none 0 0, .slice none 0 0] 8 rfl (World.shaped_of_RefB (by kernel_rfl) (by kernel_rfl)) (by kernel_rfl) (by kernel_rfl) (by kernel_rfl) (door_met9 os _)) ?_
 intro W base args ds gs before hval0 hW _ _ hL _
 have hval : ∀ (j : Nat) t v, Tryz.f5.params[j]? = some t → args[j]? = some v → Value.okWide Tryz.prog W .any base t v := hval0
 have hW' := hW
 obtain ⟨p, q, hA0, hV, rfl, hfz, hnd⟩ := hW
 have hA : DataW.TrodAll enc Tryz.prog W 0 (fun _ => true) true Tryz.f5.params.toList args.toList ds p := hA0
 rw [Tryz.params5] at hA hval
 obtain ⟨v0, v1, v2, d0, d1, d2, p0, p1, p2, rfl, rfl, rfl, h0, h1, h2⟩ := trodAll_three hA
 obtain ⟨rfl, rfl⟩ := trodVars_none hV
 have lt0 : ∀ x ∈ p0, x.block < W.heap.size := by obtain ⟨m, hm⟩ := h0; exact DataW.trod_lt m _ _ _ hm
 have lt1 : ∀ x ∈ p1, x.block < W.heap.size := by obtain ⟨m, hm⟩ := h1; exact DataW.trod_lt m _ _ _ hm
 have lt2 : ∀ x ∈ p2, x.block < W.heap.size := by obtain ⟨m, hm⟩ := h2; exact DataW.trod_lt m _ _ _ hm
 have k0 := h0
 have k1 := h1
 have k2 := h2
 obtain ⟨ca0, ccap0, cs0, kb0, per0, na0, ncap0, ns0, rfl, hg0⟩ := open_rgate (hval 0 25 v0 rfl rfl) h0
 obtain ⟨a1, cap1, l1, rfl, hl1, hc1, hm1, ha1⟩ := open_intss (hval 1 56 v1 rfl rfl) h1
 obtain ⟨a2, cap2, l2, rfl, hl2, hc2, hm2, ha2⟩ := open_pkts (hval 2 43 v2 rfl rfl) h2
 obtain ⟨ad, he⟩ := errs9_of_laid hL
 refine (gateBusy_any gateWalks ca0 ccap0 cs0 kb0 per0 na0 ncap0 ns0 a1 cap1 l1 a2 cap2 l2 W ad he hg0 hl1 hc1 hm1 ⟨hl2, hc2, hm2, ha2⟩).mono fun e W' ⟨he', bel⟩ => ?_
 subst he'
 exact ⟨_, rfl, _, _, _, [], _, [], hW', trodAll_mk1 (shut_bool Tryz.underlying4 _),
  (trodAll_cons_mk (Below.trod Tryz.laidOut (by kernel_rfl) (of_decide_eq_true (by kernel_rfl)) k0 bel lt0) (trodAll_cons_mk (Below.trod Tryz.laidOut (by kernel_rfl) (of_decide_eq_true (by kernel_rfl)) k1 bel lt1) (trodAll_cons_mk (Below.trod Tryz.laidOut (by kernel_rfl) (of_decide_eq_true (by kernel_rfl)) k2 bel lt2) trodAll_mk0))), rfl, bel.frame _, fun h => by cases h⟩
theorem gbusy_row : Rows.GateBusySaid :=
 OpenClaim.holds_of_wide 5 Tryz.f5 rfl rfl rfl rfl rfl rfl rfl ⟨rfl, rfl, rfl, rfl, rfl⟩ rfl rfl rfl rfl rfl (by kernel_rfl) Tryz.func5 (by kernel_rfl)
  (of_decide_eq_true (by kernel_rfl)) (by unfold Func.isWrapper; rw [if_neg (of_decide_eq_false (by kernel_rfl))]; exact ⟨rfl, rfl⟩)
  (fun os started H enc _ => gbusy_lifted os started H enc)
theorem gateBusy_holds : Rows.GateBusyCardSaid :=
 Claim7.holds_tied_plain_at .later [] Rows.gateBusyCard.laidKinds true Rows.gateBusyCard.stood.harness true
  gbusy_row (fun _ h => by cases h) (by kernel_rfl) (fun _ h => by cases h) gateBusy_row_tie rfl ⟨rfl, rfl⟩ (by kernel_rfl) rfl
  (fun f fn hf hfn => by
   obtain rfl : f = 5 := Option.some.inj ((show Tryz.prog.funcNamed Rows.gateBusyRow.func = some 5 by kernel_rfl).symm.trans hf) |>.symm
   obtain rfl : fn = Tryz.f5 := (Option.some.inj (Tryz.func5.symm.trans hfn)).symm
   exact ⟨by kernel_rfl, fun j t ht => by
    rw [Tryz.params5] at ht
    have h3 : t = 25 ∨ t = 56 ∨ t = 43 := by
     match j, ht with
     | 0, ht => exact .inl (by simpa using ht.symm)
     | 1, ht => exact .inr (.inl (by simpa using ht.symm))
     | 2, ht => exact .inr (.inr (by simpa using ht.symm))
     | j + 3, ht => simp at ht
    rcases h3 with rfl | rfl | rfl
    · exact (show Tryz.prog.wantsStandIn 25 = false by kernel_rfl)
    · exact (show Tryz.prog.wantsStandIn 56 = false by kernel_rfl)
    · exact (show Tryz.prog.wantsStandIn 43 = false by kernel_rfl)⟩)
  (by kernel_rfl)
#print axioms gateBusy_holds
end Go.Proofs.YtibhkijaafdkoaaGreatDoor
