/- Proved: for every slice of packets, every slice of what was sent and every slice of numbers, the call of floodgatelaw2.RankLate returns true, and each argument reads afterwards as it read before. Conditions: the row's own (the listed variables (the nine errors, and package errors' own type) read as the program's text lays them, which the card ties). -/
import Derived.Test.YtcldgpbimaoliabDoorCLateLaw2
import Derived.Test.YtcldgpbimaoliabDoorCLiftN
import Derived.Test.YtcldgpbimaoliabDoorCLiftS
import Derived.Test.YtcldgpbimaoliabDoorCLift9
import Derived.Test.YtcldgpbimaoliabDoorCards
namespace Go.Proofs.YtcldgpbimaoliabDoor
open Go.ChangeShapes Go.WideShapes Go.ChangeAt Go.RowKit

theorem lateLaw_any (pa : Option Addr) (pcap : Nat) (ps : List Pk) (a : Option Addr) (cap : Nat) (l : List Sn) (na : Option Addr) (ncap : Nat) (ns : List Int) (w : World) (ad : Nat → Addr) (he : Errs9 w ad) (hp : LiesP w pa ps) (hpc : ps.length ≤ pcap) (hpm : pcap ≤ maxLen) (hpa : pa = none → ps = [] ∧ pcap = 0) (hl : LiesS w a l) (hla : a = none → l = [] ∧ cap = 0) (hn : LiesN w na ns) (hna : na = none → ns = [] ∧ ncap = 0) :
    Calls Tryd.prog 6 #[.slice pa ps.length pcap, .slice a l.length cap, .slice na ns.length ncap] w fun e w' => e = .returned (.bool true) ∧ Below w.heap.size w w' := by
  by_cases hm : ps.length ≤ 80 ∨ ps.length = 301
  · by_cases hll : l.length ≤ 100
    · by_cases hnn : ns.length ≤ 30
      · obtain ⟨c, p, hq⟩ := pksFault_is ps
        rcases hq.num with ⟨rfl, rfl, ho⟩ | hc
        · obtain ⟨k, hk⟩ := numsFault_is 0 1099511627776 ns
          rcases Nat.eq_zero_or_pos k with rfl | hk0
          · have hko : NumsOk 0 1099511627776 ns := by
              rcases hk with ⟨h, -⟩ | ⟨h, -⟩ | ⟨-, h⟩
              · omega
              · omega
              · exact h
            obtain ⟨c, p, hs⟩ := sentFault_is ps.length l
            rcases hs with hs | hs
            · have hc : 0 < c := by
                obtain ⟨_, _, _, _, _, rfl, _⟩ := hs
                decide
              exact lateLaw_bad3 pa pcap ps a cap l na ncap ns w ad he hp hpa hpc hpm hl hla hn hna hm hll hnn ho hko c p (.inl hs) hc
            · exact lateLaw_ok pa pcap ps a cap l na ncap ns w ad he hp hpa hpc hpm hl hla hn hna hm hll hnn ho hko hs.1
          · exact lateLaw_bad2 pa pcap ps a cap l na ncap ns w ad he hp hpa hpc hpm hl hla hn hna hm hll hnn ho k hk hk0
        · exact lateLaw_bad1 pa pcap ps a cap l na ncap ns w ad he hp hpa hpc hpm hl hla hn hna hm hll hnn c p hq hc
      · exact lateLaw_more pa _ pcap a _ cap na _ ncap w (Nat.le_trans hpc hpm) (by omega) (.inr ⟨by omega, by omega⟩)
    · exact lateLaw_more pa _ pcap a _ cap na _ ncap w (Nat.le_trans hpc hpm) (by omega) (.inl (by omega))
  · exact lateLaw_many pa _ pcap a _ cap na _ ncap w (by omega) (by omega)

set_option maxRecDepth 100000 in
theorem late_lifted (os : Os) (started : os.Started) (H : Type) (enc : TypeId × Value → H) :
    ReturnsInHanded {} Tryd.checked os 6 .any (fun w args => (Rows.rankLateSpec.pre enc Tryd.prog Tryd.f6 [] false w args ∧ laidMetH Tryd.prog Rows.rankLateRow.laid w) ∧ sizedMet enc Tryd.prog Tryd.f6 (OpenSpec.ofChange Rows.rankLateSpec) false w args)
      (Rows.rankLateSpec.post enc Tryd.prog Tryd.f6 false true false false) := by
  refine returnsInHanded_of_change_and (C := Tryd.checked) (X := fun w _ => laidMetH Tryd.prog Rows.rankLateRow.laid w) (fun _ _ _ hh h => h.of_heap hh) Tryd.own started (by kernel_rfl) Tryd.func6
    (ChangeSpec.witness_shaped (enc := enc) (C := Tryd.checked) (os := os) (X := fun w _ => laidMetH Tryd.prog Rows.rankLateRow.laid w) false (World.doorLaid Tryd.prog 187 os) #[.slice none 0 0, .slice none 0 0, .slice none 0 0] 8 rfl (World.shaped_of_RefB (by kernel_rfl) (by kernel_rfl)) (by kernel_rfl) (by kernel_rfl) (by kernel_rfl) (door_met9 os _)) ?_
  intro W base args ds gs before hval0 hW _ _ hL _
  have hval : ∀ (j : Nat) t v, Tryd.f6.params[j]? = some t → args[j]? = some v → Value.okWide Tryd.prog W .any base t v := hval0
  have hW' := hW
  obtain ⟨p, q, hA0, hV, rfl, hfz, hnd⟩ := hW
  have hA : DataW.TrodAll enc Tryd.prog W 0 (fun _ => true) true Tryd.f6.params.toList args.toList ds p := hA0
  rw [Tryd.params6] at hA hval
  obtain ⟨v0, v1, v2, d0, d1, d2, p0, p1, p2, rfl, rfl, rfl, h0, h1, h2⟩ := trodAll_three hA
  obtain ⟨rfl, rfl⟩ := trodVars_none hV
  have lt0 : ∀ x ∈ p0, x.block < W.heap.size := by obtain ⟨m, hm⟩ := h0; exact DataW.trod_lt m _ _ _ hm
  have lt1 : ∀ x ∈ p1, x.block < W.heap.size := by obtain ⟨m, hm⟩ := h1; exact DataW.trod_lt m _ _ _ hm
  have lt2 : ∀ x ∈ p2, x.block < W.heap.size := by obtain ⟨m, hm⟩ := h2; exact DataW.trod_lt m _ _ _ hm
  have k0 := h0
  have k1 := h1
  have k2 := h2
  obtain ⟨a0, cap0, l0, rfl, hl0, hc0, hm0, ha0⟩ := open_pkts (hval 0 22 v0 rfl rfl) h0
  obtain ⟨a1, cap1, l1, rfl, hl1, hc1, hm1, ha1⟩ := open_sents (hval 1 23 v1 rfl rfl) h1
  obtain ⟨a2, cap2, l2, rfl, hl2, hc2, hm2, ha2⟩ := open_nums (hval 2 32 v2 rfl rfl) h2
  obtain ⟨ad, he⟩ := errs9_of_laid hL
  refine (lateLaw_any a0 cap0 l0 a1 cap1 l1 a2 cap2 l2 W ad he hl0 hc0 hm0 ha0 hl1 ha1 hl2 ha2).mono fun e W' ⟨he', bel⟩ => ?_
  subst he'
  exact ⟨_, rfl, _, _, _, [], _, [], hW', trodAll_mk1 (shut_bool Tryd.underlying4 _),
    (trodAll_cons_mk (Below.trod Tryd.laidOut (by kernel_rfl) (of_decide_eq_true (by kernel_rfl)) k0 bel lt0) (trodAll_cons_mk (Below.trod Tryd.laidOut (by kernel_rfl) (of_decide_eq_true (by kernel_rfl)) k1 bel lt1) (trodAll_cons_mk (Below.trod Tryd.laidOut (by kernel_rfl) (of_decide_eq_true (by kernel_rfl)) k2 bel lt2) trodAll_mk0))), rfl, bel.frame _, fun h => by cases h⟩

theorem late_row : Rows.RankLateSaid :=
  OpenClaim.holds_of_wide 6 Tryd.f6 rfl rfl rfl rfl rfl rfl rfl ⟨rfl, rfl, rfl, rfl, rfl⟩ rfl rfl rfl rfl rfl (by kernel_rfl) Tryd.func6 (by kernel_rfl)
    (of_decide_eq_true (by kernel_rfl)) (by unfold Func.isWrapper; rw [if_neg (of_decide_eq_false (by kernel_rfl))]; exact ⟨rfl, rfl⟩)
    (fun os started H enc _ => late_lifted os started H enc)

theorem rankLate_holds : Rows.RankLateCardSaid :=
  Claim7.holds_tied_plain_at .later [] Rows.rankLateCard.laidKinds true Rows.rankLateCard.stood.harness true
    late_row (fun _ h => by cases h) (by kernel_rfl) (fun _ h => by cases h) rankLate_row_tie rfl ⟨rfl, rfl⟩ (by kernel_rfl) rfl
    (fun f fn hf hfn => by
      obtain rfl : f = 6 := Option.some.inj ((show Tryd.prog.funcNamed Rows.rankLateRow.func = some 6 by kernel_rfl).symm.trans hf) |>.symm
      obtain rfl : fn = Tryd.f6 := (Option.some.inj (Tryd.func6.symm.trans hfn)).symm
      exact ⟨by kernel_rfl, fun j t ht => by
        rw [Tryd.params6] at ht
        have h3 : t = 22 ∨ t = 23 ∨ t = 32 := by
          match j, ht with
          | 0, ht => exact .inl (by simpa using ht.symm)
          | 1, ht => exact .inr (.inl (by simpa using ht.symm))
          | 2, ht => exact .inr (.inr (by simpa using ht.symm))
          | j + 3, ht => simp at ht
        rcases h3 with rfl | rfl | rfl
        · exact (show Tryd.prog.wantsStandIn 22 = false by kernel_rfl)
        · exact (show Tryd.prog.wantsStandIn 23 = false by kernel_rfl)
        · exact (show Tryd.prog.wantsStandIn 32 = false by kernel_rfl)⟩)
    (by kernel_rfl)
#print axioms rankLate_holds
end Go.Proofs.YtcldgpbimaoliabDoor
