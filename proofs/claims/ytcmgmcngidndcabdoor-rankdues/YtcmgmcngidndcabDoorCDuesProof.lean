/- Proved: for every slice of packets, every number and every two slices of numbers, the call of floodgatelaw2.RankDues returns true, and each argument reads afterwards as it read before. Conditions: the row's own (the four listed errors' variables read as the program's text lays them, which the card ties). -/
import Derived.Test.YtcmgmcngidndcabDoorCDues3
import Derived.Test.YtcmgmcngidndcabDoorCAllLifts
import Derived.Test.YtcmgmcngidndcabDoorCLiftR
import Derived.Test.YtcmgmcngidndcabDoorCards
namespace Go.Proofs.YtcmgmcngidndcabDoor
open Go.ChangeShapes Go.WideShapes Go.ChangeAt Go.RowKit

theorem dues_any (pa : Option Addr) (pcap : Nat) (ps : List Pk) (per : Int) (na : Option Addr) (ncap : Nat) (ns : List Int) (oa : Option Addr) (ocap : Nat) (ord : List Int) (w : World) (ad : Nat → Addr) (he : ErrsBO w ad) (he2 : NumErrs w ad) (he3 : w.cell? ⟨0, 0, none⟩ = some (.iface 157 (.pointer (some (ad 3))))) (hp : LiesP w pa ps) (hpa : pa = none → ps = [] ∧ pcap = 0) (hn : LiesN w na ns) (hna : na = none → ns = [] ∧ ncap = 0) (hord : LiesN w oa ord) :
    Calls Tryd.prog 7 #[.slice pa ps.length pcap, .int .i64 per, .slice na ns.length ncap, .slice oa ord.length ocap] w fun e w' => e = .returned (.bool true) ∧ Below w.heap.size w w' := by
  by_cases hm : ps.length ≤ 60
  · by_cases hnn : ns.length ≤ 30
    · by_cases hq : ord.length ≤ 100
      · by_cases hok : OkPks ps ∧ 1 ≤ per ∧ per ≤ 1000 ∧ NumsOk 0 1099511627776 ns
        · rcases Nat.eq_zero_or_pos ps.length with h0 | h0
          · exact dues_none pa pcap ps per na ncap ns oa ocap ord w ad he3 hp hpa hn hna hord hm hq hok.1 hok.2.1 hok.2.2.1 hok.2.2.2 h0
          · exact dues_main pa pcap ps per na ncap ns oa ocap ord w ad he3 hp hpa hn hna hord hm hq hok.1 hok.2.1 hok.2.2.1 hok.2.2.2 h0
        · exact dues_bad pa pcap ps per na ncap ns oa _ ocap w ad he he2 hp hpa hn hna hm hnn hq hok
      · exact dues_many pa _ pcap per na _ ncap oa _ ocap w (.inr (.inr ⟨by omega, by omega, by omega⟩))
    · exact dues_many pa _ pcap per na _ ncap oa _ ocap w (.inr (.inl ⟨by omega, by omega⟩))
  · exact dues_many pa _ pcap per na _ ncap oa _ ocap w (.inl (by omega))

set_option maxRecDepth 100000 in
theorem duesR_lifted (os : Os) (started : os.Started) (H : Type) (enc : TypeId × Value → H) :
    ReturnsInHanded {} Tryd.checked os 7 .any (fun w args => (Rows.rankDuesSpec.pre enc Tryd.prog Tryd.f7 [] false w args ∧ laidMetH Tryd.prog Rows.rankDuesRow.laid w) ∧ sizedMet enc Tryd.prog Tryd.f7 (OpenSpec.ofChange Rows.rankDuesSpec) false w args)
      (Rows.rankDuesSpec.post enc Tryd.prog Tryd.f7 false true false false) := by
  refine returnsInHanded_of_change_and (C := Tryd.checked) (X := fun w _ => laidMetH Tryd.prog Rows.rankDuesRow.laid w) (fun _ _ _ hh h => h.of_heap hh) Tryd.own started (by kernel_rfl) Tryd.func7
    (ChangeSpec.witness_shaped (enc := enc) (C := Tryd.checked) (os := os) (X := fun w _ => laidMetH Tryd.prog Rows.rankDuesRow.laid w) false (World.doorLaid Tryd.prog 187 os) #[.slice none 0 0, .int .i64 0, .slice none 0 0, .slice none 0 0] 8 rfl (World.shaped_of_RefB (by kernel_rfl) (by kernel_rfl)) (by kernel_rfl) (by kernel_rfl) (by kernel_rfl) (door_metD os _)) ?_
  intro W base args ds gs before hval0 hW _ _ hL _
  have hval : ∀ (j : Nat) t v, Tryd.f7.params[j]? = some t → args[j]? = some v → Value.okWide Tryd.prog W .any base t v := hval0
  have hW' := hW
  obtain ⟨p, q, hA0, hV, rfl, hfz, hnd⟩ := hW
  have hA : DataW.TrodAll enc Tryd.prog W 0 (fun _ => true) true Tryd.f7.params.toList args.toList ds p := hA0
  rw [Tryd.params7] at hA hval
  obtain ⟨v0, v1, v2, v3, d0, d1, d2, d3, p0, p1, p2, p3, rfl, rfl, rfl, h0, h1, h2, h3⟩ := trodAll_four hA
  obtain ⟨rfl, rfl⟩ := trodVars_none hV
  have lt0 : ∀ x ∈ p0, x.block < W.heap.size := by obtain ⟨m, hm⟩ := h0; exact DataW.trod_lt m _ _ _ hm
  have lt1 : ∀ x ∈ p1, x.block < W.heap.size := by obtain ⟨m, hm⟩ := h1; exact DataW.trod_lt m _ _ _ hm
  have lt2 : ∀ x ∈ p2, x.block < W.heap.size := by obtain ⟨m, hm⟩ := h2; exact DataW.trod_lt m _ _ _ hm
  have lt3 : ∀ x ∈ p3, x.block < W.heap.size := by obtain ⟨m, hm⟩ := h3; exact DataW.trod_lt m _ _ _ hm
  have k0 := h0
  have k1 := h1
  have k2 := h2
  have k3 := h3
  obtain ⟨a0, cap0, l0, rfl, hl0, hc0, hm0, ha0⟩ := open_pkts (hval 0 22 v0 rfl rfl) h0
  obtain ⟨x1, rfl, _, _, _⟩ := open_int Tryd.underlying3 (hval 1 3 v1 rfl rfl) h1
  obtain ⟨a2, cap2, l2, rfl, hl2, hc2, hm2, ha2⟩ := open_nums (hval 2 32 v2 rfl rfl) h2
  obtain ⟨a3, cap3, l3, rfl, hl3, hc3, hm3, ha3⟩ := open_nums (hval 3 32 v3 rfl rfl) h3
  obtain ⟨ad, he, he2, he3⟩ := errsD_of_laid hL
  refine (dues_any a0 cap0 l0 x1 a2 cap2 l2 a3 cap3 l3 W ad he he2 he3 hl0 ha0 hl2 ha2 hl3).mono fun e W' ⟨he', bel⟩ => ?_
  subst he'
  exact ⟨_, rfl, _, _, _, [], _, [], hW', trodAll_mk1 (shut_bool Tryd.underlying4 _),
    (trodAll_cons_mk (Below.trod Tryd.laidOut (by kernel_rfl) (of_decide_eq_true (by kernel_rfl)) k0 bel lt0) (trodAll_cons_mk (Below.trod Tryd.laidOut (by kernel_rfl) (of_decide_eq_true (by kernel_rfl)) k1 bel lt1) (trodAll_cons_mk (Below.trod Tryd.laidOut (by kernel_rfl) (of_decide_eq_true (by kernel_rfl)) k2 bel lt2) (trodAll_cons_mk (Below.trod Tryd.laidOut (by kernel_rfl) (of_decide_eq_true (by kernel_rfl)) k3 bel lt3) trodAll_mk0)))), rfl, bel.frame _, fun h => by cases h⟩

theorem duesR_row : Rows.RankDuesSaid :=
  OpenClaim.holds_of_wide 7 Tryd.f7 rfl rfl rfl rfl rfl rfl rfl ⟨rfl, rfl, rfl, rfl, rfl⟩ rfl rfl rfl rfl rfl (by kernel_rfl) Tryd.func7 (by kernel_rfl)
    (of_decide_eq_true (by kernel_rfl)) (by unfold Func.isWrapper; rw [if_neg (of_decide_eq_false (by kernel_rfl))]; exact ⟨rfl, rfl⟩)
    (fun os started H enc _ => duesR_lifted os started H enc)

theorem rankDues_holds : Rows.RankDuesCardSaid :=
  Claim7.holds_tied_plain_at .later [] Rows.rankDuesCard.laidKinds true Rows.rankDuesCard.stood.harness true
    duesR_row (fun _ h => by cases h) (by kernel_rfl) (fun _ h => by cases h) rankDues_row_tie rfl ⟨rfl, rfl⟩ (by kernel_rfl) rfl
    (fun f fn hf hfn => by
      obtain rfl : f = 7 := Option.some.inj ((show Tryd.prog.funcNamed Rows.rankDuesRow.func = some 7 by kernel_rfl).symm.trans hf) |>.symm
      obtain rfl : fn = Tryd.f7 := (Option.some.inj (Tryd.func7.symm.trans hfn)).symm
      exact ⟨by kernel_rfl, fun j t ht => by
        rw [Tryd.params7] at ht
        have h3 : t = 22 ∨ t = 3 ∨ t = 32 := by
          match j, ht with
          | 0, ht => exact .inl (by simpa using ht.symm)
          | 1, ht => exact .inr (.inl (by simpa using ht.symm))
          | 2, ht => exact .inr (.inr (by simpa using ht.symm))
          | 3, ht => exact .inr (.inr (by simpa using ht.symm))
          | j + 4, ht => simp at ht
        rcases h3 with rfl | rfl | rfl
        · exact (show Tryd.prog.wantsStandIn 22 = false by kernel_rfl)
        · exact (show Tryd.prog.wantsStandIn 3 = false by kernel_rfl)
        · exact (show Tryd.prog.wantsStandIn 32 = false by kernel_rfl)⟩)
    (by kernel_rfl)
#print axioms rankDues_holds
end Go.Proofs.YtcmgmcngidndcabDoor
