/- Proved: for every slice of packets, every number of ticks for a byte, every slice of numbers and every two numbers of flows, the call of floodgatelaw2.RoundShares returns true (SHREEDHAR and VARGHESE: while two flows wait, what they get is by their quanta, but for so much), and each argument reads afterwards as it read before. Conditions: the row's own (the listed variables (four errors) read as the program's text lays them, which the card ties). -/
import Derived.Test.YtepnfioldbhffabDoorCShLaw
import Derived.Test.YtepnfioldbhffabDoorCAllLifts
import Derived.Test.YtepnfioldbhffabDoorCLiftR
import Derived.Test.YtepnfioldbhffabDoorCards
namespace Go.Proofs.YtepnfioldbhffabDoor
open Go.ChangeShapes Go.WideShapes Go.ChangeAt Go.RowKit

theorem shLaw_any (pa : Option Addr) (pcap : Nat) (ps : List Pk) (per : Int) (na : Option Addr) (ncap : Nat) (ns : List Int) (x y : Int) (w : World) (ad : Nat → Addr) (he : ErrsBO w ad) (he2 : NumErrs w ad) (he3 : w.cell? ⟨0, 0, none⟩ = some (.iface 157 (.pointer (some (ad 3))))) (hp : LiesP w pa ps) (hpc : ps.length ≤ pcap) (hpm : pcap ≤ maxLen) (hpa : pa = none → ps = [] ∧ pcap = 0) (hn : LiesN w na ns) :
    Calls Tryd.prog 11 #[.slice pa ps.length pcap, .int .i64 per, .slice na ns.length ncap, .int .i64 x, .int .i64 y] w fun e w' => e = .returned (.bool true) ∧ Below w.heap.size w w' := by
  by_cases hm : ps.length ≤ 120 ∨ ps.length = 301
  · have hm' : ((ps.length : Nat) : Int) ≤ 120 ∨ ps.length = 301 := by omega
    have hml := Nat.le_trans hpc hpm
    by_cases hx0 : x < 0
    · exact shLaw_x0 pa _ pcap per na _ ncap x y w hml hm' hx0
    · by_cases hx8 : 8 ≤ x
      · exact shLaw_x8 pa _ pcap per na _ ncap x y w hml hm' hx0 hx8
      · by_cases hy0 : y < 0
        · exact shLaw_y0 pa _ pcap per na _ ncap x y w hml hm' hx0 hx8 hy0
        · by_cases hy8 : 8 ≤ y
          · exact shLaw_y8 pa _ pcap per na _ ncap x y w hml hm' hx0 hx8 hy0 hy8
          · by_cases hok : OkPks ps ∧ 1 ≤ per ∧ per ≤ 1000 ∧ NumsOk 1 3000 ns
            · exact shLaw_ok pa pcap ps per na ncap ns x y w ad he3 hp hpa hpc hpm hn hm hx0 hx8 hy0 hy8 hok.1 hok.2.1 hok.2.2.1 hok.2.2.2
            · exact shLaw_bad pa pcap ps per na ncap ns x y w ad he he2 hp hpa hpc hpm hn hm hx0 hx8 hy0 hy8 hok
  · exact shLaw_many pa _ pcap per na _ ncap x y w (by omega) (by omega)

set_option maxRecDepth 100000 in
theorem rshares_lifted (os : Os) (started : os.Started) (H : Type) (enc : TypeId × Value → H) :
    ReturnsInHanded {} Tryd.checked os 11 .any (fun w args => (Rows.roundSharesSpec.pre enc Tryd.prog Tryd.f11 [] false w args ∧ laidMetH Tryd.prog Rows.roundSharesRow.laid w) ∧ sizedMet enc Tryd.prog Tryd.f11 (OpenSpec.ofChange Rows.roundSharesSpec) false w args)
      (Rows.roundSharesSpec.post enc Tryd.prog Tryd.f11 false true false false) := by
  refine returnsInHanded_of_change_and (C := Tryd.checked) (X := fun w _ => laidMetH Tryd.prog Rows.roundSharesRow.laid w) (fun _ _ _ hh h => h.of_heap hh) Tryd.own started (by kernel_rfl) Tryd.func11
    (ChangeSpec.witness_shaped (enc := enc) (C := Tryd.checked) (os := os) (X := fun w _ => laidMetH Tryd.prog Rows.roundSharesRow.laid w) false (World.doorLaid Tryd.prog 187 os) #[.slice none 0 0, .int .i64 0, .slice none 0 0, .int .i64 0, .int .i64 0] 8 rfl (World.shaped_of_RefB (by kernel_rfl) (by kernel_rfl)) (by kernel_rfl) (by kernel_rfl) (by kernel_rfl) (door_metD os _)) ?_
  intro W base args ds gs before hval0 hW _ _ hL _
  have hval : ∀ (j : Nat) t v, Tryd.f11.params[j]? = some t → args[j]? = some v → Value.okWide Tryd.prog W .any base t v := hval0
  have hW' := hW
  obtain ⟨p, q, hA0, hV, rfl, hfz, hnd⟩ := hW
  have hA : DataW.TrodAll enc Tryd.prog W 0 (fun _ => true) true Tryd.f11.params.toList args.toList ds p := hA0
  rw [Tryd.params11] at hA hval
  obtain ⟨v0, v1, v2, v3, v4, d0, d1, d2, d3, d4, p0, p1, p2, p3, p4, rfl, rfl, rfl, h0, h1, h2, h3, h4⟩ := trodAll_five hA
  obtain ⟨rfl, rfl⟩ := trodVars_none hV
  have lt0 : ∀ x ∈ p0, x.block < W.heap.size := by obtain ⟨m, hm⟩ := h0; exact DataW.trod_lt m _ _ _ hm
  have lt1 : ∀ x ∈ p1, x.block < W.heap.size := by obtain ⟨m, hm⟩ := h1; exact DataW.trod_lt m _ _ _ hm
  have lt2 : ∀ x ∈ p2, x.block < W.heap.size := by obtain ⟨m, hm⟩ := h2; exact DataW.trod_lt m _ _ _ hm
  have lt3 : ∀ x ∈ p3, x.block < W.heap.size := by obtain ⟨m, hm⟩ := h3; exact DataW.trod_lt m _ _ _ hm
  have lt4 : ∀ x ∈ p4, x.block < W.heap.size := by obtain ⟨m, hm⟩ := h4; exact DataW.trod_lt m _ _ _ hm
  have k0 := h0
  have k1 := h1
  have k2 := h2
  have k3 := h3
  have k4 := h4
  obtain ⟨a0, cap0, l0, rfl, hl0, hc0, hm0, ha0⟩ := open_pkts (hval 0 22 v0 rfl rfl) h0
  obtain ⟨x1, rfl, _, _, _⟩ := open_int Tryd.underlying3 (hval 1 3 v1 rfl rfl) h1
  obtain ⟨a2, cap2, l2, rfl, hl2, hc2, hm2, ha2⟩ := open_nums (hval 2 32 v2 rfl rfl) h2
  obtain ⟨x3, rfl, _, _, _⟩ := open_int Tryd.underlying3 (hval 3 3 v3 rfl rfl) h3
  obtain ⟨x4, rfl, _, _, _⟩ := open_int Tryd.underlying3 (hval 4 3 v4 rfl rfl) h4
  obtain ⟨ad, he, he2, he3⟩ := errsD_of_laid hL
  refine (shLaw_any a0 cap0 l0 x1 a2 cap2 l2 x3 x4 W ad he he2 he3 hl0 hc0 hm0 ha0 hl2).mono fun e W' ⟨he', bel⟩ => ?_
  subst he'
  exact ⟨_, rfl, _, _, _, [], _, [], hW', trodAll_mk1 (shut_bool Tryd.underlying4 _),
    (trodAll_cons_mk (Below.trod Tryd.laidOut (by kernel_rfl) (of_decide_eq_true (by kernel_rfl)) k0 bel lt0) (trodAll_cons_mk (Below.trod Tryd.laidOut (by kernel_rfl) (of_decide_eq_true (by kernel_rfl)) k1 bel lt1) (trodAll_cons_mk (Below.trod Tryd.laidOut (by kernel_rfl) (of_decide_eq_true (by kernel_rfl)) k2 bel lt2) (trodAll_cons_mk (Below.trod Tryd.laidOut (by kernel_rfl) (of_decide_eq_true (by kernel_rfl)) k3 bel lt3) (trodAll_cons_mk (Below.trod Tryd.laidOut (by kernel_rfl) (of_decide_eq_true (by kernel_rfl)) k4 bel lt4) trodAll_mk0))))), rfl, bel.frame _, fun h => by cases h⟩

theorem rshares_row : Rows.RoundSharesSaid :=
  OpenClaim.holds_of_wide 11 Tryd.f11 rfl rfl rfl rfl rfl rfl rfl ⟨rfl, rfl, rfl, rfl, rfl⟩ rfl rfl rfl rfl rfl (by kernel_rfl) Tryd.func11 (by kernel_rfl)
    (of_decide_eq_true (by kernel_rfl)) (by unfold Func.isWrapper; rw [if_neg (of_decide_eq_false (by kernel_rfl))]; exact ⟨rfl, rfl⟩)
    (fun os started H enc _ => rshares_lifted os started H enc)

theorem roundShares_holds : Rows.RoundSharesCardSaid :=
  Claim7.holds_tied_plain_at .later [] Rows.roundSharesCard.laidKinds true Rows.roundSharesCard.stood.harness true
    rshares_row (fun _ h => by cases h) (by kernel_rfl) (fun _ h => by cases h) roundShares_row_tie rfl ⟨rfl, rfl⟩ (by kernel_rfl) rfl
    (fun f fn hf hfn => by
      obtain rfl : f = 11 := Option.some.inj ((show Tryd.prog.funcNamed Rows.roundSharesRow.func = some 11 by kernel_rfl).symm.trans hf) |>.symm
      obtain rfl : fn = Tryd.f11 := (Option.some.inj (Tryd.func11.symm.trans hfn)).symm
      exact ⟨by kernel_rfl, fun j t ht => by
        rw [Tryd.params11] at ht
        have h3 : t = 22 ∨ t = 3 ∨ t = 32 := by
          match j, ht with
          | 0, ht => exact .inl (by simpa using ht.symm)
          | 1, ht => exact .inr (.inl (by simpa using ht.symm))
          | 2, ht => exact .inr (.inr (by simpa using ht.symm))
          | 3, ht => exact .inr (.inl (by simpa using ht.symm))
          | 4, ht => exact .inr (.inl (by simpa using ht.symm))
          | j + 5, ht => simp at ht
        rcases h3 with rfl | rfl | rfl
        · exact (show Tryd.prog.wantsStandIn 22 = false by kernel_rfl)
        · exact (show Tryd.prog.wantsStandIn 3 = false by kernel_rfl)
        · exact (show Tryd.prog.wantsStandIn 32 = false by kernel_rfl)⟩)
    (by kernel_rfl)
#print axioms roundShares_holds
end Go.Proofs.YtepnfioldbhffabDoor
