/- Proved: for every slice of packets, every slice of what was sent, every slice of numbers and every two numbers, the call of floodgatelaw2.RoundSpread returns true, and each argument reads afterwards as it read before. Conditions: the row's own (the listed variables (the nine errors, and package errors' own type) read as the program's text lays them, which the card ties). -/
import Derived.Test.YtepnfioldbhffabDoorCSpLaw2
import Derived.Test.YtepnfioldbhffabDoorCAllLifts
import Derived.Test.YtepnfioldbhffabDoorCLift9
import Derived.Test.YtepnfioldbhffabDoorCards
namespace Go.Proofs.YtepnfioldbhffabDoor
open Go.ChangeShapes Go.WideShapes Go.ChangeAt Go.RowKit

theorem spLaw_any (pa : Option Addr) (pcap : Nat) (ps : List Pk) (a : Option Addr) (cap : Nat) (l : List Sn) (na : Option Addr) (ncap : Nat) (ns : List Int) (x y : Int) (w : World) (ad : Nat → Addr) (he : Errs9 w ad) (hp : LiesP w pa ps) (hpc : ps.length ≤ pcap) (hpm : pcap ≤ maxLen) (hpa : pa = none → ps = [] ∧ pcap = 0) (hl : LiesS w a l) (hla : a = none → l = [] ∧ cap = 0) (hn : LiesN w na ns) (hna : na = none → ns = [] ∧ ncap = 0) :
    Calls Tryd.prog 10 #[.slice pa ps.length pcap, .slice a l.length cap, .slice na ns.length ncap, .int .i64 x, .int .i64 y] w fun e w' => e = .returned (.bool true) ∧ Below w.heap.size w w' := by
  by_cases hm : ps.length ≤ 60 ∨ ps.length = 301
  · by_cases hll : l.length ≤ 60
    · by_cases hnn : ns.length ≤ 30
      · by_cases h8 : ns.length = 8
        · by_cases hx0 : x < 0
          · exact spLaw_x0 pa pcap ps a cap l na ncap ns x y w ad he hp hpa hpc hpm hl hla hn hna hm hll hnn h8 hx0
          · by_cases hx8 : 8 ≤ x
            · exact spLaw_x8 pa pcap ps a cap l na ncap ns x y w ad he hp hpa hpc hpm hl hla hn hna hm hll hnn h8 hx0 hx8
            · by_cases hy0 : y < 0
              · exact spLaw_y0 pa pcap ps a cap l na ncap ns x y w ad he hp hpa hpc hpm hl hla hn hna hm hll hnn h8 hx0 hx8 hy0
              · by_cases hy8 : 8 ≤ y
                · exact spLaw_y8 pa pcap ps a cap l na ncap ns x y w ad he hp hpa hpc hpm hl hla hn hna hm hll hnn h8 hx0 hx8 hy0 hy8
                · obtain ⟨k, hk⟩ := numsFault_is 1 3000 ns
                  rcases hk with ⟨-, h⟩ | ⟨-, h⟩ | ⟨-, hko⟩
                  · exact absurd h8 h
                  · exact spLaw_num pa pcap ps a cap l na ncap ns x y w ad he hp hpa hpc hpm hl hla hn hna hm hll hnn h8 hx0 hx8 hy0 hy8 h
                  · obtain ⟨c, p, hq⟩ := pksFault_is ps
                    rcases hq.num with ⟨rfl, rfl, ho⟩ | hc
                    · obtain ⟨c, p, hs⟩ := sentFault_is ps.length l
                      rcases hs with hs | hs
                      · have hc : 0 < c := by
                          obtain ⟨_, _, _, _, _, rfl, _⟩ := hs
                          decide
                        exact spLaw_sent pa pcap ps a cap l na ncap ns x y w ad he hp hpa hpc hpm hl hla hn hna hm hll hnn hko hx0 hx8 hy0 hy8 ho c p (.inl hs) hc
                      · exact spLaw_ok pa pcap ps a cap l na ncap ns x y w ad he hp hpa hpc hpm hl hla hn hna hm hll hnn hko hx0 hx8 hy0 hy8 ho hs.1
                    · exact spLaw_pkts pa pcap ps a cap l na ncap ns x y w ad he hp hpa hpc hpm hl hla hn hna hm hll hnn hko hx0 hx8 hy0 hy8 c p hq hc
        · exact spLaw_shape pa pcap ps a cap l na ncap ns x y w ad he hp hpa hpc hpm hl hla hn hna hm hll hnn h8
      · exact spLaw_more pa _ pcap a _ cap na _ ncap x y w (Nat.le_trans hpc hpm) (by omega) (.inr ⟨by omega, by omega⟩)
    · exact spLaw_more pa _ pcap a _ cap na _ ncap x y w (Nat.le_trans hpc hpm) (by omega) (.inl (by omega))
  · exact spLaw_many pa _ pcap a _ cap na _ ncap x y w (by omega) (by omega)

set_option maxRecDepth 100000 in
theorem rspread_lifted (os : Os) (started : os.Started) (H : Type) (enc : TypeId × Value → H) :
    ReturnsInHanded {} Tryd.checked os 10 .any (fun w args => (Rows.roundSpreadSpec.pre enc Tryd.prog Tryd.f10 [] false w args ∧ laidMetH Tryd.prog Rows.roundSpreadRow.laid w) ∧ sizedMet enc Tryd.prog Tryd.f10 (OpenSpec.ofChange Rows.roundSpreadSpec) false w args)
      (Rows.roundSpreadSpec.post enc Tryd.prog Tryd.f10 false true false false) := by
  refine returnsInHanded_of_change_and (C := Tryd.checked) (X := fun w _ => laidMetH Tryd.prog Rows.roundSpreadRow.laid w) (fun _ _ _ hh h => h.of_heap hh) Tryd.own started (by kernel_rfl) Tryd.func10
    (ChangeSpec.witness_shaped (enc := enc) (C := Tryd.checked) (os := os) (X := fun w _ => laidMetH Tryd.prog Rows.roundSpreadRow.laid w) false (World.doorLaid Tryd.prog 187 os) #[.slice none 0 0, .slice none 0 0, .slice none 0 0, .int .i64 0, .int .i64 0] 8 rfl (World.shaped_of_RefB (by kernel_rfl) (by kernel_rfl)) (by kernel_rfl) (by kernel_rfl) (by kernel_rfl) (door_met9 os _)) ?_
  intro W base args ds gs before hval0 hW _ _ hL _
  have hval : ∀ (j : Nat) t v, Tryd.f10.params[j]? = some t → args[j]? = some v → Value.okWide Tryd.prog W .any base t v := hval0
  have hW' := hW
  obtain ⟨p, q, hA0, hV, rfl, hfz, hnd⟩ := hW
  have hA : DataW.TrodAll enc Tryd.prog W 0 (fun _ => true) true Tryd.f10.params.toList args.toList ds p := hA0
  rw [Tryd.params10] at hA hval
  obtain ⟨v0, v1, v2, v3, v4, d0, d1, d2, d3, d4, p0, p1, p2, p3, p4, rfl, rfl, rfl, h0, h1, h2, h3, h4⟩ := trodAll_five hA
  obtain ⟨rfl, rfl⟩ := trodVars_none hV
  have lt0 : ∀ x ∈ p0, x.block < W.heap.size := by obtain ⟨m, hm⟩ := h0; exact DataW.trod_lt m _ _ _ hm
  have lt1 : ∀ x ∈ p1, x.block < W.heap.size := by obtain ⟨m, hm⟩ := h1; exact DataW.trod_lt m _ _ _ hm
  have lt2 : ∀ x ∈ p2, x.block < W.heap.size := by obtain ⟨m, hm⟩ := h2; exact DataW.trod_lt m _ _ _ hm
  have lt3 : ∀ x ∈ p3, x.block < W.heap.size := by obtain ⟨m, hm⟩ := h3; exact DataW.trod_lt m _ _ _ hm
  have lt4 : ∀ x ∈ p4, x.block < W.heap.size := by obtain ⟨m, hm⟩ := h4; exact DataW.trod_lt m _ _ _ hm
  have k0 := h0
  have k1 := h1
  have k2 := h2
  have k3 := h3
  have k4 := h4
  obtain ⟨a0, cap0, l0, rfl, hl0, hc0, hm0, ha0⟩ := open_pkts (hval 0 22 v0 rfl rfl) h0
  obtain ⟨a1, cap1, l1, rfl, hl1, hc1, hm1, ha1⟩ := open_sents (hval 1 23 v1 rfl rfl) h1
  obtain ⟨a2, cap2, l2, rfl, hl2, hc2, hm2, ha2⟩ := open_nums (hval 2 32 v2 rfl rfl) h2
  obtain ⟨x3, rfl, _, _, _⟩ := open_int Tryd.underlying3 (hval 3 3 v3 rfl rfl) h3
  obtain ⟨x4, rfl, _, _, _⟩ := open_int Tryd.underlying3 (hval 4 3 v4 rfl rfl) h4
  obtain ⟨ad, he⟩ := errs9_of_laid hL
  refine (spLaw_any a0 cap0 l0 a1 cap1 l1 a2 cap2 l2 x3 x4 W ad he hl0 hc0 hm0 ha0 hl1 ha1 hl2 ha2).mono fun e W' ⟨he', bel⟩ => ?_
  subst he'
  exact ⟨_, rfl, _, _, _, [], _, [], hW', trodAll_mk1 (shut_bool Tryd.underlying4 _),
    (trodAll_cons_mk (Below.trod Tryd.laidOut (by kernel_rfl) (of_decide_eq_true (by kernel_rfl)) k0 bel lt0) (trodAll_cons_mk (Below.trod Tryd.laidOut (by kernel_rfl) (of_decide_eq_true (by kernel_rfl)) k1 bel lt1) (trodAll_cons_mk (Below.trod Tryd.laidOut (by kernel_rfl) (of_decide_eq_true (by kernel_rfl)) k2 bel lt2) (trodAll_cons_mk (Below.trod Tryd.laidOut (by kernel_rfl) (of_decide_eq_true (by kernel_rfl)) k3 bel lt3) (trodAll_cons_mk (Below.trod Tryd.laidOut (by kernel_rfl) (of_decide_eq_true (by kernel_rfl)) k4 bel lt4) trodAll_mk0))))), rfl, bel.frame _, fun h => by cases h⟩

theorem rspread_row : Rows.RoundSpreadSaid :=
  OpenClaim.holds_of_wide 10 Tryd.f10 rfl rfl rfl rfl rfl rfl rfl ⟨rfl, rfl, rfl, rfl, rfl⟩ rfl rfl rfl rfl rfl (by kernel_rfl) Tryd.func10 (by kernel_rfl)
    (of_decide_eq_true (by kernel_rfl)) (by unfold Func.isWrapper; rw [if_neg (of_decide_eq_false (by kernel_rfl))]; exact ⟨rfl, rfl⟩)
    (fun os started H enc _ => rspread_lifted os started H enc)

theorem roundSpread_holds : Rows.RoundSpreadCardSaid :=
  Claim7.holds_tied_plain_at .later [] Rows.roundSpreadCard.laidKinds true Rows.roundSpreadCard.stood.harness true
    rspread_row (fun _ h => by cases h) (by kernel_rfl) (fun _ h => by cases h) roundSpread_row_tie rfl ⟨rfl, rfl⟩ (by kernel_rfl) rfl
    (fun f fn hf hfn => by
      obtain rfl : f = 10 := Option.some.inj ((show Tryd.prog.funcNamed Rows.roundSpreadRow.func = some 10 by kernel_rfl).symm.trans hf) |>.symm
      obtain rfl : fn = Tryd.f10 := (Option.some.inj (Tryd.func10.symm.trans hfn)).symm
      exact ⟨by kernel_rfl, fun j t ht => by
        rw [Tryd.params10] at ht
        have h3 : t = 22 ∨ t = 23 ∨ t = 32 ∨ t = 3 := by
          match j, ht with
          | 0, ht => exact .inl (by simpa using ht.symm)
          | 1, ht => exact .inr (.inl (by simpa using ht.symm))
          | 2, ht => exact .inr (.inr (.inl (by simpa using ht.symm)))
          | 3, ht => exact .inr (.inr (.inr (by simpa using ht.symm)))
          | 4, ht => exact .inr (.inr (.inr (by simpa using ht.symm)))
          | j + 5, ht => simp at ht
        rcases h3 with rfl | rfl | rfl | rfl
        · exact (show Tryd.prog.wantsStandIn 22 = false by kernel_rfl)
        · exact (show Tryd.prog.wantsStandIn 23 = false by kernel_rfl)
        · exact (show Tryd.prog.wantsStandIn 32 = false by kernel_rfl)
        · exact (show Tryd.prog.wantsStandIn 3 = false by kernel_rfl)⟩)
    (by kernel_rfl)
#print axioms roundSpread_holds
end Go.Proofs.YtepnfioldbhffabDoor
