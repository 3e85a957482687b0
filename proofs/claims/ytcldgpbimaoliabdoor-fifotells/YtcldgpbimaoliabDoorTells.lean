/- FifoTells: its ways. -/
import Derived.Test.YtcldgpbimaoliabDoorBusy2
import Derived.Test.YtcldgpbimaoliabDoorDelays3
import Derived.Test.YtcldgpbimaoliabDoorSends
import Derived.Test.YtcldgpbimaoliabDoorFaulted
namespace Go.Proofs.YtcldgpbimaoliabDoor
open Go.RowKit

theorem Own2.at {w : World} {B : Nat} {a : Option Addr} {n cap : Nat} {ls : List (Int × Int)} (h : Own2 w B (.slice a n cap) ls) (h0 : 0 < ls.length) : ∃ g, a = some ⟨g, 0, none⟩ ∧ ∀ i x y, ls[i]? = some (x, y) → w.cell? ⟨g, i * 2, none⟩ = some (.int .i64 x) ∧ w.cell? ⟨g, i * 2 + 1, none⟩ = some (.int .i64 y) := by
  obtain ⟨g, cap', hv, -, -, -, -, hc, -⟩ := h.place h0
  injection hv with h1 h2 h3
  exact ⟨g, h1, hc⟩

set_option maxRecDepth 100000 in
set_option maxHeartbeats 1000000 in
theorem tells_manyP (pa : Option Addr) (m pcap : Nat) (a : Option Addr) (n cap : Nat) (w : World) (hm : m ≤ maxLen) (h : 100 < m) :
    Calls Tryd.prog 3 #[.slice pa m pcap, .slice a n cap] w fun e w' => e = .returned (.bool true) ∧ Below w.heap.size w w' := by
  unfold maxLen at hm
  go_enter Tryd.func3, Tryd.ntmps3
  go_wp2_with fail
  refine (sends_any _).mono ?_
  rintro e w1 ⟨rfl, hb⟩
  have HB : Hid (Below w.heap.size w w1) := hb
  clear hb
  go_wp2_with fail
  go_ret
  exact ⟨rfl, HB.out⟩
set_option maxRecDepth 100000 in
set_option maxHeartbeats 1000000 in
theorem tells_manyL (pa : Option Addr) (m pcap : Nat) (a : Option Addr) (n cap : Nat) (w : World) (h0 : m ≤ 100) (hm : n ≤ maxLen) (h : 100 < n) :
    Calls Tryd.prog 3 #[.slice pa m pcap, .slice a n cap] w fun e w' => e = .returned (.bool true) ∧ Below w.heap.size w w' := by
  unfold maxLen at hm
  have h0' : ¬ 100 < m := by omega
  go_enter Tryd.func3, Tryd.ntmps3
  go_wp2_with fail
  refine (sends_any _).mono ?_
  rintro e w1 ⟨rfl, hb⟩
  have HB : Hid (Below w.heap.size w w1) := hb
  clear hb
  go_wp2_with fail
  go_ret
  exact ⟨rfl, HB.out⟩

set_option maxRecDepth 100000 in
set_option maxHeartbeats 8000000 in
theorem tells_main (pa : Option Addr) (pcap : Nat) (ps : List Pk) (a : Option Addr) (cap : Nat) (l : List Sn) (w : World) (ad : Nat → Addr) (he : Errs9 w ad) (hp : LiesP w pa ps) (hpa : pa = none → ps = [] ∧ pcap = 0) (hl : LiesS w a l) (hla : a = none → l = [] ∧ cap = 0) (hm : ps.length ≤ 100) (hn : l.length ≤ 100) :
    Calls Tryd.prog 3 #[.slice pa ps.length pcap, .slice a l.length cap] w fun e w' => e = .returned (.bool true) ∧ Below w.heap.size w w' := by
  have HE : Hid (Errs9 w ad) := he
  have HP : Hid (LiesP w pa ps ∧ (pa = none → ps = [] ∧ pcap = 0)) := ⟨hp, hpa⟩
  have HL : Hid (LiesS w a l ∧ (a = none → l = [] ∧ cap = 0)) := ⟨hl, hla⟩
  clear he hp hpa hl hla
  obtain ⟨n, hnn⟩ : ∃ n, l.length = n := ⟨_, rfl⟩
  obtain ⟨m, hmm⟩ : ∃ m, ps.length = m := ⟨_, rfl⟩
  have HN : Hid (l.length = n ∧ ps.length = m) := ⟨hnn, hmm⟩
  have HTame : Hid (∀ w', Below w.heap.size w w' → Calls Tryd.prog 11 #[.slice a n cap] w' fun e w'' => TameEnd l w' e w'') := fun w' hb => by
    have := tameSent_any a cap l w' (HL.out.1.below hb) (by omega)
    rwa [hnn] at this
  have HOwnS : Hid (∀ w', Below w.heap.size w w' → Calls Tryd.prog 13 #[.slice a n cap] w' fun e w'' => ∃ a' cap', e = .returned (.slice a' n cap') ∧ LiesS w'' a' l ∧ Below w'.heap.size w' w'' ∧ Below w.heap.size w w'') := fun w' hb => by
    have := ownSent_from a cap l w w' hb HL.out.1 (by omega) HL.out.2
    rwa [hnn] at this
  have HOwnP : Hid (∀ w', Below w.heap.size w w' → Calls Tryd.prog 16 #[.slice pa m pcap] w' fun e w'' => ∃ a' cap', e = .returned (.slice a' m cap') ∧ LiesP w'' a' ps ∧ m ≤ cap' ∧ cap' ≤ maxLen ∧ Below w'.heap.size w' w'' ∧ Below w.heap.size w w'') := fun w' hb => by
    have := ownPackets_from pa pcap ps w w' hb HP.out.1 (by omega) HP.out.2
    rwa [hmm] at this
  have HBusy : Hid (∀ w' a' cap', LiesS w' a' l → Calls Tryd.prog 12 #[.slice a' n cap'] w' fun e w'' => BusyEnd l w' e w'') := fun w' a' cap' h => by
    have := busy_any a' cap' l w' h (by omega)
    rwa [hnn] at this
  have HTicks : Hid (∀ w', Below w.heap.size w w' → Calls Tryd.prog 14 #[.slice a n cap] w' fun e w'' => BusyEnd l w' e w'') := fun w' hb => by
    have := busyTicks_any a cap l w' (HL.out.1.below hb) (by omega)
    rwa [hnn] at this
  rw [hnn] at hn ⊢
  rw [hmm] at hm ⊢
  clear hnn hmm
  go_enter Tryd.func3, Tryd.ntmps3
  go_wp2_with fail
  refine (sends_any _).mono ?_
  rintro e w1 ⟨rfl, hb⟩
  have HB1 : Hid (Below w.heap.size w w1) := hb
  clear hb
  go_wp2_with fail
  refine (HTame.out w1 HB1.out).mono ?_
  rintro e w2 ⟨⟨rfl, htame⟩ | rfl, hb2⟩
  · have HB2 : Hid (Below w.heap.size w w2 ∧ tameAll l) := ⟨HB1.out.trans (hb2.mono HB1.out.size), htame⟩
    clear hb2 htame
    go_wp2_with fail
    go_loopw [6] (fun i wr => ∃ k : Nat, k ≤ m ∧ i = .int .i64 k ∧ (∀ (i : Nat) p, i < k → ps[i]? = some p → -1125899906842624 ≤ p.tick ∧ p.tick ≤ 1125899906842624) ∧ Below w.heap.size w wr) (fun i _ => m - (intOf i).toNat)
    case atStart => exact ⟨0, Nat.zero_le _, rfl, fun i x h => by omega, HB2.out.1⟩
    case round =>
      obtain ⟨k, hk, rfl, hok, hb⟩ := hrel
      have HB : Hid (Below w.heap.size w wr ∧ (∀ (i : Nat) p, i < k → ps[i]? = some p → -1125899906842624 ≤ p.tick ∧ p.tick ≤ 1125899906842624)) := ⟨hb, hok⟩
      by_cases hkm : k < m
      · obtain ⟨p, hp, -⟩ := get_some ps k (by rw [HN.out.2]; exact hkm)
        obtain ⟨b, off, rfl, -, hc⟩ := HP.out.1.place (by rw [HN.out.2]; omega)
        have c3 : wr.cell? ⟨b, off + k * 3 + 2, none⟩ = some (.int .i64 p.tick) := cell_later hb (hc k _ hp).2.2
        have HPk : Hid (ps[k]? = some p) := hp
        clear hc hp hok hb
        rcases (show p.tick < -1125899906842624 ∨ (¬ p.tick < -1125899906842624 ∧ 1125899906842624 < p.tick) ∨ (¬ p.tick < -1125899906842624 ∧ ¬ 1125899906842624 < p.tick) by omega) with s1 | ⟨s1, s2⟩ | ⟨s1, s2⟩
        · go_wp2_with fail
          go_ret
          exact ⟨rfl, HB.out.1⟩
        · go_wp2_with fail
          go_ret
          exact ⟨rfl, HB.out.1⟩
        · have HT : Hid (-1125899906842624 ≤ p.tick ∧ p.tick ≤ 1125899906842624) := ⟨by omega, by omega⟩
          go_wp2_with fail
          go_roundw
          case rel =>
            refine ⟨k + 1, by omega, by go_num, fun i x hi hx => ?_, HB.out.1⟩
            rcases Nat.lt_or_ge i k with h | h
            · exact HB.out.2 i x h hx
            · obtain rfl : i = k := by omega
              obtain rfl := Option.some.inj (HPk.out.symm.trans hx)
              exact HT.out
          case measure => simp [intOf]; omega
      · have HTp : Hid (∀ (i : Nat) p, ps[i]? = some p → -1125899906842624 ≤ p.tick ∧ p.tick ≤ 1125899906842624) := fun i p hp => HB.out.2 i p (by have := lt_of_get hp; have := HN.out.2; omega) hp
        clear hok hb
        go_wp2_with fail
        refine (HOwnS.out wr HB.out.1).mono ?_
        rintro e w3 ⟨a3, k3, rfl, l3, -, b3⟩
        have HB3 : Hid (Below w.heap.size w w3 ∧ LiesS w3 a3 l) := ⟨b3, l3⟩
        clear l3 b3
        go_wp2_with fail
        refine (HBusy.out w3 a3 k3 HB3.out.2).mono ?_
        rintro e w4 ⟨v4, rfl, o4, b4⟩
        have HB4 : Hid (Below w.heap.size w w4 ∧ Own2 w4 w3.heap.size v4 (busyL l)) := ⟨HB3.out.1.trans (b4.mono HB3.out.1.size), o4⟩
        clear o4 b4
        go_wp2_with fail
        refine (HTicks.out w4 HB4.out.1).mono ?_
        rintro e w5 ⟨v5, rfl, o5, b5⟩
        have HB5 : Hid (Below w.heap.size w w5 ∧ Own2 w5 w3.heap.size v4 (busyL l) ∧ Own2 w5 w4.heap.size v5 (busyL l)) := ⟨HB4.out.1.trans (b5.mono HB4.out.1.size), HB4.out.2.later b5, o5⟩
        clear o5 b5
        have hbl := busyL_length l n (by rw [HN.out.1]; exact Nat.le_refl _)
        rw [List.take_of_length_le (by rw [HN.out.1]; exact Nat.le_refl _)] at hbl
        obtain ⟨a4, k4, rfl, h41, h42⟩ := HB5.out.2.1.form
        obtain ⟨a5, k5, rfl, h51, h52⟩ := HB5.out.2.2.form
        obtain ⟨r, hr⟩ : ∃ r, (busyL l).length = r := ⟨_, rfl⟩
        have HR : Hid ((busyL l).length = r) := hr
        rw [hr] at h41 h51 hbl HB5 ⊢
        unfold maxLen at h42 h52
        clear hr
        go_wp2_with fail
        go_loopw [9] (fun i wr2 => ∃ k : Nat, k ≤ r ∧ i = .int .i64 k ∧ Below w5.heap.size w5 wr2) (fun i _ => r - (intOf i).toNat)
        case atStart => exact ⟨0, Nat.zero_le _, rfl, Below.refl _ _⟩
        case round =>
          obtain ⟨k2, hk2, rfl, hb2⟩ := hrel
          have HBR : Hid (Below w5.heap.size w5 wr) := hb2
          by_cases hkr : k2 < r
          · obtain ⟨⟨x, y⟩, hxy, -⟩ := get_some (busyL l) k2 (by rw [HR.out]; exact hkr)
            obtain ⟨g4, rfl, hc4⟩ := HB5.out.2.1.at (by rw [HR.out]; omega)
            obtain ⟨g5, rfl, hc5⟩ := HB5.out.2.2.at (by rw [HR.out]; omega)
            have d1 := cell_later hb2 (hc4 k2 x y hxy).1
            have d2 := cell_later hb2 (hc4 k2 x y hxy).2
            have d3 := cell_later hb2 (hc5 k2 x y hxy).1
            have d4 := cell_later hb2 (hc5 k2 x y hxy).2
            have q1 := Tryd.neqArr2
            have g1 := fun (w : World) op x y xs ys => run_eqGuard_agg (P := Tryd.prog) w op 31 x y xs ys Tryd.arr2Guard
            clear hc4 hc5 hxy hb2
            go_wp2_with fail
            go_quiet (fail)
            go_wp2_with fail
            go_roundw
            case rel => exact ⟨k2 + 1, by omega, by go_num, below_drewN HBR.out _⟩
            case measure => simp [intOf]; omega
          · have HB6 : Hid (Below w.heap.size w wr) := HB5.out.1.trans (HBR.out.mono HB5.out.1.size)
            clear hb2
            go_wp2_with fail
            refine (HOwnP.out wr HB6.out).mono ?_
            rintro e w7 ⟨a7, k7, rfl, l7, -, -, -, b7⟩
            have HB7 : Hid (Below w.heap.size w w7 ∧ LiesP w7 a7 ps) := ⟨b7, l7⟩
            clear l7 b7
            go_wp2_with fail
            refine (HOwnS.out w7 HB7.out.1).mono ?_
            rintro e w8 ⟨a8, k8, rfl, l8, b8', b8⟩
            have HB8 : Hid (Below w.heap.size w w8 ∧ LiesP w8 a7 ps ∧ LiesS w8 a8 l) := ⟨b8, HB7.out.2.below b8', l8⟩
            have HDel : Hid (Calls Tryd.prog 15 #[.slice a7 m k7, .slice a8 n k8] w8 fun e w' => DelaysEnd ps l ad w8 e w') := by
              have := delays_any a7 k7 ps a8 k8 l w8 ad (HE.out.below b8).c3 HB8.out.2.1 HB8.out.2.2 (by rw [HN.out.1]; omega) (by rw [HN.out.2]; omega) HB2.out.2 HTp.out
              rwa [HN.out.1, HN.out.2] at this
            have HSF : Hid (∀ w' c p, Below w.heap.size w w' → SentFaultIs m l c p → Calls Tryd.prog 17 #[.slice pa m pcap, .slice a n cap] w' fun e w'' => e = .returned (.agg #[.int .i64 c, .int .i64 p]) ∧ Below w'.heap.size w' w'') := fun w' c p hb h => by
              have := sentFault_any pa m pcap a cap l w' (HL.out.1.below hb) (by rw [HN.out.1]; omega) (by omega) c p h
              rwa [HN.out.1] at this
            clear l8 b8' b8
            go_wp2_with fail
            refine HDel.out.mono ?_
            rintro e w9 ⟨hb9, ⟨D, rfl, hdel, hnam⟩ | ⟨j, x, F, hj, hjn, hjx, rfl, f0, f1⟩⟩
            · rw [HN.out.2] at hnam
              rw [HN.out.1] at hdel ⊢
              have HB9 : Hid (Below w.heap.size w w9 ∧ DelAt w9 D n ps l n ∧ (∀ (i : Nat) x, l[i]? = some x → named m x = true)) := ⟨HB8.out.1.trans (hb9.mono HB8.out.1.size), hdel, hnam⟩
              clear hb9 hdel hnam
              go_wp2_with fail
              refine (HSF.out w9 0 (-1) HB9.out.1 (.inr ⟨HB9.out.2.2, rfl, rfl⟩)).mono ?_
              rintro e wA ⟨rfl, hbA⟩
              have HBA : Hid (Below w.heap.size w (wA.alloc (.cells #[.int .i64 0, .int .i64 (-1)] 39)) ∧ DelAt (wA.alloc (.cells #[.int .i64 0, .int .i64 (-1)] 39)) D n ps l n) := ⟨(HB9.out.1.trans (hbA.mono HB9.out.1.size)).alloc (Nat.le_trans HB9.out.1.size hbA.size) _, (HB9.out.2.1.later hbA).later ((Below.refl _ _).alloc (Nat.le_refl _) _)⟩
              clear hbA
              go_wp2_with fail
              go_loopw [13] (fun i wr3 => ∃ k : Nat, k ≤ n ∧ i = .int .i64 k ∧ Below (wA.alloc (.cells #[.int .i64 0, .int .i64 (-1)] 39)).heap.size (wA.alloc (.cells #[.int .i64 0, .int .i64 (-1)] 39)) wr3) (fun i _ => n - (intOf i).toNat)
              case atStart => exact ⟨0, Nat.zero_le _, rfl, Below.refl _ _⟩
              case round =>
                obtain ⟨k3', hk3, rfl, hb3⟩ := hrel
                have HB3r : Hid (Below (wA.alloc (.cells #[.int .i64 0, .int .i64 (-1)] 39)).heap.size (wA.alloc (.cells #[.int .i64 0, .int .i64 (-1)] 39)) wr) := hb3
                have HBw : Hid (Below w.heap.size w wr) := HBA.out.1.trans (hb3.mono HBA.out.1.size)
                by_cases hkn : k3' < n
                · obtain ⟨x, hx, -⟩ := get_some l k3' (by rw [HN.out.1]; exact hkn)
                  obtain ⟨b, off, rfl, -, hc⟩ := HL.out.1.place (by rw [HN.out.1]; omega)
                  obtain ⟨s1, s2⟩ := named_true (HB9.out.2.2 k3' x hx)
                  obtain ⟨q, hq⟩ : ∃ q : Nat, x.num = q := ⟨x.num.toNat, by omega⟩
                  have hqm : q < m := by omega
                  obtain ⟨p, hp, -⟩ := get_some ps q (by rw [HN.out.2]; exact hqm)
                  obtain ⟨b2, o2, rfl, -, hc2⟩ := HP.out.1.place (by rw [HN.out.2]; omega)
                  obtain ⟨t1, t2⟩ := HTp.out q p hp
                  obtain ⟨-, -, t3, t4⟩ := tame_true (HB2.out.2 k3' x hx)
                  have c1 : wr.cell? ⟨b, off + k3' * 3, none⟩ = some (.int .i64 q) := by rw [← hq]; exact cell_later HBw.out (hc k3' _ hx).1
                  have c3 : wr.cell? ⟨b, off + k3' * 3 + 2, none⟩ = some (.int .i64 x.fin) := cell_later HBw.out (hc k3' _ hx).2.2
                  have c4 : wr.cell? ⟨b2, o2 + q * 3 + 2, none⟩ = some (.int .i64 p.tick) := cell_later HBw.out (hc2 q _ hp).2.2
                  have c5 : wr.cell? ⟨D, k3', none⟩ = some (.int .i64 (x.fin - p.tick)) := by
                    have := cell_later hb3 (HBA.out.2.cell k3' x (by omega) hx)
                    unfold delayOf at this
                    rwa [hq, Int.toNat_natCast, tickOf_get hp] at this
                  have hw : IntKind.i64.wrap (x.fin - p.tick) = x.fin - p.tick := IntWalk.i64_in _ (by omega)
                  clear hc hc2 hp hx hq s1 s2 hb3
                  generalize x.fin = fn at *
                  generalize p.tick = tk at *
                  go_wp2_with fail
                  go_quiet (fail)
                  go_wp2_with fail
                  go_roundw
                  case rel => exact ⟨k3' + 1, by omega, by go_num, below_drewN HB3r.out _⟩
                  case measure => simp [intOf]; omega
                · clear hb3
                  go_wp2_with fail
                  go_ret
                  exact ⟨rfl, HBw.out⟩
            · rw [HN.out.2] at hjn hjx
              have HB9 : Hid (Below w.heap.size w w9 ∧ w9.cell? ⟨F, 0, none⟩ = some (.int .i64 j) ∧ w9.cell? ⟨F, 1, none⟩ = some (.iface 120 (.pointer (some (ad 3))))) := ⟨HB8.out.1.trans (hb9.mono HB8.out.1.size), f0, f1⟩
              have HFt : Hid (SentFaultIs m l 4 j) := .inl ⟨j, x, hj, hjn, hjx, rfl, rfl⟩
              clear hb9 hj hjn hjx f0 f1
              go_wp2_with fail
              refine (HSF.out w9 4 j HB9.out.1 HFt.out).mono ?_
              rintro e wA ⟨rfl, hbA⟩
              have HBA : Hid (Below w.heap.size w (wA.alloc (.cells #[.int .i64 4, .int .i64 j] 39)) ∧ Below w9.heap.size w9 (wA.alloc (.cells #[.int .i64 4, .int .i64 j] 39))) := ⟨(HB9.out.1.trans (hbA.mono HB9.out.1.size)).alloc (Nat.le_trans HB9.out.1.size hbA.size) _, hbA.alloc hbA.size _⟩
              have HCode : Hid (CodeIs (wA.alloc (.cells #[.int .i64 4, .int .i64 j] 39)) (.iface 63 (.pointer (some ⟨F, 0, none⟩))) 4 j) := codeIs_fault (HE.out.below HBA.out.1) 3 (by decide) j F (cell_later HBA.out.2 HB9.out.2.1) (cell_later HBA.out.2 HB9.out.2.2)
              clear hbA
              go_wp2_with fail
              refine (faulted_yes _ 4 j _ HCode.out).mono ?_
              rintro e wB ⟨rfl, hbB⟩
              have HBB : Hid (Below w.heap.size w wB) := HBA.out.1.trans (hbB.mono HBA.out.1.size)
              clear hbB
              go_wp2_with fail
              go_ret
              exact ⟨rfl, HBB.out⟩
  · have HB2 : Hid (Below w.heap.size w w2) := HB1.out.trans (hb2.mono HB1.out.size)
    clear hb2
    go_wp2_with fail
    go_ret
    exact ⟨rfl, HB2.out⟩
end Go.Proofs.YtcldgpbimaoliabDoor
