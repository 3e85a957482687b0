/- RankDues: its long ways. -/
import Derived.Test.YtcmgmcngidndcabDoorCDues1
import Derived.Deep.LoopGhost
namespace Go.Proofs.YtcmgmcngidndcabDoor
open Go.RowKit

theorem Tryd.infoBoolD : (Tryd.prog.info? 4).map (fun i => (i.zero, i.size, i.bytes)) = some (some (.bool false), 1, 1) := by kernel_rfl
theorem sched_tameD {per : Int} {ps : List Pk} {keys : List Int} {l : List Sn} (ho : OkPks ps) (h1 : 1 ≤ per) (h2 : per ≤ 1000) (h : Sched per ps keys l) (hl : l.length ≤ 300) : tameAll l ∧ ∀ (i : Nat) x, l[i]? = some x → named ps.length x = true := by
  refine ⟨fun i x hx => ?_, fun i x hx => ?_⟩
  · have := lt_of_get hx
    obtain ⟨-, b1, b2⟩ := sched_in ho h1 h2 h hx
    exact decide_eq_true (by omega)
  · obtain ⟨⟨b, hb, e, -⟩, -, -⟩ := sched_in ho h1 h2 h hx
    exact decide_eq_true (by omega)
theorem row_tame {per : Int} {ps : List Pk} {T : Int} {l : List Sn} (ho : OkPks ps) (h1 : 1 ≤ per) (h2 : per ≤ 1000) (hT : 0 ≤ T ∧ T ≤ 1099511627776) (hall : ∀ i, i < ps.length → tickOf ps i = T) (h : InRow per ps T l) (hl : l.length ≤ 300) : tameAll l ∧ ∀ (i : Nat) x, l[i]? = some x → named ps.length x = true := by
  refine ⟨fun i x hx => ?_, fun i x hx => ?_⟩
  · have := lt_of_get hx
    obtain ⟨-, b1, b2⟩ := row_in ho h1 h2 hT.1 hT.2 hall h hx
    exact decide_eq_true (by omega)
  · obtain ⟨⟨b, hb, e, -⟩, -, -⟩ := row_in ho h1 h2 hT.1 hT.2 hall h hx
    exact decide_eq_true (by omega)

set_option maxRecDepth 100000 in
set_option maxHeartbeats 1500000 in
theorem dues_none (pa : Option Addr) (pcap : Nat) (ps : List Pk) (per : Int) (na : Option Addr) (ncap : Nat) (ns : List Int) (oa : Option Addr) (ocap : Nat) (ord : List Int) (w : World) (ad : Nat → Addr) (he3 : w.cell? ⟨0, 0, none⟩ = some (.iface 157 (.pointer (some (ad 3))))) (hp : LiesP w pa ps) (hpa : pa = none → ps = [] ∧ pcap = 0) (hn : LiesN w na ns) (hna : na = none → ns = [] ∧ ncap = 0) (hord : LiesN w oa ord) (hm : ps.length ≤ 60) (hq : ord.length ≤ 100) (ho : OkPks ps) (h1 : 1 ≤ per) (h2 : per ≤ 1000) (hk : NumsOk 0 1099511627776 ns) (hm0 : ps.length = 0) :
    Calls Tryd.prog 7 #[.slice pa ps.length pcap, .int .i64 per, .slice na ns.length ncap, .slice oa ord.length ocap] w fun e w' => e = .returned (.bool true) ∧ Below w.heap.size w w' := by
  obtain ⟨i0, hi, hz0, hz1, hz2⟩ := info_parts Tryd.infoInt
  obtain ⟨j0, ji, jz0, jz1, jz2⟩ := info_parts Tryd.infoSent
  have HP : Hid (LiesP w pa ps ∧ (pa = none → ps = [] ∧ pcap = 0) ∧ OkPks ps) := ⟨hp, hpa, ho⟩
  have HN : Hid (LiesN w na ns ∧ (na = none → ns = [] ∧ ncap = 0) ∧ ns.length = 8) := ⟨hn, hna, hk.len⟩
  have HO : Hid (LiesN w oa ord) := hord
  have HRun : Hid (∀ W a3 k3 a5 k5, LiesP W a3 ps → LiesN W a5 ns → Calls Tryd.prog 34 #[.slice a3 ps.length k3, .int .i64 per, .slice a5 ns.length k5] W fun e w' => ∃ v, e = .returned (.tuple #[v, .nilIface]) ∧ SentBy per ps (dueKeys ps ns) W.heap.size W v w') := fun W a3 k3 a5 k5 g1 g2 => rankDue_ok a3 k3 ps per a5 k5 ns W g1 g2 ho h1 h2 hk
  have HLt : Hid (∀ W a3 k3 a4 k4 l, Below w.heap.size w W → LiesP W a3 ps → LiesS W a4 l → l.length ≤ 300 → tameAll l → (∀ (i : Nat) x, l[i]? = some x → named ps.length x = true) → Calls Tryd.prog 29 #[.slice a3 ps.length k3, .slice a4 l.length k4, .slice na ns.length ncap] W fun e w' => e = .returned (.tuple #[.int .i64 (lateAll ps ns l), .nilIface]) ∧ Below W.heap.size W w') := fun W a3 k3 a4 k4 l hb g1 g2 g4 g5 g6 => by
    refine (late_any a3 k3 ps a4 k4 l na ncap ns W ad (cell_later hb he3) g1 g2 (hn.below hb) ho hk g4 g5).mono ?_
    rintro e w' ⟨hb, ⟨rfl, -⟩ | ⟨j, x, F, hx, -, hbad, -⟩⟩
    · exact ⟨rfl, hb⟩
    · rw [g6 j x hx] at hbad; cases hbad
  have hr8 := hk.len
  clear hp hpa hn hna ho hk hord he3
  obtain ⟨m, hmm⟩ : ∃ m, ps.length = m := ⟨_, rfl⟩
  obtain ⟨q, hqq⟩ : ∃ q, ord.length = q := ⟨_, rfl⟩
  have HM : Hid (ps.length = m ∧ ord.length = q) := ⟨hmm, hqq⟩
  have HOwnP : Hid (∀ w', Below w.heap.size w w' → Calls Tryd.prog 21 #[.slice pa m pcap] w' fun e w'' => ∃ a' cap', e = .returned (.slice a' m cap') ∧ LiesP w'' a' ps ∧ m ≤ cap' ∧ cap' ≤ maxLen ∧ Below w'.heap.size w' w'' ∧ Below w.heap.size w w'') := fun w' hb => by
    have := ownPackets_from pa pcap ps w w' hb HP.out.1 (by omega) HP.out.2.1
    rwa [hmm] at this
  rw [hmm] at hm HRun ⊢
  rw [hqq] at hq ⊢
  rw [hr8] at HRun HLt ⊢
  rw [hmm] at hm0
  have HM0 : Hid (m = 0) := hm0
  clear hm0
  clear hmm hqq hr8
  have hm' : ¬ 60 < m := by omega
  have hq' : ¬ 100 < q := by omega
  have hmk : ∀ w' : World, (Instr.makeSlice 59 (.int .i64 m) (.int .i64 m)).run Tryd.prog w' = .ok (.slice (some ⟨w'.heap.size, 0, none⟩) m m) (w'.alloc (.cells (madeCells #[.bool false] m) 4)) := fun w' => by
    obtain ⟨i0, hi, hz0, hz1, hz2⟩ := info_parts Tryd.infoBoolD
    have := run_make (P := Tryd.prog) w' 59 4 i0 (.bool false) Tryd.underlying59 hi hz0 .i64 .i64 m m (by omega) (by omega) (by rw [hz2]; omega) (by omega)
    simpa [hz1, Value.cells] using this
  go_enter Tryd.func7, Tryd.ntmps7
  go_wp2_with fail
  refine (sends_any _).mono ?_
  rintro e w1 ⟨rfl, hb⟩
  have HB1 : Hid (Below w.heap.size w w1) := hb
  clear hb
  go_wp2_with fail
  refine (HOwnP.out _ HB1.out).mono ?_
  rintro e w3 ⟨a3, k3, rfl, l3, g3, m3, b3, B3⟩
  have HB3 : Hid (Below w.heap.size w w3 ∧ LiesP w3 a3 ps) := ⟨B3, l3⟩
  have HN3 : Hid (LiesN w3 na ns) := HN.out.1.below B3
  clear l3 g3 m3 b3 B3
  go_wp2_with (at_builtin; go_must (refine wpList_append_ints _ rfl _ _ 32 rfl 3 i0 (.int .i64 0) Tryd.underlying32 hi hz0 hz1 hz2 rfl na ncap 8 ns HN.out.2.2 rfl rfl HN3.out HN.out.2.1 (by omega) ?_; rintro a5 k5 w5 h5; have HB5 : Hid (Below w.heap.size w w5 ∧ LiesP w5 a3 ps ∧ LiesN w5 a5 ns) := ⟨HB3.out.1.trans (h5.2.2.2.mono HB3.out.1.size), HB3.out.2.below h5.2.2.2, h5.1⟩; clear h5))
  refine (HRun.out w5 a3 k3 a5 k5 HB5.out.2.1 HB5.out.2.2).mono ?_
  rintro e w6 ⟨v, rfl, l, hown, hsch, hlen, b6⟩
  obtain ⟨a6, k6, rfl, g61, g62, hl6, -, -⟩ := hown.open
  have HB6 : Hid (Below w.heap.size w w6 ∧ LiesS w6 a6 l ∧ Sched per ps (dueKeys ps ns) l) := ⟨HB5.out.1.trans (b6.mono HB5.out.1.size), hl6, hsch⟩
  rw [HM.out.1] at hlen
  have HL : Hid (l.length = m) := hlen
  rw [hlen] at g61 ⊢
  unfold maxLen at g62
  clear b6 hown hl6 hsch hlen
  go_wp2_with fail
  obtain rfl := HM0.out
  have HLn : Hid (l = []) := List.length_eq_zero_iff.1 HL.out
  have HLate0 : Hid (∀ W a3 k3 a4 k4, Below w.heap.size w W → LiesP W a3 ps → Calls Tryd.prog 29 #[.slice a3 0 k3, .slice a4 0 k4, .slice na 8 ncap] W fun e w' => e = .returned (.tuple #[.int .i64 0, .nilIface]) ∧ Below W.heap.size W w') := fun W a3 k3 a4 k4 hb g1 => by
    have h := HLt.out W a3 k3 a4 k4 [] hb g1 (.inl rfl) (by simp) (fun i x hx => by simp at hx) (fun i x hx => by simp at hx)
    rwa [HM.out.1] at h
  go_loopw [13] (fun i wr => i = .int .i64 0 ∧ wr = w6) (fun _ _ => 0)
  case atStart => exact ⟨rfl, rfl⟩
  case round =>
    obtain ⟨rfl, rfl⟩ := hrel
    have HB60 : Hid (Below wr.heap.size wr (wr.alloc (.cells (madeCells #[.bool false] 0) 4))) := (Below.refl _ _).alloc (Nat.le_refl _) _
    have hmk0 : ∀ w' : World, (Instr.makeSlice 59 (.int .i64 0) (.int .i64 0)).run Tryd.prog w' = .ok (.slice (some ⟨w'.heap.size, 0, none⟩) 0 0) (w'.alloc (.cells (madeCells #[.bool false] 0) 4)) := hmk
    clear hmk
    go_wp2_with fail
    obtain ⟨W7, hW7⟩ : ∃ W, W = wr := ⟨_, rfl⟩
    subst hW7
    go_loopg [14, 17] q (fun gk v i wr => ∃ k : Nat, gk + k = q ∧ i = .int .i64 k ∧ v = .slice none 0 0 ∧ Below W7.heap.size W7 wr)
    case atStart => exact ⟨0, by omega, rfl, rfl, HB60.out⟩
    case round =>
      obtain ⟨k, hgk, rfl, rfl, hw⟩ := hrel
      have HWr : Hid (Below W7.heap.size W7 wr) := hw
      have HWw : Hid (Below w.heap.size w wr) := HB6.out.1.trans (HWr.out.mono HB6.out.1.size)
      clear hw
      by_cases hkq : k < q
      · obtain ⟨z1, hz1', -⟩ := get_some ord k (by rw [HM.out.2]; exact hkq)
        obtain ⟨bo, oo, rfl, -, hco⟩ := HO.out.place (by rw [HM.out.2]; omega)
        have d1 : wr.cell? ⟨bo, oo + k, none⟩ = some (.int .i64 z1) := cell_later HWw.out (hco k z1 hz1')
        clear hco hz1'
        by_cases hneg : z1 < 0
        · go_wp2_with fail
          go_roundg (gk - 1)
          case measure => omega
          case rel => exact ⟨k + 1, by omega, by go_num, rfl, HWr.out⟩
        · have hbig : (0 : Int) ≤ z1 := by omega
          go_wp2_with fail
          go_roundg (gk - 1)
          case measure => omega
          case rel => exact ⟨k + 1, by omega, by go_num, rfl, HWr.out⟩
      · obtain rfl : k = q := by omega
        go_wp2_with fail
        refine (HOwnP.out _ HWw.out).mono ?_
        rintro e w20 ⟨a20, k20, rfl, l20, g20, m20, b20, B20⟩
        have HX20 : Hid (Below w.heap.size w w20 ∧ LiesP w20 a20 ps) := ⟨B20, l20⟩
        clear l20 g20 m20 b20 B20
        go_wp2_with fail
        refine (HLate0.out _ a20 k20 a6 k6 HX20.out.1 HX20.out.2).mono ?_
        rintro e w21 ⟨rfl, b21⟩
        have HX21 : Hid (Below w.heap.size w w21) := HX20.out.1.trans (b21.mono HX20.out.1.size)
        clear b21
        go_wp2_with fail
        refine (HOwnP.out _ HX21.out).mono ?_
        rintro e w22 ⟨a22, k22, rfl, l22, g22, m22, b22, B22⟩
        have HX22 : Hid (Below w.heap.size w w22 ∧ LiesP w22 a22 ps) := ⟨B22, l22⟩
        clear l22 g22 m22 b22 B22
        go_wp2_with fail
        refine (HLate0.out _ a22 k22 none 0 HX22.out.1 HX22.out.2).mono ?_
        rintro e w23 ⟨rfl, b23⟩
        have HX23 : Hid (Below w.heap.size w w23) := HX22.out.1.trans (b23.mono HX22.out.1.size)
        clear b23
        go_wp2_with fail
        go_ret
        exact ⟨rfl, HX23.out⟩

end Go.Proofs.YtcmgmcngidndcabDoor
