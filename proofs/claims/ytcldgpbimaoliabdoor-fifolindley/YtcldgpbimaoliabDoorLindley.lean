/- FifoLindley: its ways. -/
import Derived.Test.YtcldgpbimaoliabDoorSends
import Derived.Test.YtcldgpbimaoliabDoorFitPkts
namespace Go.Proofs.YtcldgpbimaoliabDoor
open Go.RowKit

/-- Run of what is not right: an error, and nothing was sent. -/
theorem fifoRun_bad (a : Option Addr) (cap : Nat) (ps : List Pk) (per : Int) (w : World) (ad : Nat → Addr) (he : ErrsBO w ad) (hl : LiesP w a ps) (hcap : ps.length ≤ cap) (hm : cap ≤ maxLen) (hno : ¬ (OkPks ps ∧ 1 ≤ per ∧ per ≤ 1000)) :
    Calls Tryd.prog 20 #[.slice a ps.length cap, .int .i64 per] w fun e w' => ∃ ty v, e = .returned (.tuple #[.slice none 0 0, .iface ty v]) ∧ Below w.heap.size w w' := by
  refine fifoRun_err (R := fun _ _ w' => Below w.heap.size w w') a ps.length cap per w ?_
  rcases pks_split ps with ho | ho | ⟨h300, j, p, k, hj, hg, hbad⟩
  · refine (linkCheck_per a cap ps per w ad he hl ho ?_).mono ?_
    · rcases Int.lt_or_le per 1 with h | h
      · exact .inl h
      · refine .inr (Int.lt_of_not_ge fun h' => hno ⟨ho, h, h'⟩)
    · rintro e w' ⟨rfl, hb⟩
      exact ⟨_, _, rfl, hb⟩
  · refine linkCheck_err (R := fun _ _ w' => Below w.heap.size w w') a ps.length cap per w ((pcheck_long a ps.length cap w ad he (Nat.le_trans hcap hm) ho).mono ?_)
    rintro e w' ⟨rfl, rfl⟩
    exact ⟨_, _, rfl, Below.refl _ _⟩
  · refine linkCheck_err (R := fun _ _ w' => Below w.heap.size w w') a ps.length cap per w ((pcheck_bad a cap ps w ad he hl h300 j p hj hg k hbad).mono ?_)
    rintro e w' ⟨hb, B, rfl, -⟩
    exact ⟨_, _, rfl, hb⟩

set_option maxRecDepth 100000 in
set_option maxHeartbeats 1000000 in
theorem lindley_many (pa : Option Addr) (n cap : Nat) (per : Int) (w : World) (h1 : ¬ (n : Int) ≤ 100) (h2 : n ≠ 301) :
    Calls Tryd.prog 4 #[.slice pa n cap, .int .i64 per] w fun e w' => e = .returned (.bool true) ∧ Below w.heap.size w w' := by
  have HF : Hid (∀ w', Calls Tryd.prog 19 #[.slice pa n cap, .int .i64 100] w' fun e w'' => e = .returned (.bool false) ∧ w'' = w') := fun w' => fitPkts_no pa n cap 100 w' h1 h2
  clear h1 h2
  go_enter Tryd.func4, Tryd.ntmps4
  go_wp2_with fail
  refine (sends_any _).mono ?_
  rintro e w1 ⟨rfl, hb⟩
  have HB : Hid (Below w.heap.size w w1) := hb
  clear hb
  go_wp2_with fail
  refine (HF.out _).mono ?_
  rintro e w2 ⟨rfl, rfl⟩
  go_wp2_with fail
  go_ret
  exact ⟨rfl, HB.out⟩

set_option maxRecDepth 100000 in
set_option maxHeartbeats 1000000 in
theorem lindley_bad (pa : Option Addr) (cap : Nat) (ps : List Pk) (per : Int) (w : World) (ad : Nat → Addr) (he : ErrsBO w ad) (hp : LiesP w pa ps) (hpa : pa = none → ps = [] ∧ cap = 0) (hm : ps.length ≤ maxLen) (hn : ps.length ≤ 100 ∨ ps.length = 301) (hno : ¬ (OkPks ps ∧ 1 ≤ per ∧ per ≤ 1000)) :
    Calls Tryd.prog 4 #[.slice pa ps.length cap, .int .i64 per] w fun e w' => e = .returned (.bool true) ∧ Below w.heap.size w w' := by
  have HE : Hid (ErrsBO w ad) := he
  have HP : Hid (LiesP w pa ps ∧ (pa = none → ps = [] ∧ cap = 0)) := ⟨hp, hpa⟩
  have HNo : Hid (¬ (OkPks ps ∧ 1 ≤ per ∧ per ≤ 1000)) := hno
  have HF : Hid (∀ w', Calls Tryd.prog 19 #[.slice pa ps.length cap, .int .i64 100] w' fun e w'' => e = .returned (.bool true) ∧ w'' = w') := fun w' => fitPkts_yes pa ps.length cap 100 w' hm (by omega)
  clear he hp hpa hno
  go_enter Tryd.func4, Tryd.ntmps4
  go_wp2_with fail
  refine (sends_any _).mono ?_
  rintro e w1 ⟨rfl, hb⟩
  have HB1 : Hid (Below w.heap.size w w1) := hb
  clear hb
  go_wp2_with fail
  refine (HF.out _).mono ?_
  rintro e w1' ⟨rfl, rfl⟩
  go_wp2_with fail
  refine (ownPackets_from pa cap ps w _ HB1.out HP.out.1 (by omega) HP.out.2).mono ?_
  rintro e w3 ⟨a3, k3, rfl, l3, g3, m3, b3, B3⟩
  have HB3 : Hid (Below w.heap.size w w3) := B3
  have HL3 : Hid (LiesP w3 a3 ps ∧ ps.length ≤ k3 ∧ k3 ≤ maxLen) := ⟨l3, g3, m3⟩
  clear l3 g3 m3 b3 B3
  go_wp2_with fail
  refine (fifoRun_bad a3 k3 ps per w3 ad (HE.out.below HB3.out) HL3.out.1 HL3.out.2.1 HL3.out.2.2 HNo.out).mono ?_
  rintro e w4 ⟨ty, v, rfl, b4⟩
  have HB4 : Hid (Below w.heap.size w w4) := HB3.out.trans (b4.mono HB3.out.size)
  clear b4
  go_wp2_with fail
  go_ret
  exact ⟨rfl, HB4.out⟩

set_option maxRecDepth 100000 in
set_option maxHeartbeats 4000000 in
theorem lindley_main (pa : Option Addr) (cap : Nat) (ps : List Pk) (per : Int) (w : World) (hp : LiesP w pa ps) (hpa : pa = none → ps = [] ∧ cap = 0) (hm : ps.length ≤ maxLen) (hn : ps.length ≤ 100) (ho : OkPks ps) (h1 : 1 ≤ per) (h2 : per ≤ 1000) :
    Calls Tryd.prog 4 #[.slice pa ps.length cap, .int .i64 per] w fun e w' => e = .returned (.bool true) ∧ Below w.heap.size w w' := by
  have HP : Hid (LiesP w pa ps ∧ (pa = none → ps = [] ∧ cap = 0) ∧ OkPks ps) := ⟨hp, hpa, ho⟩
  have HF : Hid (∀ w', Calls Tryd.prog 19 #[.slice pa ps.length cap, .int .i64 100] w' fun e w'' => e = .returned (.bool true) ∧ w'' = w') := fun w' => fitPkts_yes pa ps.length cap 100 w' hm (by omega)
  clear hp hpa ho hm
  obtain ⟨n, hnn⟩ : ∃ n, ps.length = n := ⟨_, rfl⟩
  have HN : Hid (ps.length = n) := hnn
  have HOwn : Hid (∀ w', Below w.heap.size w w' → Calls Tryd.prog 16 #[.slice pa n cap] w' fun e w'' => ∃ a' cap', e = .returned (.slice a' n cap') ∧ LiesP w'' a' ps ∧ Below w.heap.size w w'') := fun w' hb => by
    have := ownPackets_from pa cap ps w w' hb HP.out.1 (by omega) HP.out.2.1
    rw [hnn] at this
    refine this.mono ?_
    rintro e w'' ⟨a', k', rfl, l1, -, -, -, B1⟩
    exact ⟨a', k', rfl, l1, B1⟩
  have HRun : Hid (∀ w' a' cap', LiesP w' a' ps → Calls Tryd.prog 20 #[.slice a' n cap', .int .i64 per] w' fun e w'' => ∃ v, e = .returned (.tuple #[v, .nilIface]) ∧ OwnS w'' w'.heap.size v (lindAll per ps n) ∧ Below w'.heap.size w' w'') := fun w' a' cap' hl => by
    have := fifoRun_ok a' cap' ps per w' hl HP.out.2.2 h1 h2
    rwa [hnn] at this
  rw [hnn] at hn HF ⊢
  clear hnn
  go_enter Tryd.func4, Tryd.ntmps4
  go_wp2_with fail
  refine (sends_any _).mono ?_
  rintro e w1 ⟨rfl, hb⟩
  have HB1 : Hid (Below w.heap.size w w1) := hb
  clear hb
  go_wp2_with fail
  refine (HF.out _).mono ?_
  rintro e w1' ⟨rfl, rfl⟩
  go_wp2_with fail
  refine (HOwn.out _ HB1.out).mono ?_
  rintro e w3 ⟨a3, k3, rfl, l3, B3⟩
  have HB3 : Hid (Below w.heap.size w w3 ∧ LiesP w3 a3 ps) := ⟨B3, l3⟩
  clear l3 B3
  go_wp2_with fail
  refine (HRun.out w3 a3 k3 HB3.out.2).mono ?_
  rintro e w4 ⟨v, rfl, o4, b4⟩
  obtain ⟨a4, k4, rfl, h41, h42, h43, -, -⟩ := o4.open
  rw [lindAll_length] at h41 ⊢
  unfold maxLen at h42
  have HB4 : Hid (Below w.heap.size w w4 ∧ LiesS w4 a4 (lindAll per ps n)) := ⟨HB3.out.1.trans (b4.mono HB3.out.1.size), h43⟩
  clear b4 h43 o4
  go_wp2_with fail
  go_loopw [8, 9] (fun t i wr => ∃ k : Nat, k ≤ n ∧ i = .int .i64 k ∧ t = .int .i64 (lto per ps k) ∧ Below w.heap.size w wr ∧ Below w4.heap.size w4 wr) (fun _ i _ => n - (intOf i).toNat)
  case atStart => exact ⟨0, Nat.zero_le _, rfl, rfl, HB4.out.1, Below.refl _ _⟩
  case round =>
    obtain ⟨k, hk, rfl, rfl, hb, hb4⟩ := hrel
    have HBR : Hid (Below w.heap.size w wr ∧ Below w4.heap.size w4 wr) := ⟨hb, hb4⟩
    by_cases hkn : k < n
    · obtain ⟨p, hp, -⟩ := get_some ps k (by rw [HN.out]; exact hkn)
      obtain ⟨b1, o1, rfl, -, hc1⟩ := HP.out.1.place (by rw [HN.out]; omega)
      obtain ⟨b2, o2, rfl, -, hc2⟩ := HB4.out.2.place (by rw [lindAll_length]; omega)
      have hg := lindAll_get (per := per) (ps := ps) hkn
      have c2 : wr.cell? ⟨b1, o1 + k * 3 + 1, none⟩ = some (.int .i64 p.size) := cell_later hb (hc1 k _ hp).2.1
      have c3 : wr.cell? ⟨b1, o1 + k * 3 + 2, none⟩ = some (.int .i64 p.tick) := cell_later hb (hc1 k _ hp).2.2
      have d1 := cell_later hb4 (hc2 k _ hg).1
      have d2 := cell_later hb4 (hc2 k _ hg).2.1
      have d3 := cell_later hb4 (hc2 k _ hg).2.2
      simp only [lind, lto, tickOf_get hp, bytesOf_get hp] at d1 d2 d3
      obtain ⟨L, hL⟩ : ∃ L, lto per ps k = L := ⟨_, rfl⟩
      obtain ⟨y, hy⟩ : ∃ y, p.size = y := ⟨_, rfl⟩
      obtain ⟨z, hz⟩ : ∃ z, p.tick = z := ⟨_, rfl⟩
      obtain ⟨m, hmm⟩ : ∃ m, per * y = m := ⟨_, rfl⟩
      obtain ⟨-, -, s1, s2, t1, t2⟩ := okPk_true (HP.out.2.2.each _ _ hp).1
      have hLin := lto_in HP.out.2.2 h1 h2 k (by rw [HN.out]; exact hk)
      have HNext : Hid (lto per ps (k + 1) = max L z + m) := by
        show _ = _
        simp only [lto, tickOf_get hp, bytesOf_get hp, hL, hy, hz, hmm]
      rw [hL] at hLin d2 d3 ⊢
      rw [hy] at c2 s1 s2 d3
      rw [hz] at c3 t1 t2 d2 d3
      have a1 : 0 ≤ per * y := Int.mul_nonneg (by omega) (by omega)
      have a2 : per * y ≤ 1000 * 1500 := Int.mul_le_mul (by omega) s2 (by omega) (by omega)
      rw [hmm] at d3 a1 a2
      have hw : IntKind.i64.wrap (per * y) = m := by rw [hmm]; exact IntWalk.i64_in _ (by omega)
      have q1 := Tryd.neqSent
      have g1 := fun (w : World) op x y xs ys => run_eqGuard_agg (P := Tryd.prog) w op 43 x y xs ys Tryd.sentGuard
      clear hc1 hc2 hp hg hb hb4 hL hy hz hmm s1 s2
      by_cases hzl : z > L
      · rw [show max L z = z by omega] at d2 d3
        have HN2 : Hid (lto per ps (k + 1) = z + m) := by
          have := HNext.out
          rwa [show max L z = z by omega] at this
        have he := eqS_refl (k : Int) z (z + m)
        have hw2 : IntKind.i64.wrap (z + m) = z + m := IntWalk.i64_in _ (by omega)
        go_wp2_with fail
        go_quiet (fail)
        go_wp2_with fail
        go_roundw
        case rel => exact ⟨k + 1, by omega, by go_num, by rw [HN2.out], below_drewN HBR.out.1 _, below_drewN HBR.out.2 _⟩
        case measure => simp [intOf]; omega
      · rw [show max L z = L by omega] at d2 d3
        have HN2 : Hid (lto per ps (k + 1) = L + m) := by
          have := HNext.out
          rwa [show max L z = L by omega] at this
        have he := eqS_refl (k : Int) L (L + m)
        have hw2 : IntKind.i64.wrap (L + m) = L + m := IntWalk.i64_in _ (by omega)
        go_wp2_with fail
        go_quiet (fail)
        go_wp2_with fail
        go_roundw
        case rel => exact ⟨k + 1, by omega, by go_num, by rw [HN2.out], below_drewN HBR.out.1 _, below_drewN HBR.out.2 _⟩
        case measure => simp [intOf]; omega
    · clear hb hb4
      go_wp2_with fail
      go_ret
      exact ⟨rfl, HBR.out.1⟩
end Go.Proofs.YtcldgpbimaoliabDoor
