/- RankWaits: its long way. -/
import Derived.Test.YtcmgmcngidndcabDoorCWaits1
import Derived.Deep.LoopGhost
namespace Go.Proofs.YtcmgmcngidndcabDoor
open Go.RowKit

theorem Tryd.infoBool' : (Tryd.prog.info? 4).map (fun i => (i.zero, i.size, i.bytes)) = some (some (.bool false), 1, 1) := by kernel_rfl

set_option maxRecDepth 100000 in
set_option maxHeartbeats 8000000 in
theorem waits_main (pa : Option Addr) (pcap : Nat) (ps : List Pk) (per : Int) (na : Option Addr) (ncap : Nat) (ns : List Int) (w : World) (hp : LiesP w pa ps) (hpa : pa = none → ps = [] ∧ pcap = 0) (hpc : ps.length ≤ pcap) (hpm : pcap ≤ maxLen) (hn : LiesN w na ns) (hna : na = none → ns = [] ∧ ncap = 0) (hm : ps.length ≤ 80) (ho : OkPks ps) (h1 : 1 ≤ per) (h2 : per ≤ 1000) (hk : NumsOk 0 100 ns) :
    Calls Tryd.prog 8 #[.slice pa ps.length pcap, .int .i64 per, .slice na ns.length ncap] w fun e w' => e = .returned (.bool true) ∧ Below w.heap.size w w' := by
  obtain ⟨i0, hi, hz0, hz1, hz2⟩ := info_parts Tryd.infoInt
  have HP : Hid (LiesP w pa ps ∧ (pa = none → ps = [] ∧ pcap = 0) ∧ OkPks ps) := ⟨hp, hpa, ho⟩
  have HN : Hid (LiesN w na ns ∧ (na = none → ns = [] ∧ ncap = 0) ∧ ns.length = 8) := ⟨hn, hna, hk.len⟩
  have HFit : Hid (∀ w', Calls Tryd.prog 24 #[.slice pa ps.length pcap, .int .i64 80] w' fun e w'' => e = .returned (.bool true) ∧ w'' = w') := fun w' => fitPkts_yes pa ps.length pcap 80 w' (Nat.le_trans hpc hpm) (by omega)
  have HRun : Hid (∀ W a3 k3 a5 k5, LiesP W a3 ps → LiesN W a5 ns → Calls Tryd.prog 35 #[.slice a3 ps.length k3, .int .i64 per, .slice a5 ns.length k5] W fun e w' => ∃ v, e = .returned (.tuple #[v, .nilIface]) ∧ SentBy per ps (rankKeys ps ns) W.heap.size W v w') := fun W a3 k3 a5 k5 g1 g2 => rankRun_ok a3 k3 ps per a5 k5 ns W g1 g2 ho h1 h2 hk
  clear hp hpa hpc hpm hn hna ho
  obtain ⟨m, hmm⟩ : ∃ m, ps.length = m := ⟨_, rfl⟩
  have HM : Hid (ps.length = m) := hmm
  have hr8 := hk.len
  clear hk
  have HOwnP : Hid (∀ w', Below w.heap.size w w' → Calls Tryd.prog 21 #[.slice pa m pcap] w' fun e w'' => ∃ a' cap', e = .returned (.slice a' m cap') ∧ LiesP w'' a' ps ∧ m ≤ cap' ∧ cap' ≤ maxLen ∧ Below w'.heap.size w' w'' ∧ Below w.heap.size w w'') := fun w' hb => by
    have := ownPackets_from pa pcap ps w w' hb HP.out.1 (by omega) HP.out.2.1
    rwa [hmm] at this
  rw [hmm] at hm HFit HRun ⊢
  rw [hr8] at HRun ⊢
  clear hmm hr8
  have hmk : ∀ w' : World, (Instr.makeSlice 59 (.int .i64 m) (.int .i64 m)).run Tryd.prog w' = .ok (.slice (some ⟨w'.heap.size, 0, none⟩) m m) (w'.alloc (.cells (madeCells #[.bool false] m) 4)) := fun w' => by
    obtain ⟨i0, hi, hz0, hz1, hz2⟩ := info_parts Tryd.infoBool'
    have := run_make (P := Tryd.prog) w' 59 4 i0 (.bool false) Tryd.underlying59 hi hz0 .i64 .i64 m m (by omega) (by omega) (by rw [hz2]; omega) (by omega)
    simpa [hz1, Value.cells] using this
  go_enter Tryd.func8, Tryd.ntmps8
  go_wp2_with fail
  refine (sends_any _).mono ?_
  rintro e w1 ⟨rfl, hb⟩
  have HB1 : Hid (Below w.heap.size w w1) := hb
  clear hb
  go_wp2_with fail
  refine (HFit.out _).mono ?_
  rintro e w1' ⟨rfl, rfl⟩
  go_wp2_with fail
  refine (HOwnP.out _ HB1.out).mono ?_
  rintro e w3 ⟨a3, k3, rfl, l3, g3, m3, b3, B3⟩
  have HB3 : Hid (Below w.heap.size w w3 ∧ LiesP w3 a3 ps) := ⟨B3, l3⟩
  have HN3 : Hid (LiesN w3 na ns) := HN.out.1.below B3
  clear l3 g3 m3 b3 B3
  go_wp2_with (at_builtin; go_must (refine wpList_append_ints _ rfl _ _ 32 rfl 3 i0 (.int .i64 0) Tryd.underlying32 hi hz0 hz1 hz2 rfl na ncap 8 ns HN.out.2.2 rfl rfl HN3.out HN.out.2.1 (by omega) ?_; rintro a5 k5 w5 h5; have HB5 : Hid (Below w.heap.size w w5 ∧ LiesP w5 a3 ps ∧ LiesN w5 a5 ns) := ⟨HB3.out.1.trans (h5.2.2.2.mono HB3.out.1.size), HB3.out.2.below h5.2.2.2, h5.1⟩; clear h5))
  refine (HRun.out w5 a3 k3 a5 k5 HB5.out.2.1 HB5.out.2.2).mono ?_
  rintro e w6 ⟨v, rfl, l, hown, hsch, hlen, b6⟩
  obtain ⟨a6, k6, rfl, g61, g62, hl6, -, -⟩ := hown.open
  have HB6 : Hid (Below w.heap.size w w6 ∧ LiesS w6 a6 l ∧ Sched per ps (rankKeys ps ns) l) := ⟨HB5.out.1.trans (b6.mono HB5.out.1.size), hl6, hsch⟩
  rw [HM.out] at hlen
  have HL : Hid (l.length = m) := hlen
  rw [hlen] at g61 ⊢
  unfold maxLen at g62
  clear b6 hown hl6 hsch hlen
  have HS0 : Hid (DoneAt (w6.alloc (.cells (madeCells #[.bool false] m) 4)) w6.heap.size m (l.take 0) ∧ Below w6.heap.size w6 (w6.alloc (.cells (madeCells #[.bool false] m) 4))) := ⟨by rw [List.take_zero]; exact done_made w6 m _, (Below.refl _ _).alloc (Nat.le_refl _) _⟩
  go_wp2_with fail
  obtain ⟨g, hg⟩ : ∃ g, w6.heap.size = g := ⟨_, rfl⟩
  have HG : Hid (w6.heap.size = g) := hg
  rw [hg]
  clear hg hmk
  go_loopg [12] m (fun gk i wr => ∃ k : Nat, gk + k = m ∧ i = .int .i64 k ∧ DoneAt wr g m (l.take k) ∧ Below g w6 wr)
  case atStart => exact ⟨0, by omega, rfl, by have := HS0.out.1; rwa [HG.out] at this, by have := HS0.out.2; rwa [HG.out] at this⟩
  case round =>
    obtain ⟨k, hgk, rfl, hdone, hb⟩ := hrel
    obtain ⟨W0, hW0⟩ : ∃ W, W = wr := ⟨_, rfl⟩
    subst hW0
    have HD : Hid (DoneAt W0 g m (l.take k) ∧ Below g w6 W0) := ⟨hdone, hb⟩
    have HBW : Hid (Below w6.heap.size w6 W0) := by have := hb; rwa [← HG.out] at this
    clear hdone hb
    by_cases hkm : k < m
    · obtain ⟨x, hx, -⟩ := get_some l k (by rw [HL.out]; exact hkm)
      obtain ⟨t, b, ht, hbest, rfl⟩ := HB6.out.2.2 k x hx
      have hbm : b < m := by rw [← HM.out]; exact hbest.undone.1
      have HBest : Hid (Best ps (rankKeys ps ns) (l.take k) t b) := hbest
      have HX : Hid (l[k]? = some ⟨b, t, t + per * bytesOf ps b⟩) := hx
      obtain ⟨pb, hpb, -⟩ := get_some ps b (by rw [HM.out]; exact hbm)
      obtain ⟨fb, hfb, hf, hfo⟩ := flow_at HP.out.2.2 hpb
      obtain ⟨rb, hrb, hrbd⟩ := nums_at HN.out.2.2 hfb
      obtain ⟨bs, os, rfl, -, hcs⟩ := HB6.out.2.1.place (by rw [HL.out]; omega)
      obtain ⟨bp, op, rfl, -, hcp⟩ := HP.out.1.place (by rw [HM.out]; omega)
      obtain ⟨bn, on, rfl, -, hcn⟩ := HN.out.1.place (by have := HN.out.2.2; omega)
      have hbw : Below w.heap.size w W0 := HB6.out.1.trans (HBW.out.mono HB6.out.1.size)
      have c1 : W0.cell? ⟨bs, os + k * 3, none⟩ = some (.int .i64 b) := cell_later HBW.out (hcs k _ hx).1
      have c2 : W0.cell? ⟨bs, os + k * 3 + 1, none⟩ = some (.int .i64 t) := cell_later HBW.out (hcs k _ hx).2.1
      have htick : tickOf ps b = pb.tick := tickOf_get hpb
      obtain ⟨tb, htb⟩ : ∃ tb, pb.tick = tb := ⟨_, rfl⟩
      have c3 : W0.cell? ⟨bp, op + b * 3 + 2, none⟩ = some (.int .i64 tb) := by rw [← htb]; exact cell_later hbw (hcp b _ hpb).2.2
      have c4 : W0.cell? ⟨bp, op + b * 3, none⟩ = some (.int .i64 fb) := by rw [← hf]; exact cell_later hbw (hcp b _ hpb).1
      have c5 : W0.cell? ⟨bn, on + fb, none⟩ = some (.int .i64 rb) := cell_later hbw (hcn fb rb hrb)
      have c6 : W0.cell? ⟨g, b, none⟩ = some (.bool false) := by rw [HD.out.1.cell b hbm, (undone_iff.1 hbest.undone).2]
      have s1 : decide ((b : Int) < 0) = false := decide_eq_false (by omega)
      have s2 : decide ((m : Int) ≤ (b : Int)) = false := decide_eq_false (by omega)
      have s3 : decide (t < tb) = false := decide_eq_false (by have := hbest.came; omega)
      have HKb : Hid ((rankKeys ps ns).getD b 0 = rb) := by
        show _ = _
        rw [rankKeys_get (by rw [HM.out]; exact hbm), ofFlow, hfo, hrbd]
      have HCP : Hid (∀ j p, ps[j]? = some p → W0.cell? ⟨bp, op + j * 3, none⟩ = some (.int .i64 p.flow) ∧ W0.cell? ⟨bp, op + j * 3 + 2, none⟩ = some (.int .i64 p.tick)) := fun j p hj => ⟨cell_later hbw (hcp j _ hj).1, cell_later hbw (hcp j _ hj).2.2⟩
      have HCN : Hid (∀ j x, ns[j]? = some x → W0.cell? ⟨bn, on + j, none⟩ = some (.int .i64 x)) := fun j x hj => cell_later hbw (hcn j x hj)
      clear hcs hcp hcn hx hbest hpb hf hfo hrb hrbd htb htick hbw ht
      have s2' : decide (m ≤ b) = false := decide_eq_false (by omega)
      go_wp2_with fail
      go_quiet (fail)
      go_wp2_with fail
      try simp only [s1, s2, s2', s3]
      go_loopw [14] (fun j wr2 => ∃ q : Nat, q ≤ m ∧ j = .int .i64 q ∧ ∃ z, wr2 = W0.drewN z) (fun j _ => m - (intOf j).toNat)
      case atStart => exact ⟨0, Nat.zero_le _, rfl, _, rfl⟩
      case round =>
        obtain ⟨q, hq, rfl, z, hz⟩ := hrel
        have HZ : Hid (wr = W0.drewN z) := hz
        have e1 : wr.cell? ⟨bs, os + k * 3 + 1, none⟩ = some (.int .i64 t) := by rw [hz]; exact c2
        have e4 : wr.cell? ⟨bp, op + b * 3, none⟩ = some (.int .i64 fb) := by rw [hz]; exact c4
        have e5 : wr.cell? ⟨bn, on + fb, none⟩ = some (.int .i64 rb) := by rw [hz]; exact c5
        by_cases hqm : q < m
        · obtain ⟨p, hpq, -⟩ := get_some ps q (by rw [HM.out]; exact hqm)
          obtain ⟨fl, hfl, hf, hfo⟩ := flow_at HP.out.2.2 hpq
          obtain ⟨rq, hrq, hrqd⟩ := nums_at HN.out.2.2 hfl
          obtain ⟨tk, htk⟩ : ∃ tk, p.tick = tk := ⟨_, rfl⟩
          have e2 : wr.cell? ⟨bp, op + q * 3 + 2, none⟩ = some (.int .i64 tk) := by rw [hz, ← htk]; exact (HCP.out q p hpq).2
          have e3 : wr.cell? ⟨bp, op + q * 3, none⟩ = some (.int .i64 fl) := by rw [hz, ← hf]; exact (HCP.out q p hpq).1
          have e6 : wr.cell? ⟨bn, on + fl, none⟩ = some (.int .i64 rq) := by rw [hz]; exact HCN.out fl rq hrq
          have e7 : wr.cell? ⟨g, q, none⟩ = some (.bool (isDone (l.take k) q)) := by rw [hz]; exact HD.out.1.cell q hqm
          have HKq : Hid ((rankKeys ps ns).getD q 0 = rq ∧ tickOf ps q = tk) := ⟨by rw [rankKeys_get (by rw [HM.out]; exact hqm), ofFlow, hfo, hrqd], by rw [tickOf_get hpq, htk]⟩
          clear hpq hf hfo hrq hrqd htk hz
          cases hd : isDone (l.take k) q with
          | true =>
            rw [hd] at e7
            clear hd
            go_wp2_with fail
            go_quiet (fail)
            go_wp2_with fail
            go_roundw
            case rel => exact ⟨q + 1, by omega, by go_num, z + nq, by rw [HZ.out, World.drewN_drewN]⟩
            case measure => simp [intOf]; omega
          | false =>
            rw [hd] at e7
            have HUn : Hid (isDone (l.take k) q = false) := hd
            clear hd
            by_cases hlate : t < tk
            · go_wp2_with fail
              go_quiet (fail)
              go_wp2_with fail
              go_roundw
              case rel => exact ⟨q + 1, by omega, by go_num, z + nq, by rw [HZ.out, World.drewN_drewN]⟩
              case measure => simp [intOf]; omega
            · have hle := HBest.out.least q (undone_iff.2 ⟨by rw [HM.out]; exact hqm, HUn.out⟩) (by rw [HKq.out.2]; omega)
              rw [HKb.out, HKq.out.1] at hle
              have t1 : decide (t < tk) = false := decide_eq_false hlate
              have t2 : ¬ rq < rb := by omega
              by_cases heq : rq = rb
              · have t3 : ¬ (q : Int) < (b : Int) := by omega
                have t4 : (rq == rb) = true := by simpa using heq
                clear hle
                go_wp2_with fail
                go_quiet (fail)
                go_wp2_with fail
                go_roundw
                case rel => exact ⟨q + 1, by omega, by go_num, z + nq, by rw [HZ.out, World.drewN_drewN]⟩
                case measure => simp [intOf]; omega
              · have t4 : (rq == rb) = false := by simpa using heq
                clear hle
                go_wp2_with fail
                go_quiet (fail)
                go_wp2_with fail
                go_roundw
                case rel => exact ⟨q + 1, by omega, by go_num, z + nq, by rw [HZ.out, World.drewN_drewN]⟩
                case measure => simp [intOf]; omega
        · obtain rfl : q = m := by omega
          have e7 : wr.cell? ⟨g, b, none⟩ = some (.bool false) := by rw [hz]; exact c6
          have e8 : wr.frozen? ⟨g, b, none⟩ = false := by rw [hz]; exact HD.out.1.frozen b
          have HEnd : Hid (DoneAt (wr.setCell ⟨g, b, none⟩ (.bool true)) g q (l.take (k + 1)) ∧ Below g w6 (wr.setCell ⟨g, b, none⟩ (.bool true))) := by
            have hdw : DoneAt wr g q (l.take k) := by rw [hz]; exact HD.out.1.of_block rfl (Nat.le_refl _)
            have := hdw.put b hbm t (t + per * bytesOf ps b)
            have et : l.take (k + 1) = l.take k ++ [⟨(b : Nat), t, t + per * bytesOf ps b⟩] := by rw [List.take_add_one, HX.out]; rfl
            refine ⟨by rw [et]; exact this, ?_⟩
            have hbz : Below g w6 wr := by rw [hz]; exact below_drewN HD.out.2 _
            exact hbz.setCell (Nat.le_refl _) _
          clear hz
          go_wp2_with fail
          go_roundg (gk - 1)
          case measure => omega
          case rel => exact ⟨k + 1, by omega, by go_num, HEnd.out.1, HEnd.out.2⟩
    · have HEnd : Hid (Below w.heap.size w W0) := HB6.out.1.trans (HBW.out.mono HB6.out.1.size)
      go_wp2_with fail
      go_ret
      exact ⟨rfl, HEnd.out⟩
end Go.Proofs.YtcmgmcngidndcabDoor
