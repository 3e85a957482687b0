/- RankDues: its longest way. -/
import Derived.Test.YtcmgmcngidndcabDoorCDues2
namespace Go.Proofs.YtcmgmcngidndcabDoor
open Go.RowKit

set_option maxRecDepth 100000 in
set_option maxHeartbeats 1500000 in
theorem dues_main (pa : Option Addr) (pcap : Nat) (ps : List Pk) (per : Int) (na : Option Addr) (ncap : Nat) (ns : List Int) (oa : Option Addr) (ocap : Nat) (ord : List Int) (w : World) (ad : Nat → Addr) (he3 : w.cell? ⟨0, 0, none⟩ = some (.iface 157 (.pointer (some (ad 3))))) (hp : LiesP w pa ps) (hpa : pa = none → ps = [] ∧ pcap = 0) (hn : LiesN w na ns) (hna : na = none → ns = [] ∧ ncap = 0) (hord : LiesN w oa ord) (hm : ps.length ≤ 60) (hq : ord.length ≤ 100) (ho : OkPks ps) (h1 : 1 ≤ per) (h2 : per ≤ 1000) (hk : NumsOk 0 1099511627776 ns) (hm0 : 0 < ps.length) :
    Calls Tryd.prog 7 #[.slice pa ps.length pcap, .int .i64 per, .slice na ns.length ncap, .slice oa ord.length ocap] w fun e w' => e = .returned (.bool true) ∧ Below w.heap.size w w' := by
  obtain ⟨i0, hi, hz0, hz1, hz2⟩ := info_parts Tryd.infoInt
  obtain ⟨j0, ji, jz0, jz1, jz2⟩ := info_parts Tryd.infoSent
  have HP : Hid (LiesP w pa ps ∧ (pa = none → ps = [] ∧ pcap = 0) ∧ OkPks ps) := ⟨hp, hpa, ho⟩
  have HN : Hid (LiesN w na ns ∧ (na = none → ns = [] ∧ ncap = 0) ∧ ns.length = 8) := ⟨hn, hna, hk.len⟩
  have HO : Hid (LiesN w oa ord) := hord
  have HRun : Hid (∀ W a3 k3 a5 k5, LiesP W a3 ps → LiesN W a5 ns → Calls Tryd.prog 34 #[.slice a3 ps.length k3, .int .i64 per, .slice a5 ns.length k5] W fun e w' => ∃ v, e = .returned (.tuple #[v, .nilIface]) ∧ SentBy per ps (dueKeys ps ns) W.heap.size W v w') := fun W a3 k3 a5 k5 g1 g2 => rankDue_ok a3 k3 ps per a5 k5 ns W g1 g2 ho h1 h2 hk
  have HLt : Hid (∀ W a3 k3 a4 k4 l, Below w.heap.size w W → LiesP W a3 ps → LiesS W a4 l → l.length ≤ 300 → tameAll l → (∀ (i : Nat) x, l[i]? = some x → named ps.length x = true) → Calls Tryd.prog 29 #[.slice a3 ps.length k3, .slice a4 l.length k4, .slice na ns.length ncap] W fun e w' => e = .returned (.tuple #[.int .i64 (lateAll ps ns l), .nilIface]) ∧ Below W.heap.size W w') := fun W a3 k3 a4 k4 l hb g1 g2 g4 g5 g6 => by
    refine (late_any a3 k3 ps a4 k4 l na ncap ns W ad (cell_later hb he3) g1 g2 (hn.below hb) ho hk g4 g5).mono ?_
    rintro e w' ⟨hb, ⟨rfl, -⟩ | ⟨j, x, F, hx, -, hbad, -⟩⟩
    · exact ⟨rfl, hb⟩
    · rw [g6 j x hx] at hbad; cases hbad
  have hr8 := hk.len
  clear hp hpa hn hna ho hk hord he3
  obtain ⟨m, hmm⟩ : ∃ m, ps.length = m := ⟨_, rfl⟩
  obtain ⟨q, hqq⟩ : ∃ q, ord.length = q := ⟨_, rfl⟩
  have HM : Hid (ps.length = m ∧ ord.length = q) := ⟨hmm, hqq⟩
  have HOwnP : Hid (∀ w', Below w.heap.size w w' → Calls Tryd.prog 21 #[.slice pa m pcap] w' fun e w'' => ∃ a' cap', e = .returned (.slice a' m cap') ∧ LiesP w'' a' ps ∧ m ≤ cap' ∧ cap' ≤ maxLen ∧ Below w'.heap.size w' w'' ∧ Below w.heap.size w w'') := fun w' hb => by
    have := ownPackets_from pa pcap ps w w' hb HP.out.1 (by omega) HP.out.2.1
    rwa [hmm] at this
  rw [hmm] at hm HRun ⊢
  rw [hqq] at hq ⊢
  rw [hr8] at HRun HLt ⊢
  rw [hmm] at hm0
  clear hmm hqq hr8
  have hm' : ¬ 60 < m := by omega
  have hq' : ¬ 100 < q := by omega
  have hmk : ∀ w' : World, (Instr.makeSlice 59 (.int .i64 m) (.int .i64 m)).run Tryd.prog w' = .ok (.slice (some ⟨w'.heap.size, 0, none⟩) m m) (w'.alloc (.cells (madeCells #[.bool false] m) 4)) := fun w' => by
    obtain ⟨i0, hi, hz0, hz1, hz2⟩ := info_parts Tryd.infoBoolD
    have := run_make (P := Tryd.prog) w' 59 4 i0 (.bool false) Tryd.underlying59 hi hz0 .i64 .i64 m m (by omega) (by omega) (by rw [hz2]; omega) (by omega)
    simpa [hz1, Value.cells] using this
  go_enter Tryd.func7, Tryd.ntmps7
  go_wp2_with fail
  refine (sends_any _).mono ?_
  rintro e w1 ⟨rfl, hb⟩
  have HB1 : Hid (Below w.heap.size w w1) := hb
  clear hb
  go_wp2_with fail
  refine (HOwnP.out _ HB1.out).mono ?_
  rintro e w3 ⟨a3, k3, rfl, l3, g3, m3, b3, B3⟩
  have HB3 : Hid (Below w.heap.size w w3 ∧ LiesP w3 a3 ps) := ⟨B3, l3⟩
  have HN3 : Hid (LiesN w3 na ns) := HN.out.1.below B3
  clear l3 g3 m3 b3 B3
  go_wp2_with (at_builtin; go_must (refine wpList_append_ints _ rfl _ _ 32 rfl 3 i0 (.int .i64 0) Tryd.underlying32 hi hz0 hz1 hz2 rfl na ncap 8 ns HN.out.2.2 rfl rfl HN3.out HN.out.2.1 (by omega) ?_; rintro a5 k5 w5 h5; have HB5 : Hid (Below w.heap.size w w5 ∧ LiesP w5 a3 ps ∧ LiesN w5 a5 ns) := ⟨HB3.out.1.trans (h5.2.2.2.mono HB3.out.1.size), HB3.out.2.below h5.2.2.2, h5.1⟩; clear h5))
  refine (HRun.out w5 a3 k3 a5 k5 HB5.out.2.1 HB5.out.2.2).mono ?_
  rintro e w6 ⟨v, rfl, l, hown, hsch, hlen, b6⟩
  obtain ⟨a6, k6, rfl, g61, g62, hl6, -, -⟩ := hown.open
  have HB6 : Hid (Below w.heap.size w w6 ∧ LiesS w6 a6 l ∧ Sched per ps (dueKeys ps ns) l) := ⟨HB5.out.1.trans (b6.mono HB5.out.1.size), hl6, hsch⟩
  rw [HM.out.1] at hlen
  have HL : Hid (l.length = m) := hlen
  rw [hlen] at g61 ⊢
  unfold maxLen at g62
  clear b6 hown hl6 hsch hlen
  go_wp2_with fail
  go_loopw [13] (fun i wr => ∃ k : Nat, k ≤ m ∧ i = .int .i64 k ∧ (∀ j, j < k → tickOf ps j = tickOf ps 0) ∧ ∃ z, wr = w6.drewN z) (fun i _ => m - (intOf i).toNat)
  case atStart => exact ⟨0, Nat.zero_le _, rfl, fun j h => by omega, 0, rfl⟩
  case round =>
    obtain ⟨k, hk, rfl, hsame, z, hz⟩ := hrel
    have HZ : Hid (wr = w6.drewN z ∧ (∀ j, j < k → tickOf ps j = tickOf ps 0)) := ⟨hz, hsame⟩
    have HBz : Hid (Below w6.heap.size w6 wr) := by
      show Below _ _ _
      rw [hz]
      exact below_drewN (Below.refl _ _) _
    obtain ⟨bp, op, rfl, -, hcp⟩ := HP.out.1.place (by rw [HM.out.1]; omega)
    obtain ⟨p0, hp0, -⟩ := get_some ps 0 (by rw [HM.out.1]; omega)
    have hbw : Below w.heap.size w wr := HB6.out.1.trans (HBz.out.mono HB6.out.1.size)
    obtain ⟨T, hT⟩ : ∃ T, tickOf ps 0 = T := ⟨_, rfl⟩
    have c0 : wr.cell? ⟨bp, op + 2, none⟩ = some (.int .i64 T) := by
      have := cell_later hbw (hcp 0 p0 hp0).2.2
      rwa [← tickOf_get hp0, hT, Nat.zero_mul, Nat.add_zero] at this
    have HT : Hid (tickOf ps 0 = T) := hT
    have HCP : Hid (∀ (i : Nat) p, ps[i]? = some p → w.cell? ⟨bp, op + i * 3, none⟩ = some (.int .i64 p.flow) ∧ w.cell? ⟨bp, op + i * 3 + 1, none⟩ = some (.int .i64 p.size) ∧ w.cell? ⟨bp, op + i * 3 + 2, none⟩ = some (.int .i64 p.tick)) := hcp
    clear hcp hp0 hT hsame
    by_cases hkm : k < m
    · obtain ⟨p, hpk, -⟩ := get_some ps k (by rw [HM.out.1]; exact hkm)
      obtain ⟨tk, htk⟩ : ∃ tk, p.tick = tk := ⟨_, rfl⟩
      have c1 : wr.cell? ⟨bp, op + k * 3 + 2, none⟩ = some (.int .i64 tk) := by rw [← htk]; exact cell_later hbw (HCP.out k p hpk).2.2
      have HTk : Hid (tickOf ps k = tk) := by
        show _ = _
        rw [tickOf_get hpk, htk]
      clear hpk htk hz hbw
      by_cases heq : tk = T
      · have t1 : (tk == T) = true := by simpa using heq
        have HEq : Hid (tk = T) := heq
        go_wp2_with fail
        go_quiet (fail)
        go_wp2_with fail
        go_roundw
        case rel =>
          refine ⟨k + 1, by omega, by go_num, fun j hj => ?_, z + nq, by rw [HZ.out.1, World.drewN_drewN]⟩
          rcases Nat.lt_or_ge j k with h | h
          · exact HZ.out.2 j h
          · obtain rfl : j = k := by omega
            rw [HTk.out, HEq.out, HT.out]
        case measure => simp [intOf]; omega
      · have t1 : (tk == T) = false := by simpa using heq
        have HEnd : Hid (∀ nq, Below w.heap.size w (wr.drewN nq)) := fun nq => below_drewN (HB6.out.1.trans (HBz.out.mono HB6.out.1.size)) _
        go_wp2_with fail
        go_quiet (fail)
        go_wp2_with fail
        go_ret
        exact ⟨rfl, HEnd.out _⟩
    · obtain rfl : m = k := by omega
      have HAll : Hid (∀ i, i < ps.length → tickOf ps i = T) := fun i hi => by
        rw [← HT.out]
        exact HZ.out.2 i (by rw [← HM.out.1]; exact hi)
      obtain ⟨W7, hW7⟩ : ∃ W, W = wr := ⟨_, rfl⟩
      subst hW7
      have hTin : 0 ≤ T ∧ T ≤ 1099511627776 := by
        rw [← HT.out]
        exact tick_in HP.out.2.2 0
      have HS0 : Hid (OtherAt per ps T w6 (W7.alloc (.cells (madeCells #[.bool false] m) 4)) (.slice none 0 0) W7.heap.size []) := ⟨InRow.nil _ _ _, World.ownsRow_nil _ _ _ _, by rw [HM.out.1]; exact done_made W7 m _, (fun e => by cases e), HBz.out.size, HBz.out.alloc HBz.out.size _⟩
      have c0' : (W7.alloc (.cells (madeCells #[.bool false] m) 4)).cell? ⟨bp, op + 2, none⟩ = some (.int .i64 T) := cell_later ((Below.refl _ _).alloc (Nat.le_refl _) _) c0
      clear hz hbw
      go_wp2_with fail
      obtain ⟨g, hg⟩ : ∃ g, W7.heap.size = g := ⟨_, rfl⟩
      rw [hg] at HS0 ⊢
      have HG : Hid (W7.heap.size = g) := hg
      clear hg hmk c0 c0'
      go_loopg [14, 16, 17] (q + m) (fun gk v t i wr => ∃ k os, gk + k = q + m ∧ i = .int .i64 ((k : Nat) : Int) ∧ t = .int .i64 (rowEnd per ps T os) ∧ os.length ≤ k ∧ (∀ j, j + q < k → isDone os j = true) ∧ OtherAt per ps T w6 wr v g os)
      case atStart => exact ⟨0, [], by omega, rfl, by simp [rowEnd, numsOf, sumOf], Nat.le_refl _, fun j h => by omega, HS0.out⟩
      case round =>
        obtain ⟨k, os, hgk, rfl, rfl, hol, hdone, hat⟩ := hrel
        have HA0 : Hid (OtherAt per ps T w6 wr u14 g os ∧ (∀ j, j + q < k → isDone os j = true)) := ⟨hat, hdone⟩
        have htr := rowEnd_in HP.out.2.2 h1 h2 hTin os
        obtain ⟨a14, k14, hv14, h141, h142, -, -, -⟩ := hat.own.open
        unfold maxLen at h142
        clear hat hdone
        subst hv14
        have HA : Hid (OtherAt per ps T w6 wr (.slice a14 os.length k14) g os) := HA0.out.1
        obtain ⟨tt, htt⟩ : ∃ tt, rowEnd per ps T os = tt := ⟨_, rfl⟩
        have HTt : Hid (rowEnd per ps T os = tt) := htt
        rw [htt] at htr ⊢
        clear htt
        by_cases hkqm : k < q + m
        · by_cases hkq : k < q
          · obtain ⟨z1, hz1', -⟩ := get_some ord k (by rw [HM.out.2]; exact hkq)
            obtain ⟨bo, oo, rfl, -, hco⟩ := HO.out.place (by rw [HM.out.2]; omega)
            have d1 : wr.cell? ⟨bo, oo + k, none⟩ = some (.int .i64 z1) := cell_later HA.out.below (cell_later HB6.out.1 (hco k z1 hz1'))
            have HDone1 : Hid (∀ j, j + q < k + 1 → isDone os j = true) := fun j hj => by omega
            clear hco hz1'
            by_cases hneg : z1 < 0
            · go_wp2_with fail
              go_roundg (gk - 1)
              case measure => omega
              case rel => exact ⟨k + 1, os, by omega, by go_num, by rw [HTt.out], by omega, HDone1.out, HA.out⟩
            · by_cases hbig : (m : Int) ≤ z1
              · go_wp2_with fail
                go_roundg (gk - 1)
                case measure => omega
                case rel => exact ⟨k + 1, os, by omega, by go_num, by rw [HTt.out], by omega, HDone1.out, HA.out⟩
              · obtain ⟨b, hbz⟩ : ∃ b : Nat, z1 = b := ⟨z1.toNat, by omega⟩
                subst hbz
                have HDoneB : Hid (∀ j, j + q < k + 1 → isDone os j = true ∨ b = j) := fun j hj => by omega
                have e7 : wr.cell? ⟨g, b, none⟩ = some (.bool (isDone os b)) := HA.out.done.cell b (by rw [HM.out.1]; omega)
                cases hd : isDone os b with
                | true =>
                  rw [hd] at e7
                  clear hd
                  go_wp2_with fail
                  go_roundg (gk - 1)
                  case measure => omega
                  case rel => exact ⟨k + 1, os, by omega, by go_num, by rw [HTt.out], by omega, HDone1.out, HA.out⟩
                | false =>
                  rw [hd] at e7
                  clear hd
                  have hbm : b < m := by omega
                  obtain ⟨p, hpb, -⟩ := get_some ps b (by rw [HM.out.1]; exact hbm)
                  obtain ⟨y, hy⟩ : ∃ y, p.size = y := ⟨_, rfl⟩
                  have hby : bytesOf ps b = y := by rw [bytesOf_get hpb, hy]
                  obtain ⟨mm, hmm⟩ : ∃ mm, per * y = mm := ⟨_, rfl⟩
                  obtain ⟨to, hto⟩ : ∃ to, tt + mm = to := ⟨_, rfl⟩
                  have hmi := time_in (per := per) HP.out.2.2 h1 h2 b
                  rw [hby, hmm] at hmi
                  have hw1 : IntKind.i64.wrap (per * y) = mm := by rw [hmm]; exact IntWalk.i64_in _ (by omega)
                  have hw2 : IntKind.i64.wrap (tt + mm) = to := by rw [← hto]; exact IntWalk.i64_in _ (by omega)
                  have c0 : w.cell? ⟨bp, op + b * 3 + 1, none⟩ = some (.int .i64 y) := by rw [← hy]; exact (HCP.out b p hpb).2.1
                  have HC0 : Hid (w.cell? ⟨bp, op + b * 3 + 1, none⟩ = some (.int .i64 y)) := c0
                  have HMid0 := HA.out.mid b (.cells #[.int .i64 b, .int .i64 tt, .int .i64 to] 43)
                  have hset : Below w6.heap.size w6 (wr.setCell ⟨g, b, none⟩ (.bool true)) := HA.out.below.setCell HA.out.new _
                  have c1 : (wr.setCell ⟨g, b, none⟩ (.bool true)).cell? ⟨bp, op + b * 3 + 1, none⟩ = some (.int .i64 y) := cell_later hset (cell_later HB6.out.1 c0)
                  have e9 : wr.frozen? ⟨g, b, none⟩ = false := HA.out.done.frozen b
                  have HMid : Hid (OwnS ((wr.setCell ⟨g, b, none⟩ (.bool true)).alloc (.cells #[.int .i64 b, .int .i64 tt, .int .i64 to] 43)) w6.heap.size (.slice a14 os.length k14) os ∧ w6.heap.size ≤ ((wr.setCell ⟨g, b, none⟩ (.bool true)).alloc (.cells #[.int .i64 b, .int .i64 tt, .int .i64 to] 43)).heap.size) := ⟨HMid0.1, HMid0.2.size⟩
                  have HNews : Hid (∀ j u, (cellsS [⟨(b : Nat), tt, to⟩])[j]? = some u → ((wr.setCell ⟨g, b, none⟩ (.bool true)).alloc (.cells #[.int .i64 b, .int .i64 tt, .int .i64 to] 43)).cell? ((⟨(wr.setCell ⟨g, b, none⟩ (.bool true)).heap.size, 0, none⟩ : Addr).add j) = some u) := World.news_of_block (cs := #[.int .i64 b, .int .i64 tt, .int .i64 to]) (t := 43) (heap_alloc_new (wr.setCell ⟨g, b, none⟩ (.bool true)) _)
                  have hsz : (wr.setCell ⟨g, b, none⟩ (.bool true)).heap.size = wr.heap.size := by simp
                  rw [hsz] at HNews
                  have HX : Hid ((⟨(b : Nat), tt, to⟩ : Sn) = ⟨(b : Nat), rowEnd per ps T os, rowEnd per ps T os + per * bytesOf ps b⟩ ∧ b < ps.length) := ⟨by rw [HTt.out, hby, hmm, hto], by rw [HM.out.1]; exact hbm⟩
                  have HEnd : Hid (rowEnd per ps T (os ++ [⟨(b : Nat), tt, to⟩]) = to) := by
                    show _ = _
                    rw [rowEnd_snoc, HTt.out, hby, hmm, hto]
                  have HDoneS : Hid (∀ j, j + q < k + 1 → isDone (os ++ [⟨(b : Nat), tt, to⟩]) j = true) := fun j hj => by
                    rw [isDone_snoc]
                    rcases HDoneB.out j hj with h | h
                    · rw [h]; rfl
                    · rw [h]; simp
                  clear hpb hy hby hmm hto hmi c0 HMid0 hset hsz
                  go_wp2_with (at_builtin; go_must (refine wpList_append_lies _ rfl _ _ 23 rfl w6.heap.size 43 j0 (.agg #[.int .i64 0, .int .i64 0, .int .i64 0]) 3 24 Tryd.underlying23 ji jz0 jz1 jz2 rfl (by decide) (.slice a14 os.length k14) os.length (cellsS os) rfl HMid.out.1 ⟨wr.heap.size, 0, none⟩ 1 1 (cellsS [⟨(b : Nat), tt, to⟩]) rfl rfl HNews.out (cellsS_one _) (by decide) (by unfold maxLen; omega) (by omega) HMid.out.2 _ rfl ?_; intro g5 cap5 w5 ho5 hg5 hat5 hlt5; have H5 : Hid (OtherAt per ps T w6 w5 (.slice (some ⟨g5, 0, none⟩) (os.length + 1) cap5) g (os ++ [⟨(b : Nat), tt, to⟩])) := HA.out.grown _ ho5 hg5 hat5 HX.out.2 HX.out.1; have c5 : w5.cell? ⟨bp, op + b * 3 + 1, none⟩ = some (.int .i64 y) := cell_later H5.out.below (cell_later HB6.out.1 HC0.out); clear ho5 hg5 hat5 hlt5))
                  go_roundg (gk - 1)
                  case measure => omega
                  case rel => exact ⟨k + 1, os ++ [⟨(b : Nat), tt, to⟩], by omega, by go_num, by rw [HEnd.out], by simp; omega, HDoneS.out, H5.out⟩
          · obtain ⟨b, hkb⟩ : ∃ b : Nat, k = q + b := ⟨k - q, by omega⟩
            have hkb1 : (k : Int) - (q : Int) = (b : Int) := by omega
            have hbm0 : b < m := by omega
            have e7 : wr.cell? ⟨g, b, none⟩ = some (.bool (isDone os b)) := HA.out.done.cell b (by rw [HM.out.1]; omega)
            have HDoneB : Hid (∀ j, j + q < k + 1 → isDone os j = true ∨ b = j) := fun j hj => by
              rcases Nat.lt_or_ge (j + q) k with h | h
              · exact .inl (HA0.out.2 j h)
              · exact .inr (by omega)
            clear hkb
            cases hd : isDone os b with
            | true =>
              rw [hd] at e7
              have HDone1 : Hid (∀ j, j + q < k + 1 → isDone os j = true) := fun j hj => by
                rcases HDoneB.out j hj with h | h
                · exact h
                · rw [← h]; exact hd
              clear hd
              go_wp2_with fail
              go_roundg (gk - 1)
              case measure => omega
              case rel => exact ⟨k + 1, os, by omega, by go_num, by rw [HTt.out], by omega, HDone1.out, HA.out⟩
            | false =>
              rw [hd] at e7
              clear hd
              have hbm : b < m := by omega
              obtain ⟨p, hpb, -⟩ := get_some ps b (by rw [HM.out.1]; exact hbm)
              obtain ⟨y, hy⟩ : ∃ y, p.size = y := ⟨_, rfl⟩
              have hby : bytesOf ps b = y := by rw [bytesOf_get hpb, hy]
              obtain ⟨mm, hmm⟩ : ∃ mm, per * y = mm := ⟨_, rfl⟩
              obtain ⟨to, hto⟩ : ∃ to, tt + mm = to := ⟨_, rfl⟩
              have hmi := time_in (per := per) HP.out.2.2 h1 h2 b
              rw [hby, hmm] at hmi
              have hw1 : IntKind.i64.wrap (per * y) = mm := by rw [hmm]; exact IntWalk.i64_in _ (by omega)
              have hw2 : IntKind.i64.wrap (tt + mm) = to := by rw [← hto]; exact IntWalk.i64_in _ (by omega)
              have c0 : w.cell? ⟨bp, op + b * 3 + 1, none⟩ = some (.int .i64 y) := by rw [← hy]; exact (HCP.out b p hpb).2.1
              have HC0 : Hid (w.cell? ⟨bp, op + b * 3 + 1, none⟩ = some (.int .i64 y)) := c0
              have HMid0 := HA.out.mid b (.cells #[.int .i64 b, .int .i64 tt, .int .i64 to] 43)
              have hset : Below w6.heap.size w6 (wr.setCell ⟨g, b, none⟩ (.bool true)) := HA.out.below.setCell HA.out.new _
              have c1 : (wr.setCell ⟨g, b, none⟩ (.bool true)).cell? ⟨bp, op + b * 3 + 1, none⟩ = some (.int .i64 y) := cell_later hset (cell_later HB6.out.1 c0)
              have e9 : wr.frozen? ⟨g, b, none⟩ = false := HA.out.done.frozen b
              have HMid : Hid (OwnS ((wr.setCell ⟨g, b, none⟩ (.bool true)).alloc (.cells #[.int .i64 b, .int .i64 tt, .int .i64 to] 43)) w6.heap.size (.slice a14 os.length k14) os ∧ w6.heap.size ≤ ((wr.setCell ⟨g, b, none⟩ (.bool true)).alloc (.cells #[.int .i64 b, .int .i64 tt, .int .i64 to] 43)).heap.size) := ⟨HMid0.1, HMid0.2.size⟩
              have HNews : Hid (∀ j u, (cellsS [⟨(b : Nat), tt, to⟩])[j]? = some u → ((wr.setCell ⟨g, b, none⟩ (.bool true)).alloc (.cells #[.int .i64 b, .int .i64 tt, .int .i64 to] 43)).cell? ((⟨(wr.setCell ⟨g, b, none⟩ (.bool true)).heap.size, 0, none⟩ : Addr).add j) = some u) := World.news_of_block (cs := #[.int .i64 b, .int .i64 tt, .int .i64 to]) (t := 43) (heap_alloc_new (wr.setCell ⟨g, b, none⟩ (.bool true)) _)
              have hsz : (wr.setCell ⟨g, b, none⟩ (.bool true)).heap.size = wr.heap.size := by simp
              rw [hsz] at HNews
              have HX : Hid ((⟨(b : Nat), tt, to⟩ : Sn) = ⟨(b : Nat), rowEnd per ps T os, rowEnd per ps T os + per * bytesOf ps b⟩ ∧ b < ps.length) := ⟨by rw [HTt.out, hby, hmm, hto], by rw [HM.out.1]; exact hbm⟩
              have HEnd : Hid (rowEnd per ps T (os ++ [⟨(b : Nat), tt, to⟩]) = to) := by
                show _ = _
                rw [rowEnd_snoc, HTt.out, hby, hmm, hto]
              have HDoneS : Hid (∀ j, j + q < k + 1 → isDone (os ++ [⟨(b : Nat), tt, to⟩]) j = true) := fun j hj => by
                rw [isDone_snoc]
                rcases HDoneB.out j hj with h | h
                · rw [h]; rfl
                · rw [h]; simp
              clear hpb hy hby hmm hto hmi c0 HMid0 hset hsz
              go_wp2_with (at_builtin; go_must (refine wpList_append_lies _ rfl _ _ 23 rfl w6.heap.size 43 j0 (.agg #[.int .i64 0, .int .i64 0, .int .i64 0]) 3 24 Tryd.underlying23 ji jz0 jz1 jz2 rfl (by decide) (.slice a14 os.length k14) os.length (cellsS os) rfl HMid.out.1 ⟨wr.heap.size, 0, none⟩ 1 1 (cellsS [⟨(b : Nat), tt, to⟩]) rfl rfl HNews.out (cellsS_one _) (by decide) (by unfold maxLen; omega) (by omega) HMid.out.2 _ rfl ?_; intro g5 cap5 w5 ho5 hg5 hat5 hlt5; have H5 : Hid (OtherAt per ps T w6 w5 (.slice (some ⟨g5, 0, none⟩) (os.length + 1) cap5) g (os ++ [⟨(b : Nat), tt, to⟩])) := HA.out.grown _ ho5 hg5 hat5 HX.out.2 HX.out.1; have c5 : w5.cell? ⟨bp, op + b * 3 + 1, none⟩ = some (.int .i64 y) := cell_later H5.out.below (cell_later HB6.out.1 HC0.out); clear ho5 hg5 hat5 hlt5))
              go_roundg (gk - 1)
              case measure => omega
              case rel => exact ⟨k + 1, os ++ [⟨(b : Nat), tt, to⟩], by omega, by go_num, by rw [HEnd.out], by simp; omega, HDoneS.out, H5.out⟩
        · obtain rfl : k = q + m := by omega
          have HAllD : Hid (∀ i, i < ps.length → isDone os i = true) := fun i hi => HA0.out.2 i (by have := HM.out.1; omega)
          obtain ⟨n4, hn4⟩ : ∃ n4, os.length = n4 := ⟨_, rfl⟩
          have HRT : Hid (tameAll os ∧ ∀ (i : Nat) x, os[i]? = some x → named ps.length x = true) := row_tame HP.out.2.2 h1 h2 hTin HAll.out HA.out.row (by omega)
          have HST : Hid (tameAll l ∧ ∀ (i : Nat) x, l[i]? = some x → named ps.length x = true) := sched_tameD HP.out.2.2 h1 h2 HB6.out.2.2 (by rw [HL.out]; omega)
          have hjack : lateAll ps ns l ≤ lateAll ps ns os := jackson_late HP.out.2.2 (by omega) HAll.out hTin.1 HB6.out.2.2 HA.out.row HAllD.out
          obtain ⟨NA, hNA⟩ : ∃ NA, lateAll ps ns l = NA := ⟨_, rfl⟩
          obtain ⟨NB, hNB⟩ : ∃ NB, lateAll ps ns os = NB := ⟨_, rfl⟩
          rw [hNA, hNB] at hjack
          have HWr : Hid (Below w.heap.size w wr) := HB6.out.1.trans (HA.out.below.mono HB6.out.1.size)
          obtain ⟨a15, k15, hv, -, -, hlos, -, -⟩ := HA.out.own.open
          have e15 : a14 = a15 := by injection hv
          subst e15
          have HLo : Hid (LiesS wr a14 os) := hlos
          have HLateA : Hid (∀ W a3 k3, Below w6.heap.size w6 W → LiesP W a3 ps → Calls Tryd.prog 29 #[.slice a3 m k3, .slice a6 m k6, .slice na 8 ncap] W fun e w' => e = .returned (.tuple #[.int .i64 NA, .nilIface]) ∧ Below W.heap.size W w') := fun W a3 k3 hb g1 => by
            have h := HLt.out W a3 k3 a6 k6 l (HB6.out.1.trans (hb.mono HB6.out.1.size)) g1 (HB6.out.2.1.below hb) (by rw [HL.out]; omega) HST.out.1 HST.out.2
            rwa [HM.out.1, HL.out, hNA] at h
          have HLateB : Hid (∀ W a3 k3, Below wr.heap.size wr W → LiesP W a3 ps → Calls Tryd.prog 29 #[.slice a3 m k3, .slice a14 n4 k14, .slice na 8 ncap] W fun e w' => e = .returned (.tuple #[.int .i64 NB, .nilIface]) ∧ Below W.heap.size W w') := fun W a3 k3 hb g1 => by
            have h := HLt.out W a3 k3 a14 k14 os (HWr.out.trans (hb.mono HWr.out.size)) g1 (HLo.out.below hb) (by omega) HRT.out.1 HRT.out.2
            rwa [HM.out.1, hn4, hNB] at h
          rw [hn4]
          clear hNA hNB hlos hv hn4
          go_wp2_with fail
          refine (HOwnP.out _ HWr.out).mono ?_
          rintro e w20 ⟨a20, k20, rfl, l20, g20, m20, b20, B20⟩
          have HX20 : Hid (Below wr.heap.size wr w20 ∧ LiesP w20 a20 ps) := ⟨b20, l20⟩
          clear l20 g20 m20 b20 B20
          go_wp2_with fail
          refine (HLateA.out _ a20 k20 (HA.out.below.trans (HX20.out.1.mono HA.out.below.size)) HX20.out.2).mono ?_
          rintro e w21 ⟨rfl, b21⟩
          have HX21 : Hid (Below wr.heap.size wr w21) := HX20.out.1.trans (b21.mono HX20.out.1.size)
          clear b21
          go_wp2_with fail
          refine (HOwnP.out _ (HWr.out.trans (HX21.out.mono HWr.out.size))).mono ?_
          rintro e w22 ⟨a22, k22, rfl, l22, g22, m22, b22, B22⟩
          have HX22 : Hid (Below wr.heap.size wr w22 ∧ LiesP w22 a22 ps) := ⟨HX21.out.trans (b22.mono HX21.out.size), l22⟩
          clear l22 g22 m22 b22 B22
          go_wp2_with fail
          refine (HLateB.out _ a22 k22 HX22.out.1 HX22.out.2).mono ?_
          rintro e w23 ⟨rfl, b23⟩
          have HX23 : Hid (Below w.heap.size w w23) := HWr.out.trans ((HX22.out.1.trans (b23.mono HX22.out.1.size)).mono HWr.out.size)
          clear b23
          go_wp2_with fail
          go_ret
          exact ⟨rfl, HX23.out⟩

end Go.Proofs.YtcmgmcngidndcabDoor
