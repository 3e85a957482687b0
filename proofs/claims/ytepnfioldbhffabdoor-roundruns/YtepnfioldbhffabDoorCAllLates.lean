/- Own facts, put together: no statement of its own. -/
import Derived.Test.YtepnfioldbhffabDoorCAllDelays
import Derived.Test.YtepnfioldbhffabDoorCKeys1
import Derived.Test.YtepnfioldbhffabDoorCAllNums

/- Walks: package rank's Late. -/
namespace Go.Proofs.YtepnfioldbhffabDoor
open Go.RowKit

/-- What Late leaves. -/
def LateEnd (ps : List Pk) (ns : List Int) (l : List Sn) (ad : Nat → Addr) (w : World) (e : Ending) (w' : World) : Prop :=
  Below w.heap.size w w' ∧ ((e = .returned (.tuple #[.int .i64 (lateAll ps ns l), .nilIface]) ∧ ∀ (i : Nat) x, l[i]? = some x → named ps.length x = true) ∨
    (∃ (j : Nat) (x : Sn) (F : Nat), l[j]? = some x ∧ (∀ (i : Nat) y, i < j → l[i]? = some y → named ps.length y = true) ∧ named ps.length x = false ∧ e = .returned (.tuple #[.int .i64 0, .iface 74 (.pointer (some ⟨F, 0, none⟩))]) ∧ w'.cell? ⟨F, 0, none⟩ = some (.int .i64 j) ∧ w'.cell? ⟨F, 1, none⟩ = some (.iface 157 (.pointer (some (ad 3))))))

set_option maxRecDepth 100000 in
set_option maxHeartbeats 4000000 in
theorem late_any (pa : Option Addr) (pcap : Nat) (ps : List Pk) (a : Option Addr) (cap : Nat) (l : List Sn) (na : Option Addr) (ncap : Nat) (ns : List Int) (w : World) (ad : Nat → Addr) (he : w.cell? ⟨0, 0, none⟩ = some (.iface 157 (.pointer (some (ad 3))))) (hp : LiesP w pa ps) (hl : LiesS w a l) (hn : LiesN w na ns) (ho : OkPks ps) (hk : NumsOk 0 1099511627776 ns) (hll : l.length ≤ 300) (ht : tameAll l) :
    Calls Tryd.prog 29 #[.slice pa ps.length pcap, .slice a l.length cap, .slice na ns.length ncap] w fun e w' => LateEnd ps ns l ad w e w' := by
  have HP : Hid (LiesP w pa ps ∧ OkPks ps) := ⟨hp, ho⟩
  have HL : Hid (LiesS w a l ∧ tameAll l) := ⟨hl, ht⟩
  have HN : Hid (LiesN w na ns ∧ NumsOk 0 1099511627776 ns) := ⟨hn, hk⟩
  have HCheck : Hid (Calls Tryd.prog 56 #[.slice pa ps.length pcap] w fun e w' => e = .returned .nilIface ∧ Below w.heap.size w w') := pcheck_ok pa pcap ps w hp ho
  have HUp : Hid (∀ W, Below w.heap.size w W → Calls Tryd.prog 57 #[.slice na ns.length ncap, .int .i64 1099511627776] W fun e w' => e = .returned .nilIface ∧ Below W.heap.size W w') := fun W hb => checkUpTo_ok na ncap ns _ W (hn.below hb) hk
  have hfew := ho.few
  have HDel : Hid (∀ W, Below w.heap.size w W → Calls Tryd.prog 20 #[.slice pa ps.length pcap, .slice a l.length cap] W fun e w' => DelaysEnd ps l ad W e w') := fun W hb =>
    delays_any pa pcap ps a cap l W ad (cell_later hb he) (hp.below hb) (hl.below hb) hll hfew ht (fun i p hi => by have := okPk_true (ho.each _ p hi).1; omega)
  have h8 := hk.len
  clear he hp hl hn ho hk ht
  obtain ⟨n, hnn⟩ : ∃ n, l.length = n := ⟨_, rfl⟩
  obtain ⟨m, hmm⟩ : ∃ m, ps.length = m := ⟨_, rfl⟩
  have HNN : Hid (l.length = n ∧ ps.length = m) := ⟨hnn, hmm⟩
  rw [hnn] at hll HDel ⊢
  rw [hmm] at hfew HDel HCheck ⊢
  rw [h8] at HUp ⊢
  clear hnn hmm h8
  go_enter Tryd.func29, Tryd.ntmps29
  go_wp2_with fail
  refine HCheck.out.mono ?_
  rintro e w1 ⟨rfl, hb⟩
  have HB1 : Hid (Below w.heap.size w w1) := hb
  clear hb
  go_wp2_with fail
  refine (HUp.out _ HB1.out).mono ?_
  rintro e w2 ⟨rfl, hb⟩
  have HB2 : Hid (Below w.heap.size w w2) := HB1.out.trans (hb.mono HB1.out.size)
  clear hb
  go_wp2_with fail
  refine (HDel.out _ HB2.out).mono ?_
  rintro e w3 ⟨hb, ⟨D, rfl, hdel, hall⟩ | ⟨j, x, F, hx, hgood, hbad, rfl, f0, f1⟩⟩
  · have HB3 : Hid (Below w.heap.size w w3 ∧ DelAt w3 D l.length ps l l.length ∧ ∀ (i : Nat) x, l[i]? = some x → named ps.length x = true) := ⟨HB2.out.trans (hb.mono HB2.out.size), hdel, hall⟩
    clear hb hdel hall
    rw [HNN.out.1]
    go_wp2_with fail
    go_loopg [12, 36] n (fun gk lt i wr => ∃ k : Nat, gk + k = n ∧ i = .int .i64 k ∧ lt = .int .i64 (lateTo ps ns l k) ∧ Below w3.heap.size w3 wr)
    case atStart => exact ⟨0, by omega, rfl, rfl, Below.refl _ _⟩
    case round =>
      obtain ⟨k, hgk, rfl, rfl, hb⟩ := hrel
      have HB : Hid (Below w3.heap.size w3 wr) := hb
      obtain ⟨lt, hlt⟩ : ∃ lt, lateTo ps ns l k = lt := ⟨_, rfl⟩
      rw [hlt]
      have HLt : Hid (lateTo ps ns l k = lt) := hlt
      clear hlt hb
      by_cases hkn : k < n
      · obtain ⟨x, hx, -⟩ := get_some l k (by rw [HNN.out.1]; exact hkn)
        have hnm := HB3.out.2.2 k x hx
        rw [HNN.out.2] at hnm
        obtain ⟨s1, s2⟩ := named_true hnm
        obtain ⟨q, hq⟩ : ∃ q : Nat, x.num = q := ⟨x.num.toNat, by omega⟩
        have hqm : q < m := by omega
        obtain ⟨p, hpq, -⟩ := get_some ps q (by rw [HNN.out.2]; exact hqm)
        obtain ⟨fl, hfl, hf, hfo⟩ := flow_at HP.out.2 hpq
        obtain ⟨du, hdu, hdud⟩ := nums_at HN.out.2.len hfl
        obtain ⟨b, off, rfl, -, hc⟩ := HL.out.1.place (by rw [HNN.out.1]; omega)
        obtain ⟨b2, o2, rfl, -, hc2⟩ := HP.out.1.place (by rw [HNN.out.2]; omega)
        obtain ⟨b3, o3, rfl, -, hc3⟩ := HN.out.1.place (by have := HN.out.2.len; omega)
        have hbw : Below w.heap.size w wr := HB3.out.1.trans (HB.out.mono HB3.out.1.size)
        have c1 : wr.cell? ⟨b, off + k * 3, none⟩ = some (.int .i64 q) := by rw [← hq]; exact cell_later hbw (hc k _ hx).1
        have c2 : wr.cell? ⟨b, off + k * 3 + 1, none⟩ = some (.int .i64 x.beg) := cell_later hbw (hc k _ hx).2.1
        have c3 : wr.cell? ⟨b, off + k * 3 + 2, none⟩ = some (.int .i64 x.fin) := cell_later hbw (hc k _ hx).2.2
        have hba : Below wr.heap.size wr (wr.alloc (.cells #[.int .i64 q, .int .i64 x.beg, .int .i64 x.fin] 43)) := (Below.refl _ _).alloc (Nat.le_refl _) _
        have d1 : (wr.alloc (.cells #[.int .i64 q, .int .i64 x.beg, .int .i64 x.fin] 43)).cell? ⟨b2, o2 + q * 3, none⟩ = some (.int .i64 fl) := by rw [← hf]; exact cell_later hba (cell_later hbw (hc2 q _ hpq).1)
        have d2 : (wr.alloc (.cells #[.int .i64 q, .int .i64 x.beg, .int .i64 x.fin] 43)).cell? ⟨b3, o3 + fl, none⟩ = some (.int .i64 du) := cell_later hba (cell_later hbw (hc3 fl du hdu))
        have d3 : (wr.alloc (.cells #[.int .i64 q, .int .i64 x.beg, .int .i64 x.fin] 43)).cell? ⟨D, k, none⟩ = some (.int .i64 (delayOf ps x)) := cell_later hba (cell_later HB.out (HB3.out.2.1.cell k x (by rw [HNN.out.1]; exact hkn) hx))
        obtain ⟨dl, hdl⟩ : ∃ dl, delayOf ps x = dl := ⟨_, rfl⟩
        rw [hdl] at d3
        have hrange : -1125899906842624 - 1099511627776 ≤ dl ∧ dl ≤ 1125899906842624 := by
          obtain ⟨-, -, t3, t4⟩ := tame_true (HL.out.2 k x hx)
          have := okPk_true (HP.out.2.each _ p hpq).1
          rw [← hdl, delayOf, hq, Int.toNat_natCast, tickOf_get hpq]
          omega
        have hdr := HN.out.2.each fl du hdu
        have hw : IntKind.i64.wrap (dl - du) = dl - du := IntWalk.i64_in _ (by omega)
        have HNext : Hid ((if lt < dl - du then dl - du else lt) = lateTo ps ns l (k + 1)) := by
          show _ = _
          have e : lateTo ps ns l (k + 1) = max lt (dl - du) := by rw [lateTo_succ hx, HLt.out, lateAt, ← hdl, delayOf, ofFlow, hq, Int.toNat_natCast, hfo, hdud]
          rw [e]
          split <;> omega
        obtain ⟨y, hy⟩ : ∃ y, x.beg = y := ⟨_, rfl⟩
        obtain ⟨z, hz⟩ : ∃ z, x.fin = z := ⟨_, rfl⟩
        rw [hy] at c2 d1 d2 d3
        rw [hz] at c3 d1 d2 d3
        clear hc hc2 hc3 hx hnm s1 s2 hpq hf hfo hdu hdud hbw hba hq hdl hy hz
        go_wp2_with fail
        go_region
        rw [HNext.out]
        go_wp2_with fail
        go_roundg (gk - 1)
        case measure => omega
        case rel => exact ⟨k + 1, by omega, by go_num, rfl, below_drewN (HB.out.alloc HB.out.size _) 1⟩
      · obtain rfl : k = n := by omega
        have HEnd : Hid (LateEnd ps ns l ad w (.returned (.tuple #[.int .i64 lt, .nilIface])) wr) := ⟨HB3.out.1.trans (HB.out.mono HB3.out.1.size), .inl ⟨by rw [← HLt.out, lateAll, HNN.out.1], HB3.out.2.2⟩⟩
        go_wp2_with fail
        go_ret2
        exact HEnd.out
  · have HEnd : Hid (LateEnd ps ns l ad w (.returned (.tuple #[.int .i64 0, .iface 74 (.pointer (some ⟨F, 0, none⟩))])) w3) := ⟨HB2.out.trans (hb.mono HB2.out.size), .inr ⟨j, x, F, hx, hgood, hbad, rfl, f0, f1⟩⟩
    clear hx hgood hbad f0 f1 hb
    go_wp2_with fail
    go_ret2
    exact HEnd.out

set_option maxRecDepth 100000 in
set_option maxHeartbeats 1000000 in
theorem late_err1 {R : TypeId → Value → World → Prop} (pa : Option Addr) (m pcap : Nat) (a : Option Addr) (n cap : Nat) (na : Option Addr) (nn ncap : Nat) (w : World) (h : Calls Tryd.prog 56 #[.slice pa m pcap] w fun e w' => ∃ ty v, e = .returned (.iface ty v) ∧ R ty v w') :
    Calls Tryd.prog 29 #[.slice pa m pcap, .slice a n cap, .slice na nn ncap] w fun e w' => ∃ ty v, e = .returned (.tuple #[.int .i64 0, .iface ty v]) ∧ R ty v w' := by
  have HC : Hid (Calls Tryd.prog 56 #[.slice pa m pcap] w fun e w' => ∃ ty v, e = .returned (.iface ty v) ∧ R ty v w') := h
  clear h
  go_enter Tryd.func29, Tryd.ntmps29
  go_wp2_with fail
  refine HC.out.mono ?_
  rintro e w1 ⟨ty, v, rfl, hR⟩
  have HR : Hid (R ty v w1) := hR
  clear hR
  go_wp2_with fail
  go_ret2
  exact ⟨ty, v, rfl, HR.out⟩
set_option maxRecDepth 100000 in
set_option maxHeartbeats 1000000 in
theorem late_err2 {R : TypeId → Value → World → Prop} (pa : Option Addr) (m pcap : Nat) (a : Option Addr) (n cap : Nat) (na : Option Addr) (nn ncap : Nat) (w : World) (h : Calls Tryd.prog 56 #[.slice pa m pcap] w fun e w' => e = .returned .nilIface ∧ Below w.heap.size w w')
    (h2 : ∀ W, Below w.heap.size w W → Calls Tryd.prog 57 #[.slice na nn ncap, .int .i64 1099511627776] W fun e w' => ∃ ty v, e = .returned (.iface ty v) ∧ R ty v w') :
    Calls Tryd.prog 29 #[.slice pa m pcap, .slice a n cap, .slice na nn ncap] w fun e w' => ∃ ty v, e = .returned (.tuple #[.int .i64 0, .iface ty v]) ∧ R ty v w' := by
  have HC : Hid (Calls Tryd.prog 56 #[.slice pa m pcap] w fun e w' => e = .returned .nilIface ∧ Below w.heap.size w w') := h
  have HU : Hid (∀ W, Below w.heap.size w W → Calls Tryd.prog 57 #[.slice na nn ncap, .int .i64 1099511627776] W fun e w' => ∃ ty v, e = .returned (.iface ty v) ∧ R ty v w') := h2
  clear h h2
  go_enter Tryd.func29, Tryd.ntmps29
  go_wp2_with fail
  refine HC.out.mono ?_
  rintro e w1 ⟨rfl, hb⟩
  have HB : Hid (Below w.heap.size w w1) := hb
  clear hb
  go_wp2_with fail
  refine (HU.out _ HB.out).mono ?_
  rintro e w2 ⟨ty, v, rfl, hR⟩
  have HR : Hid (R ty v w2) := hR
  clear hR
  go_wp2_with fail
  go_ret2
  exact ⟨ty, v, rfl, HR.out⟩
end Go.Proofs.YtepnfioldbhffabDoor

/- Walks: by how much what was sent is late, as the statements reckon it. -/
namespace Go.Proofs.YtepnfioldbhffabDoor
open Go.RowKit

set_option maxRecDepth 100000 in
set_option maxHeartbeats 4000000 in
theorem lateOf_any (pa : Option Addr) (pcap : Nat) (ps : List Pk) (a : Option Addr) (cap : Nat) (l : List Sn) (na : Option Addr) (ncap : Nat) (ns : List Int) (w : World) (hp : LiesP w pa ps) (hl : LiesS w a l) (hn : LiesN w na ns) (ho : OkPks ps) (hk : NumsOk 0 1099511627776 ns) (hll : l.length ≤ 300) (ht : tameAll l) (hall : ∀ (i : Nat) x, l[i]? = some x → named ps.length x = true) :
    Calls Tryd.prog 33 #[.slice pa ps.length pcap, .slice a l.length cap, .slice na ns.length ncap] w fun e w' => e = .returned (.int .i64 (lateAll ps ns l)) ∧ Below w.heap.size w w' := by
  have HP : Hid (LiesP w pa ps ∧ OkPks ps) := ⟨hp, ho⟩
  have HL : Hid (LiesS w a l ∧ tameAll l ∧ ∀ (i : Nat) x, l[i]? = some x → named ps.length x = true) := ⟨hl, ht, hall⟩
  have HN : Hid (LiesN w na ns ∧ NumsOk 0 1099511627776 ns) := ⟨hn, hk⟩
  have hfew := ho.few
  have h8 := hk.len
  clear hp hl hn ho hk ht hall
  obtain ⟨n, hnn⟩ : ∃ n, l.length = n := ⟨_, rfl⟩
  obtain ⟨m, hmm⟩ : ∃ m, ps.length = m := ⟨_, rfl⟩
  have HNN : Hid (l.length = n ∧ ps.length = m) := ⟨hnn, hmm⟩
  rw [hnn] at hll ⊢
  rw [hmm] at hfew ⊢
  rw [h8]
  clear hnn hmm h8
  go_enter Tryd.func33, Tryd.ntmps33
  go_wp2_with fail
  go_loopg [7, 8] n (fun gk lt i wr => ∃ k : Nat, gk + k = n ∧ i = .int .i64 k ∧ lt = .int .i64 (lateTo ps ns l k) ∧ Below w.heap.size w wr)
  case atStart => exact ⟨0, by omega, rfl, rfl, Below.refl _ _⟩
  case round =>
    obtain ⟨k, hgk, rfl, rfl, hb⟩ := hrel
    have HB : Hid (Below w.heap.size w wr) := hb
    obtain ⟨lt, hlt⟩ : ∃ lt, lateTo ps ns l k = lt := ⟨_, rfl⟩
    rw [hlt]
    have HLt : Hid (lateTo ps ns l k = lt) := hlt
    clear hlt hb
    by_cases hkn : k < n
    · obtain ⟨x, hx, -⟩ := get_some l k (by rw [HNN.out.1]; exact hkn)
      have hnm := HL.out.2.2 k x hx
      rw [HNN.out.2] at hnm
      obtain ⟨s1, s2⟩ := named_true hnm
      obtain ⟨q, hq⟩ : ∃ q : Nat, x.num = q := ⟨x.num.toNat, by omega⟩
      have hqm : q < m := by omega
      obtain ⟨p, hpq, -⟩ := get_some ps q (by rw [HNN.out.2]; exact hqm)
      obtain ⟨fl, hfl, hf, hfo⟩ := flow_at HP.out.2 hpq
      obtain ⟨du, hdu, hdud⟩ := nums_at HN.out.2.len hfl
      obtain ⟨b, off, rfl, -, hc⟩ := HL.out.1.place (by rw [HNN.out.1]; omega)
      obtain ⟨b2, o2, rfl, -, hc2⟩ := HP.out.1.place (by rw [HNN.out.2]; omega)
      obtain ⟨b3, o3, rfl, -, hc3⟩ := HN.out.1.place (by have := HN.out.2.len; omega)
      have hbw : Below w.heap.size w wr := HB.out
      obtain ⟨sz, hsz⟩ : ∃ sz, p.size = sz := ⟨_, rfl⟩
      obtain ⟨tk, htk⟩ : ∃ tk, p.tick = tk := ⟨_, rfl⟩
      obtain ⟨fi, hfi⟩ : ∃ fi, x.fin = fi := ⟨_, rfl⟩
      have c1 : wr.cell? ⟨b, off + k * 3, none⟩ = some (.int .i64 q) := by rw [← hq]; exact cell_later hbw (hc k _ hx).1
      have e1 : wr.cell? ⟨b2, o2 + q * 3, none⟩ = some (.int .i64 fl) := by rw [← hf]; exact cell_later hbw (hc2 q _ hpq).1
      have e2 : wr.cell? ⟨b2, o2 + q * 3 + 1, none⟩ = some (.int .i64 sz) := by rw [← hsz]; exact cell_later hbw (hc2 q _ hpq).2.1
      have e3 : wr.cell? ⟨b2, o2 + q * 3 + 2, none⟩ = some (.int .i64 tk) := by rw [← htk]; exact cell_later hbw (hc2 q _ hpq).2.2
      have hba : Below wr.heap.size wr (wr.alloc (.cells #[.int .i64 fl, .int .i64 sz, .int .i64 tk] 27)) := (Below.refl _ _).alloc (Nat.le_refl _) _
      have d2 : (wr.alloc (.cells #[.int .i64 fl, .int .i64 sz, .int .i64 tk] 27)).cell? ⟨b3, o3 + fl, none⟩ = some (.int .i64 du) := cell_later hba (cell_later hbw (hc3 fl du hdu))
      have d3 : (wr.alloc (.cells #[.int .i64 fl, .int .i64 sz, .int .i64 tk] 27)).cell? ⟨b, off + k * 3 + 2, none⟩ = some (.int .i64 fi) := by rw [← hfi]; exact cell_later hba (cell_later hbw (hc k _ hx).2.2)
      have hrange : -1125899906842624 ≤ fi ∧ fi ≤ 1125899906842624 ∧ 0 ≤ tk ∧ tk ≤ 1099511627776 := by
        obtain ⟨-, -, t3, t4⟩ := tame_true (HL.out.2.1 k x hx)
        have := okPk_true (HP.out.2.each _ p hpq).1
        omega
      have hdr := HN.out.2.each fl du hdu
      have hw0 : IntKind.i64.wrap (fi - tk) = fi - tk := IntWalk.i64_in _ (by omega)
      have hw : IntKind.i64.wrap (fi - tk - du) = fi - tk - du := IntWalk.i64_in _ (by omega)
      have HNext : Hid (lateTo ps ns l (k + 1) = max lt (fi - tk - du)) := by
        show _ = _
        rw [lateTo_succ hx, HLt.out, lateAt, ofFlow, hq, Int.toNat_natCast, hfo, hdud, tickOf_get hpq, htk, hfi]
      have HBa : Hid (Below w.heap.size w (wr.alloc (.cells #[.int .i64 fl, .int .i64 sz, .int .i64 tk] 27))) := HB.out.alloc HB.out.size _
      clear hc hc2 hc3 hx hnm s1 s2 hpq hf hfo hdu hdud hbw hba hq hsz htk hfi
      by_cases hgt : lt < fi - tk - du
      · have HN2 : Hid (lateTo ps ns l (k + 1) = fi - tk - du) := HNext.out.trans (by omega)
        go_wp2_with fail
        go_quiet (fail)
        go_wp2_with fail
        go_quiet (fail)
        go_wp2_with fail
        go_roundg (gk - 1)
        case measure => omega
        case rel => exact ⟨k + 1, by omega, by go_num, by rw [HN2.out], by first | exact below_drewN HBa.out _ | exact below_drewN (below_drewN HBa.out _) _⟩
      · have HN2 : Hid (lateTo ps ns l (k + 1) = lt) := HNext.out.trans (by omega)
        go_wp2_with fail
        go_quiet (fail)
        go_wp2_with fail
        go_roundg (gk - 1)
        case measure => omega
        case rel => exact ⟨k + 1, by omega, by go_num, by rw [HN2.out], below_drewN HBa.out _⟩
    · obtain rfl : k = n := by omega
      have HEnd : Hid (lateAll ps ns l = lt) := by
        show _ = _
        rw [← HLt.out, lateAll, HNN.out.1]
      go_wp2_with fail
      go_ret
      exact ⟨by rw [HEnd.out]; rfl, HB.out⟩
end Go.Proofs.YtepnfioldbhffabDoor
