/- Own facts, put together: no statement of its own. -/
import Derived.Deep.LoopGhost
import Derived.Test.YtepnfioldbhffabDoorCAllRounds
import Derived.Test.YtepnfioldbhffabDoorCAllLates

/- Walks: the document's answer for rounds: does a flow wait? -/
namespace Go.Proofs.YtepnfioldbhffabDoor
open Go.RowKit

/-- What waits tells. -/
def WaitsEnd (ps : List Pk) (l : List Sn) (f i : Nat) (w : World) (e : Ending) (w' : World) : Prop := ∃ B, e = .returned (.bool B) ∧ (B = true ↔ waitsB ps l f i) ∧ Below w.heap.size w w'

set_option maxRecDepth 100000 in
set_option maxHeartbeats 4000000 in
theorem refWaits_any (pa : Option Addr) (pcap : Nat) (ps : List Pk) (la : Option Addr) (cap : Nat) (l : List Sn) (f i : Nat) (y : Sn) (w : World) (hp : LiesP w pa ps) (hl : LiesS w la l) (ho : OkPks ps) (hll : l.length ≤ 300) (hall : ∀ (i : Nat) x, l[i]? = some x → named ps.length x = true) (hy : l[i]? = some y) :
    Calls Tryd.prog 67 #[.slice pa ps.length pcap, .slice la l.length cap, .int .i64 (f : Int), .int .i64 (i : Int)] w fun e w' => WaitsEnd ps l f i w e w' := by
  have HP : Hid (LiesP w pa ps ∧ OkPks ps) := ⟨hp, ho⟩
  have HL : Hid (LiesS w la l ∧ ∀ (i : Nat) x, l[i]? = some x → named ps.length x = true) := ⟨hl, hall⟩
  have HY : Hid (l[i]? = some y) := hy
  have hfew := ho.few
  have hil := lt_of_get hy
  clear hp hl ho hall hy
  obtain ⟨n, hnn⟩ : ∃ n, l.length = n := ⟨_, rfl⟩
  obtain ⟨m, hmm⟩ : ∃ m, ps.length = m := ⟨_, rfl⟩
  have HNN : Hid (l.length = n ∧ ps.length = m) := ⟨hnn, hmm⟩
  rw [hnn] at hll hil ⊢
  rw [hmm] at hfew ⊢
  clear hnn hmm
  go_enter Tryd.func67, Tryd.ntmps67
  go_wp2_with fail
  go_loopg [9] (n - (i + 1)) (fun gk kv wr => ∃ k : Nat, gk = n - k ∧ i < k ∧ k ≤ n ∧ kv = .int .i64 (k : Int) ∧ (∀ (j : Nat) (x : Sn), i < j → j < k → l[j]? = some x → ¬ (flowOf ps x.num.toNat = f ∧ tickOf ps x.num.toNat ≤ y.beg)) ∧ Below w.heap.size w wr)
  case atStart => exact ⟨i + 1, rfl, by omega, by omega, by go_num, fun j x h1 h2 => by omega, Below.refl _ _⟩
  case round =>
    obtain ⟨k, rfl, hik, hkn', rfl, hno, hb⟩ := hrel
    have HB : Hid (Below w.heap.size w wr) := hb
    have HNo : Hid (∀ (j : Nat) (x : Sn), i < j → j < k → l[j]? = some x → ¬ (flowOf ps x.num.toNat = f ∧ tickOf ps x.num.toNat ≤ y.beg)) := hno
    clear hb hno
    by_cases hkn : k < n
    · obtain ⟨x, hx, -⟩ := get_some l k (by rw [HNN.out.1]; exact hkn)
      have hnm := HL.out.2 k x hx
      rw [HNN.out.2] at hnm
      obtain ⟨s1, s2⟩ := named_true hnm
      obtain ⟨q, hq⟩ : ∃ q : Nat, x.num = q := ⟨x.num.toNat, by omega⟩
      have hqm : q < m := by omega
      obtain ⟨p, hpq, -⟩ := get_some ps q (by rw [HNN.out.2]; exact hqm)
      obtain ⟨fl, hfl, hf, hfo⟩ := flow_at HP.out.2 hpq
      obtain ⟨lb, loff, rfl, -, hc⟩ := HL.out.1.place (by rw [HNN.out.1]; omega)
      obtain ⟨b2, o2, rfl, -, hc2⟩ := HP.out.1.place (by rw [HNN.out.2]; omega)
      have hbw : Below w.heap.size w wr := HB.out
      obtain ⟨sz, hsz⟩ : ∃ sz, p.size = sz := ⟨_, rfl⟩
      obtain ⟨tk, htk⟩ : ∃ tk, p.tick = tk := ⟨_, rfl⟩
      obtain ⟨now, hnow⟩ : ∃ now, y.beg = now := ⟨_, rfl⟩
      have c1 : wr.cell? ⟨lb, loff + k * 3, none⟩ = some (.int .i64 q) := by rw [← hq]; exact cell_later hbw (hc k _ hx).1
      have e1 : wr.cell? ⟨b2, o2 + q * 3, none⟩ = some (.int .i64 fl) := by rw [← hf]; exact cell_later hbw (hc2 q _ hpq).1
      have e2 : wr.cell? ⟨b2, o2 + q * 3 + 1, none⟩ = some (.int .i64 sz) := by rw [← hsz]; exact cell_later hbw (hc2 q _ hpq).2.1
      have e3 : wr.cell? ⟨b2, o2 + q * 3 + 2, none⟩ = some (.int .i64 tk) := by rw [← htk]; exact cell_later hbw (hc2 q _ hpq).2.2
      have hba : Below wr.heap.size wr (wr.alloc (.cells #[.int .i64 fl, .int .i64 sz, .int .i64 tk] 27)) := (Below.refl _ _).alloc (Nat.le_refl _) _
      have d2 : (wr.alloc (.cells #[.int .i64 fl, .int .i64 sz, .int .i64 tk] 27)).cell? ⟨lb, loff + i * 3 + 1, none⟩ = some (.int .i64 now) := by rw [← hnow]; exact cell_later hba (cell_later hbw (hc i _ HY.out).2.1)
      have HW : Hid ((flowOf ps x.num.toNat = f ∧ tickOf ps x.num.toNat ≤ y.beg) ↔ (fl = f ∧ tk ≤ now)) := by
        show _ ↔ _
        rw [hq, Int.toNat_natCast, hfo, tickOf_get hpq, htk, hnow]
      have HX : Hid (l[k]? = some x) := hx
      have HBa : Hid (Below w.heap.size w (wr.alloc (.cells #[.int .i64 fl, .int .i64 sz, .int .i64 tk] 27))) := HB.out.alloc HB.out.size _
      have HNext : Hid (¬ (fl = f ∧ tk ≤ now) → ∀ (j : Nat) (x : Sn), i < j → j < k + 1 → l[j]? = some x → ¬ (flowOf ps x.num.toNat = f ∧ tickOf ps x.num.toNat ≤ y.beg)) := fun hn j z h1 h2 h3 => by
        rcases Nat.lt_or_ge j k with h4 | h4
        · exact HNo.out j z h1 h4 h3
        · obtain rfl : j = k := by omega
          obtain rfl := Option.some.inj (HX.out.symm.trans h3)
          exact fun h5 => hn (HW.out.1 h5)
      clear hc hc2 hx hnm s1 s2 hpq hf hfo hbw hba hq hsz htk hnow
      by_cases hff : fl = f
      · have hd0 : ((fl : Int) == (f : Int)) = true := by simp; omega
        by_cases htt : tk ≤ now
        · have hd : decide (tk ≤ now) = true := decide_eq_true htt
          have HT : Hid (waitsB ps l f i) := by
            obtain ⟨g1, g2⟩ := HW.out.2 ⟨hff, htt⟩
            exact ⟨k, x, y, hik, HY.out, HX.out, g1, g2⟩
          clear hff htt
          go_wp2_with fail
          go_quiet (fail)
          go_wp2_with fail
          go_ret
          exact ⟨true, rfl, ⟨fun _ => HT.out, fun _ => rfl⟩, below_drewN HBa.out _⟩
        · have hd : decide (tk ≤ now) = false := decide_eq_false htt
          have HN2 : Hid (∀ (j : Nat) (x : Sn), i < j → j < k + 1 → l[j]? = some x → ¬ (flowOf ps x.num.toNat = f ∧ tickOf ps x.num.toNat ≤ y.beg)) := HNext.out (fun h => htt h.2)
          clear hff htt
          go_wp2_with fail
          go_quiet (fail)
          go_wp2_with fail
          go_roundg (n - (k + 1))
          case measure => omega
          case rel => exact ⟨k + 1, rfl, by omega, by omega, by go_num, HN2.out, below_drewN HBa.out _⟩
      · have hd0 : ((fl : Int) == (f : Int)) = false := by simp; omega
        have HN2 : Hid (∀ (j : Nat) (x : Sn), i < j → j < k + 1 → l[j]? = some x → ¬ (flowOf ps x.num.toNat = f ∧ tickOf ps x.num.toNat ≤ y.beg)) := HNext.out (fun h => hff h.1)
        clear hff
        go_wp2_with fail
        go_quiet (fail)
        go_wp2_with fail
        go_roundg (n - (k + 1))
        case measure => omega
        case rel => exact ⟨k + 1, rfl, by omega, by omega, by go_num, HN2.out, below_drewN HBa.out _⟩
    · obtain rfl : k = n := by omega
      have HNot : Hid (¬ waitsB ps l f i) := by
        rintro ⟨j, x, z, g1, g2, g3, g4, g5⟩
        obtain rfl := Option.some.inj (HY.out.symm.trans g2)
        have := lt_of_get g3
        rw [HNN.out.1] at this
        exact HNo.out j x g1 this g3 ⟨g4, g5⟩
      go_wp2_with fail
      go_ret
      exact ⟨false, rfl, ⟨(fun h => by cases h), fun h => absurd h HNot.out⟩, HB.out⟩
end Go.Proofs.YtepnfioldbhffabDoor

/- Walks: the document's answer for rounds: how far two flows are from each other. -/
namespace Go.Proofs.YtepnfioldbhffabDoor
open Go.RowKit

/-- What SpreadOf tells. -/
def SpreadEnd (ps : List Pk) (ns : List Int) (l : List Sn) (a b : Nat) (w : World) (e : Ending) (w' : World) : Prop := ∃ m, e = .returned (.int .i64 m) ∧ SpreadIs ps ns l a b m ∧ Below w.heap.size w w'
theorem sum_step {x y x' y' sz qa qb P P' I ld : Int} {ca cb : Prop} [Decidable ca] [Decidable cb] (h : x * qb - y * qa = P - I) (hx : x' = x + (if ca then sz else 0)) (hy : y' = y + (if cb then sz else 0)) (hl : ld = (if ca then sz * qb else 0) - (if cb then sz * qa else 0)) (hP : P' = P + ld) : x' * qb - y' * qa = P' - I := by
  have f1 : ∀ (c : Prop) [Decidable c] (u v : Int), (if c then u else 0) * v = if c then u * v else 0 := fun c _ u v => by split <;> simp
  rw [hx, hy, Int.add_mul, Int.add_mul, f1, f1, hP, hl]
  omega

set_option maxRecDepth 100000 in
set_option maxHeartbeats 16000000 in
theorem spreadOf_any (pa : Option Addr) (pcap : Nat) (ps : List Pk) (la : Option Addr) (cap : Nat) (l : List Sn) (na : Option Addr) (ncap : Nat) (ns : List Int) (a b : Nat) (w : World) (hp : LiesP w pa ps) (hl : LiesS w la l) (hn : LiesN w na ns) (ho : OkPks ps) (hk : NumsOk 1 3000 ns) (ha : a < 8) (hb : b < 8) (hll : l.length ≤ 300) (hall : ∀ (i : Nat) x, l[i]? = some x → named ps.length x = true) :
    Calls Tryd.prog 41 #[.slice pa ps.length pcap, .slice la l.length cap, .slice na ns.length ncap, .int .i64 (a : Int), .int .i64 (b : Int)] w fun e w' => SpreadEnd ps ns l a b w e w' := by
  have HWt : Hid (∀ W f i y, Below w.heap.size w W → l[i]? = some y → Calls Tryd.prog 67 #[.slice pa ps.length pcap, .slice la l.length cap, .int .i64 ((f : Nat) : Int), .int .i64 ((i : Nat) : Int)] W fun e w' => WaitsEnd ps l f i W e w') := fun W f i y hb hy => refWaits_any pa pcap ps la cap l f i y W (hp.below hb) (hl.below hb) ho hll hall hy
  have HP : Hid (LiesP w pa ps ∧ OkPks ps) := ⟨hp, ho⟩
  have HL : Hid (LiesS w la l ∧ ∀ (i : Nat) x, l[i]? = some x → named ps.length x = true) := ⟨hl, hall⟩
  have hfew := ho.few
  have h8 := hk.len
  obtain ⟨qa, hqa', hqae⟩ := nums_at hk.len ha
  obtain ⟨qb, hqb', hqbe⟩ := nums_at hk.len hb
  have hqa := hk.each a qa hqa'
  have hqb := hk.each b qb hqb'
  obtain ⟨b3, o3, rfl, -, hc3⟩ := hn.place (by omega)
  have HQ : Hid (w.cell? ⟨b3, o3 + a, none⟩ = some (.int .i64 qa) ∧ w.cell? ⟨b3, o3 + b, none⟩ = some (.int .i64 qb)) := ⟨hc3 a qa hqa', hc3 b qb hqb'⟩
  have HPre : Hid (∀ k, k ≤ 300 → -1350000000 ≤ pre (leadAt ps ns l a b) k ∧ pre (leadAt ps ns l a b) k ≤ 1350000000) := fun k hk3 => by
    have h1 := pre_abs (lead_abs (l := l) (a := a) (b := b) (ns := ns) (Q := 3000) ho (by omega) (by omega)) k
    have h2 : (1500 * 3000 : Int) * (k : Int) ≤ (1500 * 3000) * 300 := Int.mul_le_mul_of_nonneg_left (by omega) (by omega)
    omega
  have HQe : Hid (ns.getD a 0 = qa ∧ ns.getD b 0 = qb) := ⟨hqae, hqbe⟩
  clear hp hl hn ho hk hall hqa' hqb' hqae hqbe hc3
  obtain ⟨n, hnn⟩ : ∃ n, l.length = n := ⟨_, rfl⟩
  obtain ⟨m, hmm⟩ : ∃ m, ps.length = m := ⟨_, rfl⟩
  have HNN : Hid (l.length = n ∧ ps.length = m) := ⟨hnn, hmm⟩
  rw [h8]
  rw [hnn] at hll HWt ⊢
  rw [hmm] at hfew HWt ⊢
  clear hnn hmm h8
  go_enter Tryd.func41, Tryd.ntmps41
  go_wp2_with fail
  go_loopg [11, 12] n (fun gk mv iv wr => ∃ (i : Nat) (most : Int), gk = n - i ∧ i ≤ n ∧ mv = .int .i64 most ∧ iv = .int .i64 (i : Int) ∧ StretchAt (fun i => waitsB ps l a i ∧ waitsB ps l b i) (leadAt ps ns l a b) n i i most ∧ Below w.heap.size w wr)
  case atStart => exact ⟨0, 0, rfl, Nat.zero_le _, rfl, rfl, StretchAt.start _ _ _, Below.refl _ _⟩
  case round =>
    obtain ⟨i, most0, rfl, hin', rfl, rfl, hst, hb0⟩ := hrel
    have HS0 : Hid (StretchAt (fun i => waitsB ps l a i ∧ waitsB ps l b i) (leadAt ps ns l a b) n i i most0) := hst
    have HB0 : Hid (Below w.heap.size w wr) := hb0
    obtain ⟨W0, hW0⟩ : ∃ W, W = wr := ⟨_, rfl⟩
    subst hW0
    clear hst hb0
    by_cases hin : i < n
    · go_wp2_with fail
      go_loopg [11, 13, 14, 15] (n - i) (fun gi mv xv yv kv wr2 => ∃ (k : Nat) (most x y : Int), gi = n - k ∧ k ≤ n ∧ mv = .int .i64 most ∧ xv = .int .i64 x ∧ yv = .int .i64 y ∧ kv = .int .i64 (k : Int) ∧ 0 ≤ x ∧ x ≤ 1500 * k ∧ 0 ≤ y ∧ y ≤ 1500 * k ∧ x * qb - y * qa = pre (leadAt ps ns l a b) k - pre (leadAt ps ns l a b) i ∧ StretchAt (fun i => waitsB ps l a i ∧ waitsB ps l b i) (leadAt ps ns l a b) n i k most ∧ Below w.heap.size w wr2)
      case atStart => exact ⟨i, most0, 0, 0, rfl, by omega, rfl, rfl, rfl, rfl, by omega, by omega, by omega, by omega, by simp, HS0.out, HB0.out⟩
      case round =>
        obtain ⟨k, most, x, y, rfl, hkn', rfl, rfl, rfl, rfl, x0, x1, y0, y1, hsum, hst, hb0⟩ := hrel
        have HS : Hid (StretchAt (fun i => waitsB ps l a i ∧ waitsB ps l b i) (leadAt ps ns l a b) n i k most) := hst
        have HB : Hid (Below w.heap.size w wr) := hb0
        have HSum : Hid (x * qb - y * qa = pre (leadAt ps ns l a b) k - pre (leadAt ps ns l a b) i) := hsum
        have hst2 := hst.le
        clear hst hb0 hsum
        by_cases hkn : k < n
        · obtain ⟨z, hz, -⟩ := get_some l k (by rw [HNN.out.1]; exact hkn)
          have HZ : Hid (l[k]? = some z) := hz
          have HWa : Hid (Calls Tryd.prog 67 #[.slice pa m pcap, .slice la n cap, .int .i64 (a : Int), .int .i64 (k : Int)] wr fun e w' => WaitsEnd ps l a k wr e w') := HWt.out wr a k z HB.out hz
          clear hz
          go_wp2_with fail
          refine HWa.out.mono ?_
          rintro e1 w1 ⟨B1, rfl, hB1, hb1⟩
          have HB1 : Hid (Below w.heap.size w w1 ∧ (B1 = true ↔ waitsB ps l a k)) := ⟨HB.out.trans (hb1.mono HB.out.size), hB1⟩
          clear hB1 hb1
          cases B1 with
          | false =>
            have HNx : Hid (StretchAt (fun i => waitsB ps l a i ∧ waitsB ps l b i) (leadAt ps ns l a b) n (i + 1) (i + 1) most) := HS.out.next hin (.inr fun h => by have := HB1.out.2.2 h.1; cases this)
            go_wp2_with fail
            go_roundg (n - (i + 1))
            case measure => omega
            case rel => exact ⟨i + 1, most, rfl, by omega, rfl, by go_num, HNx.out, HB1.out.1⟩
          | true =>
            have HWb : Hid (Calls Tryd.prog 67 #[.slice pa m pcap, .slice la n cap, .int .i64 (b : Int), .int .i64 (k : Int)] w1 fun e w' => WaitsEnd ps l b k w1 e w') := HWt.out w1 b k z HB1.out.1 HZ.out
            go_wp2_with fail
            refine HWb.out.mono ?_
            rintro e2 w2 ⟨B2, rfl, hB2, hb2⟩
            have HB2 : Hid (Below w.heap.size w w2 ∧ (B2 = true ↔ waitsB ps l b k)) := ⟨HB1.out.1.trans (hb2.mono HB1.out.1.size), hB2⟩
            clear hB2 hb2
            cases B2 with
            | false =>
              have HNx : Hid (StretchAt (fun i => waitsB ps l a i ∧ waitsB ps l b i) (leadAt ps ns l a b) n (i + 1) (i + 1) most) := HS.out.next hin (.inr fun h => by have := HB2.out.2.2 h.2; cases this)
              go_wp2_with fail
              go_roundg (n - (i + 1))
              case measure => omega
              case rel => exact ⟨i + 1, most, rfl, by omega, rfl, by go_num, HNx.out, HB2.out.1⟩
            | true =>
              have hnm := HL.out.2 k z HZ.out
              rw [HNN.out.2] at hnm
              obtain ⟨s1, s2⟩ := named_true hnm
              obtain ⟨q, hq⟩ : ∃ q : Nat, z.num = q := ⟨z.num.toNat, by omega⟩
              have hqm : q < m := by omega
              obtain ⟨p, hpq, -⟩ := get_some ps q (by rw [HNN.out.2]; exact hqm)
              obtain ⟨fl, hfl, hf, hfo⟩ := flow_at HP.out.2 hpq
              obtain ⟨lb, loff, rfl, -, hc⟩ := HL.out.1.place (by rw [HNN.out.1]; omega)
              obtain ⟨b2, o2, rfl, -, hc2⟩ := HP.out.1.place (by rw [HNN.out.2]; omega)
              have hbw : Below w.heap.size w w2 := HB2.out.1
              obtain ⟨sz, hsz⟩ : ∃ sz, p.size = sz := ⟨_, rfl⟩
              obtain ⟨tk, htk⟩ : ∃ tk, p.tick = tk := ⟨_, rfl⟩
              have c1 : w2.cell? ⟨lb, loff + k * 3, none⟩ = some (.int .i64 q) := by rw [← hq]; exact cell_later hbw (hc k _ HZ.out).1
              have e1 : w2.cell? ⟨b2, o2 + q * 3, none⟩ = some (.int .i64 fl) := by rw [← hf]; exact cell_later hbw (hc2 q _ hpq).1
              have e2 : w2.cell? ⟨b2, o2 + q * 3 + 1, none⟩ = some (.int .i64 sz) := by rw [← hsz]; exact cell_later hbw (hc2 q _ hpq).2.1
              have e3 : w2.cell? ⟨b2, o2 + q * 3 + 2, none⟩ = some (.int .i64 tk) := by rw [← htk]; exact cell_later hbw (hc2 q _ hpq).2.2
              have hba : Below w2.heap.size w2 (w2.alloc (.cells #[.int .i64 fl, .int .i64 sz, .int .i64 tk] 27)) := (Below.refl _ _).alloc (Nat.le_refl _) _
              have da : (w2.alloc (.cells #[.int .i64 fl, .int .i64 sz, .int .i64 tk] 27)).cell? ⟨b3, o3 + a, none⟩ = some (.int .i64 qa) := cell_later hba (cell_later hbw HQ.out.1)
              have db : (w2.alloc (.cells #[.int .i64 fl, .int .i64 sz, .int .i64 tk] 27)).cell? ⟨b3, o3 + b, none⟩ = some (.int .i64 qb) := cell_later hba (cell_later hbw HQ.out.2)
              have HBa : Hid (Below w.heap.size w (w2.alloc (.cells #[.int .i64 fl, .int .i64 sz, .int .i64 tk] 27))) := HB2.out.1.alloc HB2.out.1.size _
              have hsr : 1 ≤ sz ∧ sz ≤ 1500 := by have := okPk_true (HP.out.2.each _ p hpq).1; omega
              obtain ⟨x', hx'⟩ : ∃ x', x' = x + (if fl = a then sz else 0) := ⟨_, rfl⟩
              obtain ⟨y', hy'⟩ : ∃ y', y' = y + (if fl = b then sz else 0) := ⟨_, rfl⟩
              have hlead : leadAt ps ns l a b k = (if fl = a then sz * qb else 0) - (if fl = b then sz * qa else 0) := by
                unfold leadAt
                rw [HZ.out]
                simp only
                rw [hq, Int.toNat_natCast, hfo, bytesOf_get hpq, hsz, HQe.out.1, HQe.out.2]
              have hsum2 := sum_step HSum.out hx' hy' hlead (show pre (leadAt ps ns l a b) (k + 1) = _ from rfl)
              obtain ⟨dd, hdd⟩ : ∃ dd, pre (leadAt ps ns l a b) (k + 1) - pre (leadAt ps ns l a b) i = dd := ⟨_, rfl⟩
              have hp1 := HPre.out (k + 1) (by omega)
              have hp2 := HPre.out i (by omega)
              have hddr : -2700000000 ≤ dd ∧ dd ≤ 2700000000 := by omega
              have x0' : 0 ≤ x' := by rw [hx']; split <;> omega
              have y0' : 0 ≤ y' := by rw [hy']; split <;> omega
              have x1' : x' ≤ 1500 * ((k + 1 : Nat) : Int) := by rw [hx']; split <;> omega
              have y1' : y' ≤ 1500 * ((k + 1 : Nat) : Int) := by rw [hy']; split <;> omega
              have mx0 : 0 ≤ x' * qb := Int.mul_nonneg x0' (by omega)
              have mx1 : x' * qb ≤ 451500 * 3000 := Int.mul_le_mul (by omega) hqb.2 (by omega) (by omega)
              have my0 : 0 ≤ y' * qa := Int.mul_nonneg y0' (by omega)
              have my1 : y' * qa ≤ 451500 * 3000 := Int.mul_le_mul (by omega) hqa.2 (by omega) (by omega)
              have HSum2 : Hid (x' * qb - y' * qa = pre (leadAt ps ns l a b) (k + 1) - pre (leadAt ps ns l a b) i) := hsum2
              rw [hdd] at hsum2
              obtain ⟨X, hX⟩ : ∃ X, x' * qb = X := ⟨_, rfl⟩
              obtain ⟨Y, hY⟩ : ∃ Y, y' * qa = Y := ⟨_, rfl⟩
              rw [hX] at mx0 mx1 hsum2
              rw [hY] at my0 my1 hsum2
              have wX : IntKind.i64.wrap (x' * qb) = X := by rw [hX]; exact IntWalk.i64_in _ (by omega)
              have wY : IntKind.i64.wrap (y' * qa) = Y := by rw [hY]; exact IntWalk.i64_in _ (by omega)
              have wD : IntKind.i64.wrap (X - Y) = dd := by rw [hsum2]; exact IntWalk.i64_in _ (by omega)
              have HX : Hid (0 ≤ x' ∧ x' ≤ 1500 * ((k + 1 : Nat) : Int) ∧ 0 ≤ y' ∧ y' ≤ 1500 * ((k + 1 : Nat) : Int)) := ⟨x0', x1', y0', y1'⟩
              have hsumXY : X - Y = dd := hsum2
              have HSt : Hid (∀ d', 0 ≤ d' → (d' = dd ∨ d' = -dd) → StretchAt (fun i => waitsB ps l a i ∧ waitsB ps l b i) (leadAt ps ns l a b) n i (k + 1) (max most d')) := fun d' h0 h1 => HS.out.more hkn ⟨HB1.out.2.1 (by trivial), HB2.out.2.1 (by trivial)⟩ (by rw [← hdd] at h1; omega) h0 rfl
              clear hnm s1 s2 hq hpq hf hfo hc hc2 hbw hsz htk hba hlead hsum2 hdd hp1 hp2 hX hY x0' y0' x1' y1' mx0 mx1 my0 my1
              by_cases ea : fl = a
              · have ea' : ((fl : Int) == (a : Int)) = true := by simp; omega
                rw [if_pos ea] at hx'
                clear ea
                by_cases eb : fl = b
                · have eb' : ((fl : Int) == (b : Int)) = true := by simp; omega
                  rw [if_pos eb] at hy'
                  clear eb
                  have wx : x + sz = x' := hx'.symm
                  have HXe : Hid (x + sz = x') := wx
                  have wxx : IntKind.i64.wrap (x + sz) = x' := by rw [wx]; exact IntWalk.i64_in _ (by have := HX.out; omega)
                  clear hx'
                  have wy : y + sz = y' := hy'.symm
                  have wyy : IntKind.i64.wrap (y + sz) = y' := by rw [wy]; exact IntWalk.i64_in _ (by have := HX.out; omega)
                  clear hy'
                  by_cases hneg : dd < 0
                  · by_cases hgt : most < -dd
                    · have HNew : Hid (StretchAt (fun i => waitsB ps l a i ∧ waitsB ps l b i) (leadAt ps ns l a b) n i (k + 1) (-dd)) := by
                        have h := HSt.out (-dd) (by omega) (by omega)
                        rwa [show max most (-dd) = (-dd) by omega] at h
                      go_wp2_with fail
                      go_quiet (fail)
                      go_wp2_with fail
                      go_roundg (n - (k + 1))
                      case measure => omega
                      case rel => exact ⟨k + 1, (-dd), x', y', rfl, by omega, rfl, rfl, rfl, by go_num, HX.out.1, HX.out.2.1, HX.out.2.2.1, HX.out.2.2.2, HSum2.out, HNew.out, below_drewN HBa.out _⟩
                    · have HNew : Hid (StretchAt (fun i => waitsB ps l a i ∧ waitsB ps l b i) (leadAt ps ns l a b) n i (k + 1) most) := by
                        have h := HSt.out (-dd) (by omega) (by omega)
                        rwa [show max most (-dd) = most by omega] at h
                      go_wp2_with fail
                      go_quiet (fail)
                      go_wp2_with fail
                      go_roundg (n - (k + 1))
                      case measure => omega
                      case rel => exact ⟨k + 1, most, x', y', rfl, by omega, rfl, rfl, rfl, by go_num, HX.out.1, HX.out.2.1, HX.out.2.2.1, HX.out.2.2.2, HSum2.out, HNew.out, below_drewN HBa.out _⟩
                  · by_cases hgt : most < dd
                    · have HNew : Hid (StretchAt (fun i => waitsB ps l a i ∧ waitsB ps l b i) (leadAt ps ns l a b) n i (k + 1) (dd)) := by
                        have h := HSt.out (dd) (by omega) (by omega)
                        rwa [show max most (dd) = (dd) by omega] at h
                      go_wp2_with fail
                      go_quiet (fail)
                      go_wp2_with fail
                      go_roundg (n - (k + 1))
                      case measure => omega
                      case rel => exact ⟨k + 1, (dd), x', y', rfl, by omega, rfl, rfl, rfl, by go_num, HX.out.1, HX.out.2.1, HX.out.2.2.1, HX.out.2.2.2, HSum2.out, HNew.out, below_drewN HBa.out _⟩
                    · have HNew : Hid (StretchAt (fun i => waitsB ps l a i ∧ waitsB ps l b i) (leadAt ps ns l a b) n i (k + 1) most) := by
                        have h := HSt.out (dd) (by omega) (by omega)
                        rwa [show max most (dd) = most by omega] at h
                      go_wp2_with fail
                      go_quiet (fail)
                      go_wp2_with fail
                      go_roundg (n - (k + 1))
                      case measure => omega
                      case rel => exact ⟨k + 1, most, x', y', rfl, by omega, rfl, rfl, rfl, by go_num, HX.out.1, HX.out.2.1, HX.out.2.2.1, HX.out.2.2.2, HSum2.out, HNew.out, below_drewN HBa.out _⟩
                · have eb' : ((fl : Int) == (b : Int)) = false := by simp; omega
                  rw [if_neg eb, Int.add_zero] at hy'
                  subst hy'
                  clear eb
                  have wx : x + sz = x' := hx'.symm
                  have HXe : Hid (x + sz = x') := wx
                  have wxx : IntKind.i64.wrap (x + sz) = x' := by rw [wx]; exact IntWalk.i64_in _ (by have := HX.out; omega)
                  clear hx'
                  by_cases hneg : dd < 0
                  · by_cases hgt : most < -dd
                    · have HNew : Hid (StretchAt (fun i => waitsB ps l a i ∧ waitsB ps l b i) (leadAt ps ns l a b) n i (k + 1) (-dd)) := by
                        have h := HSt.out (-dd) (by omega) (by omega)
                        rwa [show max most (-dd) = (-dd) by omega] at h
                      go_wp2_with fail
                      go_quiet (fail)
                      go_wp2_with fail
                      go_roundg (n - (k + 1))
                      case measure => omega
                      case rel => exact ⟨k + 1, (-dd), x', y', rfl, by omega, rfl, rfl, rfl, by go_num, HX.out.1, HX.out.2.1, HX.out.2.2.1, HX.out.2.2.2, HSum2.out, HNew.out, below_drewN HBa.out _⟩
                    · have HNew : Hid (StretchAt (fun i => waitsB ps l a i ∧ waitsB ps l b i) (leadAt ps ns l a b) n i (k + 1) most) := by
                        have h := HSt.out (-dd) (by omega) (by omega)
                        rwa [show max most (-dd) = most by omega] at h
                      go_wp2_with fail
                      go_quiet (fail)
                      go_wp2_with fail
                      go_roundg (n - (k + 1))
                      case measure => omega
                      case rel => exact ⟨k + 1, most, x', y', rfl, by omega, rfl, rfl, rfl, by go_num, HX.out.1, HX.out.2.1, HX.out.2.2.1, HX.out.2.2.2, HSum2.out, HNew.out, below_drewN HBa.out _⟩
                  · by_cases hgt : most < dd
                    · have HNew : Hid (StretchAt (fun i => waitsB ps l a i ∧ waitsB ps l b i) (leadAt ps ns l a b) n i (k + 1) (dd)) := by
                        have h := HSt.out (dd) (by omega) (by omega)
                        rwa [show max most (dd) = (dd) by omega] at h
                      go_wp2_with fail
                      go_quiet (fail)
                      go_wp2_with fail
                      go_roundg (n - (k + 1))
                      case measure => omega
                      case rel => exact ⟨k + 1, (dd), x', y', rfl, by omega, rfl, rfl, rfl, by go_num, HX.out.1, HX.out.2.1, HX.out.2.2.1, HX.out.2.2.2, HSum2.out, HNew.out, below_drewN HBa.out _⟩
                    · have HNew : Hid (StretchAt (fun i => waitsB ps l a i ∧ waitsB ps l b i) (leadAt ps ns l a b) n i (k + 1) most) := by
                        have h := HSt.out (dd) (by omega) (by omega)
                        rwa [show max most (dd) = most by omega] at h
                      go_wp2_with fail
                      go_quiet (fail)
                      go_wp2_with fail
                      go_roundg (n - (k + 1))
                      case measure => omega
                      case rel => exact ⟨k + 1, most, x', y', rfl, by omega, rfl, rfl, rfl, by go_num, HX.out.1, HX.out.2.1, HX.out.2.2.1, HX.out.2.2.2, HSum2.out, HNew.out, below_drewN HBa.out _⟩
              · have ea' : ((fl : Int) == (a : Int)) = false := by simp; omega
                rw [if_neg ea, Int.add_zero] at hx'
                subst hx'
                clear ea
                by_cases eb : fl = b
                · have eb' : ((fl : Int) == (b : Int)) = true := by simp; omega
                  rw [if_pos eb] at hy'
                  clear eb
                  have wy : y + sz = y' := hy'.symm
                  have wyy : IntKind.i64.wrap (y + sz) = y' := by rw [wy]; exact IntWalk.i64_in _ (by have := HX.out; omega)
                  clear hy'
                  by_cases hneg : dd < 0
                  · by_cases hgt : most < -dd
                    · have HNew : Hid (StretchAt (fun i => waitsB ps l a i ∧ waitsB ps l b i) (leadAt ps ns l a b) n i (k + 1) (-dd)) := by
                        have h := HSt.out (-dd) (by omega) (by omega)
                        rwa [show max most (-dd) = (-dd) by omega] at h
                      go_wp2_with fail
                      go_quiet (fail)
                      go_wp2_with fail
                      go_roundg (n - (k + 1))
                      case measure => omega
                      case rel => exact ⟨k + 1, (-dd), x', y', rfl, by omega, rfl, rfl, rfl, by go_num, HX.out.1, HX.out.2.1, HX.out.2.2.1, HX.out.2.2.2, HSum2.out, HNew.out, below_drewN HBa.out _⟩
                    · have HNew : Hid (StretchAt (fun i => waitsB ps l a i ∧ waitsB ps l b i) (leadAt ps ns l a b) n i (k + 1) most) := by
                        have h := HSt.out (-dd) (by omega) (by omega)
                        rwa [show max most (-dd) = most by omega] at h
                      go_wp2_with fail
                      go_quiet (fail)
                      go_wp2_with fail
                      go_roundg (n - (k + 1))
                      case measure => omega
                      case rel => exact ⟨k + 1, most, x', y', rfl, by omega, rfl, rfl, rfl, by go_num, HX.out.1, HX.out.2.1, HX.out.2.2.1, HX.out.2.2.2, HSum2.out, HNew.out, below_drewN HBa.out _⟩
                  · by_cases hgt : most < dd
                    · have HNew : Hid (StretchAt (fun i => waitsB ps l a i ∧ waitsB ps l b i) (leadAt ps ns l a b) n i (k + 1) (dd)) := by
                        have h := HSt.out (dd) (by omega) (by omega)
                        rwa [show max most (dd) = (dd) by omega] at h
                      go_wp2_with fail
                      go_quiet (fail)
                      go_wp2_with fail
                      go_roundg (n - (k + 1))
                      case measure => omega
                      case rel => exact ⟨k + 1, (dd), x', y', rfl, by omega, rfl, rfl, rfl, by go_num, HX.out.1, HX.out.2.1, HX.out.2.2.1, HX.out.2.2.2, HSum2.out, HNew.out, below_drewN HBa.out _⟩
                    · have HNew : Hid (StretchAt (fun i => waitsB ps l a i ∧ waitsB ps l b i) (leadAt ps ns l a b) n i (k + 1) most) := by
                        have h := HSt.out (dd) (by omega) (by omega)
                        rwa [show max most (dd) = most by omega] at h
                      go_wp2_with fail
                      go_quiet (fail)
                      go_wp2_with fail
                      go_roundg (n - (k + 1))
                      case measure => omega
                      case rel => exact ⟨k + 1, most, x', y', rfl, by omega, rfl, rfl, rfl, by go_num, HX.out.1, HX.out.2.1, HX.out.2.2.1, HX.out.2.2.2, HSum2.out, HNew.out, below_drewN HBa.out _⟩
                · have eb' : ((fl : Int) == (b : Int)) = false := by simp; omega
                  rw [if_neg eb, Int.add_zero] at hy'
                  subst hy'
                  clear eb
                  by_cases hneg : dd < 0
                  · by_cases hgt : most < -dd
                    · have HNew : Hid (StretchAt (fun i => waitsB ps l a i ∧ waitsB ps l b i) (leadAt ps ns l a b) n i (k + 1) (-dd)) := by
                        have h := HSt.out (-dd) (by omega) (by omega)
                        rwa [show max most (-dd) = (-dd) by omega] at h
                      go_wp2_with fail
                      go_quiet (fail)
                      go_wp2_with fail
                      go_roundg (n - (k + 1))
                      case measure => omega
                      case rel => exact ⟨k + 1, (-dd), x', y', rfl, by omega, rfl, rfl, rfl, by go_num, HX.out.1, HX.out.2.1, HX.out.2.2.1, HX.out.2.2.2, HSum2.out, HNew.out, below_drewN HBa.out _⟩
                    · have HNew : Hid (StretchAt (fun i => waitsB ps l a i ∧ waitsB ps l b i) (leadAt ps ns l a b) n i (k + 1) most) := by
                        have h := HSt.out (-dd) (by omega) (by omega)
                        rwa [show max most (-dd) = most by omega] at h
                      go_wp2_with fail
                      go_quiet (fail)
                      go_wp2_with fail
                      go_roundg (n - (k + 1))
                      case measure => omega
                      case rel => exact ⟨k + 1, most, x', y', rfl, by omega, rfl, rfl, rfl, by go_num, HX.out.1, HX.out.2.1, HX.out.2.2.1, HX.out.2.2.2, HSum2.out, HNew.out, below_drewN HBa.out _⟩
                  · by_cases hgt : most < dd
                    · have HNew : Hid (StretchAt (fun i => waitsB ps l a i ∧ waitsB ps l b i) (leadAt ps ns l a b) n i (k + 1) (dd)) := by
                        have h := HSt.out (dd) (by omega) (by omega)
                        rwa [show max most (dd) = (dd) by omega] at h
                      go_wp2_with fail
                      go_quiet (fail)
                      go_wp2_with fail
                      go_roundg (n - (k + 1))
                      case measure => omega
                      case rel => exact ⟨k + 1, (dd), x', y', rfl, by omega, rfl, rfl, rfl, by go_num, HX.out.1, HX.out.2.1, HX.out.2.2.1, HX.out.2.2.2, HSum2.out, HNew.out, below_drewN HBa.out _⟩
                    · have HNew : Hid (StretchAt (fun i => waitsB ps l a i ∧ waitsB ps l b i) (leadAt ps ns l a b) n i (k + 1) most) := by
                        have h := HSt.out (dd) (by omega) (by omega)
                        rwa [show max most (dd) = most by omega] at h
                      go_wp2_with fail
                      go_quiet (fail)
                      go_wp2_with fail
                      go_roundg (n - (k + 1))
                      case measure => omega
                      case rel => exact ⟨k + 1, most, x', y', rfl, by omega, rfl, rfl, rfl, by go_num, HX.out.1, HX.out.2.1, HX.out.2.2.1, HX.out.2.2.2, HSum2.out, HNew.out, below_drewN HBa.out _⟩
        · obtain rfl : k = n := by omega
          have HNx : Hid (StretchAt (fun i => waitsB ps l a i ∧ waitsB ps l b i) (leadAt ps ns l a b) k (i + 1) (i + 1) most) := HS.out.next hin (.inl rfl)
          go_wp2_with fail
          go_roundg (k - (i + 1))
          case measure => omega
          case rel => exact ⟨i + 1, most, rfl, by omega, rfl, by go_num, HNx.out, HB.out⟩
    · obtain rfl : i = n := by omega
      have HEnd : Hid (SpreadIs ps ns l a b most0) := by
        have := HS0.out.end_
        rw [← HNN.out.1] at this
        exact this
      go_wp2_with fail
      go_ret
      exact ⟨most0, rfl, HEnd.out, HB0.out⟩
end Go.Proofs.YtepnfioldbhffabDoor
