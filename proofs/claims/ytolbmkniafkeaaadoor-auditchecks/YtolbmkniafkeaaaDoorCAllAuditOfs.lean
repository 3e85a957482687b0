/- Own facts, put together: no statement of its own. -/
import Derived.Deep.LoopGhost
import Derived.Test.YtolbmkniafkeaaaDoorCAllAudits
import Derived.Test.YtolbmkniafkeaaaDoorCAllLeasts
import Derived.Test.YtolbmkniafkeaaaDoorCAllPkts
import Derived.Test.YtolbmkniafkeaaaDoorCFault1
import Derived.Test.YtolbmkniafkeaaaDoorCAllDelays

/- Walks: the document's answer for an audit: what is wrong with one that was sent, and with all. -/
namespace Go.Proofs.YtolbmkniafkeaaaDoor
open Go.RowKit

/-- What sentError leaves. -/
def CodeEnd (c : Int) (w : World) (e : Ending) (w' : World) : Prop := e = .returned (.int .i64 c) ∧ Below w.heap.size w w'
set_option maxRecDepth 100000 in
set_option maxHeartbeats 8000000 in
theorem refSentError_is (pa : Option Addr) (pcap : Nat) (ps : List Pk) (per : Int) (gd : Nat) (out : List Sn) (num beg fin : Int) (w : World) (c : Int) (hp : LiesP w pa ps) (ho : OkPks ps) (h1 : 1 ≤ per) (h2 : per ≤ 1000) (hd : DoneAt w gd ps.length out) (ht : -2000000000000000 ≤ beg ∧ beg ≤ 2000000000000000 ∧ -2000000000000000 ≤ fin ∧ fin ≤ 2000000000000000) (h : SentIs per ps out ⟨num, beg, fin⟩ c) :
    Calls Tryd.prog 29 #[.slice pa ps.length pcap, .int .i64 per, .slice (some ⟨gd, 0, none⟩) ps.length ps.length, .int .i64 (lastFin out), .agg #[.int .i64 num, .int .i64 beg, .int .i64 fin]] w fun e w' => CodeEnd c w e w' := by
  obtain ⟨lf, hlf⟩ : ∃ lf, lastFin out = lf := ⟨_, rfl⟩
  have hfew := ho.few
  obtain ⟨n, hn⟩ : ∃ n, ps.length = n := ⟨_, rfl⟩
  have HN : Hid (ps.length = n ∧ lastFin out = lf) := ⟨hn, hlf⟩
  have HD : Hid (DoneAt w gd n out) := by rw [← hn]; exact hd
  have HP : Hid (LiesP w pa ps ∧ OkPks ps) := ⟨hp, ho⟩
  have HW : Hid (Below w.heap.size w (w.alloc (.cells #[.int .i64 num, .int .i64 beg, .int .i64 fin] 44))) := (Below.refl _ _).alloc (Nat.le_refl _) _
  rw [hn] at hfew
  rw [hn, hlf]
  rcases h with ⟨rfl, hnum⟩ | ⟨k, hk, hkl, hrest⟩
  · clear hp ho hd hlf
    rw [hn] at hnum
    clear hn
    rcases hnum with hnum | hnum
    · go_enter Tryd.func29, Tryd.ntmps29
      go_wp2_with fail
      go_ret
      exact ⟨rfl, HW.out⟩
    · have hnum0 : ¬ num < 0 := by simp only at hnum; omega
      have hnum' : (n : Int) ≤ num := hnum
      clear hnum
      go_enter Tryd.func29, Tryd.ntmps29
      go_wp2_with fail
      go_ret
      exact ⟨rfl, HW.out⟩
  · obtain rfl : num = (k : Int) := hk
    rw [hn] at hkl
    obtain ⟨p, hpk, -⟩ := get_some ps k (by rw [hn]; exact hkl)
    obtain ⟨b2, o2, rfl, -, hc2⟩ := hp.place (by omega)
    have hok := okPk_true (ho.each _ p hpk).1
    have d0 := cell_later HW.out (hc2 k p hpk).1
    have d1 := cell_later HW.out (hc2 k p hpk).2.1
    have d2 := cell_later HW.out (hc2 k p hpk).2.2
    have dk := cell_later HW.out (HD.out.cell k hkl)
    have HC : Hid (∀ (i : Nat) q, ps[i]? = some q → w.cell? ⟨b2, o2 + i * 3, none⟩ = some (.int .i64 q.flow) ∧ w.cell? ⟨b2, o2 + i * 3 + 2, none⟩ = some (.int .i64 q.tick)) := fun i q hq => ⟨(hc2 i q hq).1, (hc2 i q hq).2.2⟩
    have HPk : Hid (ps[k]? = some p) := hpk
    have htk := tickOf_get hpk
    have hby := bytesOf_get hpk
    clear hc2 hp
    rcases hrest with ⟨rfl, hdn⟩ | ⟨hdn, hrest⟩
    · rw [hdn] at dk
      clear hpk hn hlf hd htk hby d0 d1 d2 ho hdn
      go_enter Tryd.func29, Tryd.ntmps29
      go_wp2_with fail
      go_ret
      exact ⟨rfl, HW.out⟩
    · rw [hdn] at dk
      obtain ⟨x0, hx0⟩ : ∃ x, p.flow = x := ⟨_, rfl⟩
      obtain ⟨x1, hx1⟩ : ∃ x, p.size = x := ⟨_, rfl⟩
      obtain ⟨x2, hx2⟩ : ∃ x, p.tick = x := ⟨_, rfl⟩
      rw [hx0] at d0 hok
      rw [hx1] at d1 hok hby
      rw [hx2] at d2 hok htk
      rw [htk, hby, hlf] at hrest
      simp only at hrest
      have hb2 : Below w.heap.size w ((w.alloc (.cells #[.int .i64 (k : Int), .int .i64 beg, .int .i64 fin] 44)).alloc (.cells #[.int .i64 x0, .int .i64 x1, .int .i64 x2] 42)) := HW.out.alloc HW.out.size _
      have HW2 : Hid (Below w.heap.size w ((w.alloc (.cells #[.int .i64 (k : Int), .int .i64 beg, .int .i64 fin] 44)).alloc (.cells #[.int .i64 x0, .int .i64 x1, .int .i64 x2] 42))) := hb2
      have HFl : Hid (p.flow = x0) := hx0
      rcases hrest with ⟨rfl, hold⟩ | ⟨o1, o2', hrest⟩
      · by_cases hb1 : beg < x2
        · clear hpk hn hlf hd htk hby ho hdn hold hb2 hx0 hx1 hx2
          go_enter Tryd.func29, Tryd.ntmps29
          go_wp2_with fail
          go_ret
          exact ⟨rfl, HW2.out⟩
        · have hb3 : beg < lf := by omega
          clear hpk hn hlf hd htk hby ho hdn hold hb2 hx0 hx1 hx2
          go_enter Tryd.func29, Tryd.ntmps29
          go_wp2_with fail
          go_ret
          exact ⟨rfl, HW2.out⟩
      · have a1 : 0 ≤ per * x1 := Int.mul_nonneg (by omega) (by omega)
        have a2 : per * x1 ≤ 1000 * 1500 := Int.mul_le_mul (by omega) (by omega) (by omega) (by omega)
        obtain ⟨m, hm⟩ : ∃ m, per * x1 = m := ⟨_, rfl⟩
        rw [hm] at a1 a2 hrest
        have v1 : IntKind.i64.wrap (per * x1) = m := by rw [hm]; exact IntWalk.i64_in _ (by omega)
        have v2 : IntKind.i64.wrap (fin - beg) = fin - beg := IntWalk.i64_in _ (by omega)
        have n1 : ¬ beg < x2 := by omega
        have n2 : ¬ beg < lf := by omega
        clear hm
        rcases hrest with ⟨rfl, hsh⟩ | ⟨hsh, hrest⟩
        · have s1 : (fin - beg == m) = false := by simpa using hsh
          clear hpk hn hlf hd htk hby ho hdn hb2 hx0 hx1 hx2 hok
          go_enter Tryd.func29, Tryd.ntmps29
          go_wp2_with fail
          go_ret
          exact ⟨rfl, HW2.out⟩
        · have s1 : (fin - beg == m) = true := by simpa using hsh
          obtain ⟨V, hV⟩ : ∃ V, (w.alloc (.cells #[.int .i64 (k : Int), .int .i64 beg, .int .i64 fin] 44)).alloc (.cells #[.int .i64 x0, .int .i64 x1, .int .i64 x2] 42) = V := ⟨_, rfl⟩
          have HVb : Hid (Below w.heap.size w V) := by rw [hV] at hb2; exact hb2
          have e0 : V.cell? ⟨w.heap.size, 0, none⟩ = some (.int .i64 (k : Int)) := by rw [← hV]; exact cell_later ((Below.refl _ _).alloc (Nat.le_refl _) _) (by simp)
          have e1 : V.cell? ⟨w.heap.size, 1, none⟩ = some (.int .i64 beg) := by rw [← hV]; exact cell_later ((Below.refl _ _).alloc (Nat.le_refl _) _) (by simp)
          have e2 : V.cell? ⟨w.heap.size + 1, 0, none⟩ = some (.int .i64 x0) := by rw [← hV]; simp
          have HV : Hid ((w.alloc (.cells #[.int .i64 (k : Int), .int .i64 beg, .int .i64 fin] 44)).alloc (.cells #[.int .i64 x0, .int .i64 x1, .int .i64 x2] 42) = V) := hV
          have HIs : Hid ((c = 7 ∧ IdlesAt ps out ⟨(k : Int), beg, fin⟩) ∨ (¬ IdlesAt ps out ⟨(k : Int), beg, fin⟩ ∧ ((c = 8 ∧ OutOfTurn ps out k) ∨ (c = 0 ∧ ¬ OutOfTurn ps out k)))) := hrest
          have HFlow : Hid (∀ (j : Nat) q, ps[j]? = some q → (flowOf ps j = flowOf ps k ↔ q.flow = x0)) := fun j q hq => by
            have a1 := okPk_true (HP.out.2.each _ q hq).1
            have a2 := okPk_true (HP.out.2.each _ p HPk.out).1
            rw [flowOf_get hq, flowOf_get HPk.out, ← HFl.out]
            omega
          have hki : (k : Int) < n := by omega
          clear hpk hn hlf hd htk hby ho hdn hb2 hx0 hx1 hx2 hok hrest hV
          go_enter Tryd.func29, Tryd.ntmps29
          go_wp2_with fail
          rw [HV.out]
          go_loopg [12] n (fun gk iv wr => ∃ i : Nat, gk = n - i ∧ i ≤ n ∧ iv = .int .i64 (i : Int) ∧ (∀ j, j < i → ¬ (lf < beg ∧ isDone out j = false ∧ tickOf ps j < beg)) ∧ ∃ q, wr = V.drewN q)
          case atStart => exact ⟨0, rfl, Nat.zero_le _, rfl, fun j hj => absurd hj (Nat.not_lt_zero _), 0, rfl⟩
          case round =>
            obtain ⟨i, rfl, hin', rfl, hno, q, rfl⟩ := hrel
            have HNo : Hid (∀ j, j < i → ¬ (lf < beg ∧ isDone out j = false ∧ tickOf ps j < beg)) := hno
            clear hno
            by_cases hin : i < n
            · obtain ⟨r, hr, -⟩ := get_some ps i (by rw [HN.out.1]; exact hin)
              have ci := cell_later HVb.out (HD.out.cell i hin)
              have ti := cell_later HVb.out (HC.out i r hr).2
              have HTi : Hid (tickOf ps i = r.tick) := tickOf_get hr
              obtain ⟨tk, htk⟩ : ∃ tk, r.tick = tk := ⟨_, rfl⟩
              rw [htk] at ti HTi
              have hnext : ∀ (_ : ¬ (lf < beg ∧ isDone out i = false ∧ tk < beg)), ∀ j, j < i + 1 → ¬ (lf < beg ∧ isDone out j = false ∧ tickOf ps j < beg) := fun hh j hj => by
                rcases Nat.lt_or_ge j i with h' | h'
                · exact HNo.out j h'
                · obtain rfl : j = i := by omega
                  rw [HTi.out]
                  exact hh
              have HNext : Hid (∀ (_ : ¬ (lf < beg ∧ isDone out i = false ∧ tk < beg)), ∀ j, j < i + 1 → ¬ (lf < beg ∧ isDone out j = false ∧ tickOf ps j < beg)) := hnext
              clear hnext hr htk
              cases hdi : isDone out i with
              | true =>
                rw [hdi] at ci
                have HK : Hid (∀ j, j < i + 1 → ¬ (lf < beg ∧ isDone out j = false ∧ tickOf ps j < beg)) := HNext.out (fun h => by rw [hdi] at h; cases h.2.1)
                clear hdi
                go_wp2_with fail
                go_quiet (fail)
                go_wp2_with fail
                go_roundg (n - (i + 1))
                case measure => omega
                case rel => exact ⟨i + 1, rfl, by omega, by go_num, HK.out, _, rfl⟩
              | false =>
                rw [hdi] at ci
                by_cases hlb : lf < beg
                · have t1 : decide (lf < beg) = true := decide_eq_true hlb
                  have t1' : decide (beg > lf) = true := decide_eq_true hlb
                  by_cases htb : tk < beg
                  · have t2 : decide (tk < beg) = true := decide_eq_true htb
                    have HC7 : Hid (c = 7) := by
                      rcases HIs.out with ⟨h, -⟩ | ⟨h, -⟩
                      · exact h
                      · exact absurd ⟨by rw [HN.out.2]; exact hlb, i, by rw [HN.out.1]; exact hin, hdi, by rw [HTi.out]; exact htb⟩ h
                    clear hdi
                    go_wp2_with fail
                    go_quiet (fail)
                    go_wp2_with fail
                    go_ret
                    exact ⟨by rw [HC7.out]; rfl, below_drewN (below_drewN HVb.out _) _⟩
                  · have t2 : decide (tk < beg) = false := decide_eq_false htb
                    have HK : Hid (∀ j, j < i + 1 → ¬ (lf < beg ∧ isDone out j = false ∧ tickOf ps j < beg)) := HNext.out (fun h => htb h.2.2)
                    clear hdi
                    go_wp2_with fail
                    go_quiet (fail)
                    go_wp2_with fail
                    go_roundg (n - (i + 1))
                    case measure => omega
                    case rel => exact ⟨i + 1, rfl, by omega, by go_num, HK.out, _, rfl⟩
                · have t1 : decide (lf < beg) = false := decide_eq_false hlb
                  have t1' : decide (beg > lf) = false := decide_eq_false hlb
                  have HK : Hid (∀ j, j < i + 1 → ¬ (lf < beg ∧ isDone out j = false ∧ tickOf ps j < beg)) := HNext.out (fun h => hlb h.1)
                  clear hdi
                  go_wp2_with fail
                  go_quiet (fail)
                  go_wp2_with fail
                  go_roundg (n - (i + 1))
                  case measure => omega
                  case rel => exact ⟨i + 1, rfl, by omega, by go_num, HK.out, _, rfl⟩
            · have HIs2 : Hid ((c = 8 ∧ OutOfTurn ps out k) ∨ (c = 0 ∧ ¬ OutOfTurn ps out k)) := by
                rcases HIs.out with ⟨-, h, j, hj, hjd, hjt⟩ | ⟨-, h⟩
                · exact absurd ⟨by rw [← HN.out.2]; exact h, hjd, hjt⟩ (HNo.out j (by rw [HN.out.1] at hj; omega))
                · exact h
              obtain ⟨V2, hV2⟩ : ∃ V2, V.drewN q = V2 := ⟨_, rfl⟩
              have HVb2 : Hid (Below w.heap.size w V2) := by
                show Below _ _ _
                rw [← hV2]
                exact below_drewN HVb.out _
              have g0 : V2.cell? ⟨w.heap.size, 0, none⟩ = some (.int .i64 (k : Int)) := by rw [← hV2]; exact e0
              have g2 : V2.cell? ⟨w.heap.size + 1, 0, none⟩ = some (.int .i64 x0) := by rw [← hV2]; exact e2
              rw [hV2]
              clear hV2 e0 e1 e2
              go_wp2_with fail
              go_loopg [13] k (fun gk iv wr => ∃ i : Nat, gk = k - i ∧ i ≤ k ∧ iv = .int .i64 (i : Int) ∧ (∀ j, j < i → ¬ (isDone out j = false ∧ flowOf ps j = flowOf ps k)) ∧ ∃ q, wr = V2.drewN q)
              case atStart => exact ⟨0, rfl, Nat.zero_le _, rfl, fun j hj => absurd hj (Nat.not_lt_zero _), 0, rfl⟩
              case round =>
                obtain ⟨i', rfl, hik', rfl, hno, q', rfl⟩ := hrel
                have HNo2 : Hid (∀ j, j < i' → ¬ (isDone out j = false ∧ flowOf ps j = flowOf ps k)) := hno
                clear hno
                by_cases hik : i' < k
                · have hin2 : i' < n := by omega
                  obtain ⟨r, hr, -⟩ := get_some ps i' (by rw [HN.out.1]; exact hin2)
                  have ci := cell_later HVb2.out (HD.out.cell i' hin2)
                  have fi := cell_later HVb2.out (HC.out i' r hr).1
                  have HFi := HFlow.out i' r hr
                  obtain ⟨fl, hfl⟩ : ∃ fl, r.flow = fl := ⟨_, rfl⟩
                  rw [hfl] at fi HFi
                  have HFi' : Hid (flowOf ps i' = flowOf ps k ↔ fl = x0) := HFi
                  have HNext : Hid (∀ (_ : ¬ (isDone out i' = false ∧ fl = x0)), ∀ j, j < i' + 1 → ¬ (isDone out j = false ∧ flowOf ps j = flowOf ps k)) := fun hh j hj => by
                    rcases Nat.lt_or_ge j i' with h' | h'
                    · exact HNo2.out j h'
                    · obtain rfl : j = i' := by omega
                      rw [HFi'.out]
                      exact hh
                  clear hr hfl HFi
                  cases hdi : isDone out i' with
                  | true =>
                    rw [hdi] at ci
                    have HK : Hid (∀ j, j < i' + 1 → ¬ (isDone out j = false ∧ flowOf ps j = flowOf ps k)) := HNext.out (fun h => by rw [hdi] at h; cases h.1)
                    clear hdi
                    go_wp2_with fail
                    go_quiet (fail)
                    go_wp2_with fail
                    go_roundg (k - (i' + 1))
                    case measure => omega
                    case rel => exact ⟨i' + 1, rfl, by omega, by go_num, HK.out, _, rfl⟩
                  | false =>
                    rw [hdi] at ci
                    by_cases hff : fl = x0
                    · have t2 : (fl == x0) = true := by simpa using hff
                      have HC8 : Hid (c = 8) := by
                        rcases HIs2.out with ⟨h, -⟩ | ⟨-, h⟩
                        · exact h
                        · exact absurd ⟨i', hik, hdi, HFi'.out.2 hff⟩ h
                      clear hdi hff
                      go_wp2_with fail
                      go_quiet (fail)
                      go_wp2_with fail
                      go_ret
                      exact ⟨by rw [HC8.out]; rfl, below_drewN (below_drewN HVb2.out _) _⟩
                    · have t2 : (fl == x0) = false := by simpa using hff
                      have HK : Hid (∀ j, j < i' + 1 → ¬ (isDone out j = false ∧ flowOf ps j = flowOf ps k)) := HNext.out (fun h => hff h.2)
                      clear hdi hff
                      go_wp2_with fail
                      go_quiet (fail)
                      go_wp2_with fail
                      go_roundg (k - (i' + 1))
                      case measure => omega
                      case rel => exact ⟨i' + 1, rfl, by omega, by go_num, HK.out, _, rfl⟩
                · have HC0 : Hid (c = 0) := by
                    rcases HIs2.out with ⟨-, j, hj, hjd, hjf⟩ | ⟨h, -⟩
                    · exact absurd ⟨hjd, hjf⟩ (HNo2.out j (by omega))
                    · exact h
                  go_wp2_with fail
                  go_ret
                  exact ⟨by rw [HC0.out]; rfl, below_drewN HVb2.out _⟩
end Go.Proofs.YtolbmkniafkeaaaDoor

/- Walks: the document's answer for an audit: what is wrong with all that was sent. -/
namespace Go.Proofs.YtolbmkniafkeaaaDoor
open Go.RowKit

/-- What is wrong, packets and ticks first. -/
def AuditAll (per : Int) (ps : List Pk) (l : List Sn) (c p : Int) : Prop := (LinkFaultIs ps per c p ∧ 0 < c) ∨ (OkPks ps ∧ 1 ≤ per ∧ per ≤ 1000 ∧ AuditIs per ps l c p)
theorem auditAll_is (per : Int) (ps : List Pk) (l : List Sn) : ∃ c p, AuditAll per ps l c p := by
  obtain ⟨c, p, hf⟩ := linkFault_is ps per
  rcases hf.num with ⟨-, -, ho, h1, h2⟩ | hc
  · obtain ⟨c, p, h⟩ := auditIs_is per ps l
    exact ⟨c, p, .inr ⟨ho, h1, h2, h⟩⟩
  · exact ⟨c, p, .inl ⟨hf, hc⟩⟩
theorem Tryd.infoFlag : (Tryd.prog.info? 4).map (fun i => (i.zero, i.size, i.bytes)) = some (some (.bool false), 1, 1) := by kernel_rfl
/-- What AuditFault leaves. -/
def FaultEnd (c p : Int) (w : World) (e : Ending) (w' : World) : Prop := e = .returned (.agg #[.int .i64 c, .int .i64 p]) ∧ Below w.heap.size w w'

set_option maxRecDepth 100000 in
set_option maxHeartbeats 4000000 in
theorem auditFault_link (pa : Option Addr) (n pcap : Nat) (per : Int) (la : Option Addr) (m lcap : Nat) (w : World) (c p : Int) (hc : 0 < c) (h : ∀ W, Below w.heap.size w W → Calls Tryd.prog 28 #[.slice pa n pcap, .int .i64 per] W fun e w' => e = .returned (.agg #[.int .i64 c, .int .i64 p]) ∧ Below W.heap.size W w') :
    Calls Tryd.prog 12 #[.slice pa n pcap, .int .i64 per, .slice la m lcap] w fun e w' => FaultEnd c p w e w' := by
  have HF : Hid (∀ W, Below w.heap.size w W → Calls Tryd.prog 28 #[.slice pa n pcap, .int .i64 per] W fun e w' => e = .returned (.agg #[.int .i64 c, .int .i64 p]) ∧ Below W.heap.size W w') := h
  have HB0 : Hid (Below w.heap.size w (w.alloc (.cells #[.int .i64 0, .int .i64 0] 34))) := (Below.refl _ _).alloc (Nat.le_refl _) _
  clear h
  go_enter Tryd.func12, Tryd.ntmps12
  go_wp2_with fail
  refine (HF.out _ HB0.out).mono ?_
  rintro e w1 ⟨rfl, hb⟩
  have hb2 : Below (w.alloc (.cells #[.int .i64 0, .int .i64 0] 34)).heap.size (w.alloc (.cells #[.int .i64 0, .int .i64 0] 34)) (w1.alloc (.cells #[.int .i64 c, .int .i64 p] 34)) := hb.alloc hb.size _
  obtain ⟨k0, k1, f0, f1⟩ := (two_new w (.int .i64 0) (.int .i64 0) 34).later hb2
  have HB1 : Hid (Below w.heap.size w (w1.alloc (.cells #[.int .i64 c, .int .i64 p] 34))) := HB0.out.trans (hb2.mono (by simp))
  clear hb hb2
  go_wp2_with fail
  exact bodyPost_ret (v := .agg #[.int .i64 c, .int .i64 p]) (by simp [results, Tryd.results12, go_sem, k0, k1]) rfl ⟨rfl, (HB1.out.setCell (Nat.le_refl _) _).setCell (Nat.le_refl _) _⟩

set_option maxRecDepth 100000 in
set_option maxHeartbeats 8000000 in
theorem auditFault_sent (pa : Option Addr) (pcap : Nat) (ps : List Pk) (per : Int) (la : Option Addr) (lcap : Nat) (l : List Sn) (w : World) (c p : Int) (hp : LiesP w pa ps) (hpc : ps.length ≤ pcap) (hpm : pcap ≤ maxLen) (ho : OkPks ps) (h1 : 1 ≤ per) (h2 : per ≤ 1000) (hl : LiesS w la l) (hll : l.length ≤ 300) (ht : tameAll l) (h : AuditIs per ps l c p) :
    Calls Tryd.prog 12 #[.slice pa ps.length pcap, .int .i64 per, .slice la l.length lcap] w fun e w' => FaultEnd c p w e w' := by
  have HF : Hid (∀ W, Below w.heap.size w W → Calls Tryd.prog 28 #[.slice pa ps.length pcap, .int .i64 per] W fun e w' => e = .returned (.agg #[.int .i64 0, .int .i64 (-1)]) ∧ Below W.heap.size W w') := fun W hb => refLinkFault_is pa pcap ps per 0 (-1) W (hp.below hb) hpc hpm (.inr (.inr ⟨ho, h1, h2, rfl, rfl⟩))
  have HB0 : Hid (Below w.heap.size w (w.alloc (.cells #[.int .i64 0, .int .i64 0] 34))) := (Below.refl _ _).alloc (Nat.le_refl _) _
  have HSe : Hid (∀ W gd out (x : Sn) d, Below w.heap.size w W → DoneAt W gd ps.length out → tame x = true → SentIs per ps out x d → Calls Tryd.prog 29 #[.slice pa ps.length pcap, .int .i64 per, .slice (some ⟨gd, 0, none⟩) ps.length ps.length, .int .i64 (lastFin out), .agg #[.int .i64 x.num, .int .i64 x.beg, .int .i64 x.fin]] W fun e w' => CodeEnd d W e w') := fun W gd out x d hb hd htx hs => by
    have := of_decide_eq_true htx
    exact refSentError_is pa pcap ps per gd out x.num x.beg x.fin W d (hp.below hb) ho h1 h2 hd (by omega) hs
  have HAu : Hid (AuditIs per ps l c p ∧ tameAll l ∧ LiesS w la l) := ⟨h, ht, hl⟩
  have hfew := ho.few
  obtain ⟨n, hn⟩ : ∃ n, ps.length = n := ⟨_, rfl⟩
  obtain ⟨m, hm⟩ : ∃ m, l.length = m := ⟨_, rfl⟩
  have HN : Hid (ps.length = n ∧ l.length = m) := ⟨hn, hm⟩
  rw [hn] at hfew HF HSe
  rw [hm] at hll
  rw [hn, hm]
  have hmk : ∀ w' : World, (Instr.makeSlice 51 (.int .i64 n) (.int .i64 n)).run Tryd.prog w' = .ok (.slice (some ⟨w'.heap.size, 0, none⟩) n n) (w'.alloc (.cells (madeCells #[.bool false] n) 4)) := fun w' => by
    obtain ⟨i0, hi, hz0, hz1, hz2⟩ := info_parts Tryd.infoFlag
    have := run_make (P := Tryd.prog) w' 51 4 i0 (.bool false) Tryd.underlying51 hi hz0 .i64 .i64 n n (by omega) (by omega) (by rw [hz2]; omega) (by omega)
    simpa [hz1, Value.cells] using this
  clear hp hpc hpm ho hl ht h hn hm
  go_enter Tryd.func12, Tryd.ntmps12
  go_wp2_with fail
  refine (HF.out _ HB0.out).mono ?_
  rintro e w1 ⟨rfl, hb⟩
  have hb2 : Below (w.alloc (.cells #[.int .i64 0, .int .i64 0] 34)).heap.size (w.alloc (.cells #[.int .i64 0, .int .i64 0] 34)) (w1.alloc (.cells #[.int .i64 0, .int .i64 (-1)] 34)) := hb.alloc hb.size _
  obtain ⟨W1, hW1⟩ : ∃ W1, w1.alloc (.cells #[.int .i64 0, .int .i64 (-1)] 34) = W1 := ⟨_, rfl⟩
  rw [hW1] at hb2
  have hB1 : Below w.heap.size w W1 := HB0.out.trans (hb2.mono (by simp))
  have hb3 : Below W1.heap.size W1 (W1.alloc (.cells (madeCells #[.bool false] n) 4)) := (Below.refl _ _).alloc (Nat.le_refl _) _
  have k7 : W1.cell? ⟨w1.heap.size, 0, none⟩ = some (.int .i64 0) := by rw [← hW1]; simp
  have HS : Hid (DoneAt (W1.alloc (.cells (madeCells #[.bool false] n) 4)) W1.heap.size n [] ∧ Two w (W1.alloc (.cells (madeCells #[.bool false] n) 4)) (.int .i64 0) (.int .i64 0) ∧ Below w.heap.size w (W1.alloc (.cells (madeCells #[.bool false] n) 4))) := ⟨done_made W1 n _, ((two_new w _ _ _).later hb2).later hb3, hB1.trans (hb3.mono hB1.size)⟩
  obtain ⟨gd, hgd⟩ : ∃ gd, W1.heap.size = gd := ⟨_, rfl⟩
  have HGd : Hid (w.heap.size < gd) := by
    have h1 := HB0.out.size
    have h2 := hb2.size
    simp at h2
    show w.heap.size < gd
    omega
  rw [hgd] at HS
  clear hb hb2 hb3
  go_wp2_with fail
  go_loopg [9, 10] m (fun gk tv iv wr => ∃ i : Nat, gk = m - i ∧ i ≤ m ∧ iv = .int .i64 (i : Int) ∧ tv = .int .i64 (lastFin (l.take i)) ∧ (∀ (j : Nat) y, j < i → l[j]? = some y → MayOne per ps (l.take j) y) ∧ DoneAt wr gd n (l.take i) ∧ Two w wr (.int .i64 0) (.int .i64 0) ∧ Below w.heap.size w wr)
  case atStart => exact ⟨0, rfl, Nat.zero_le _, rfl, rfl, fun j y hj => absurd hj (Nat.not_lt_zero _), HS.out.1, HS.out.2.1, HS.out.2.2⟩
  case round =>
    obtain ⟨i, rfl, him', rfl, rfl, hmay, hdone, htwo, hbel⟩ := hrel
    have HR : Hid ((∀ (j : Nat) y, j < i → l[j]? = some y → MayOne per ps (l.take j) y) ∧ DoneAt wr gd n (l.take i) ∧ Two w wr (.int .i64 0) (.int .i64 0) ∧ Below w.heap.size w wr) := ⟨hmay, hdone, htwo, hbel⟩
    clear hmay hdone htwo hbel
    by_cases him : i < m
    · obtain ⟨x, hx, -⟩ := get_some l i (by rw [HN.out.2]; exact him)
      obtain ⟨d, hd⟩ := sentIs_is per ps (l.take i) x
      have HX : Hid (l[i]? = some x ∧ SentIs per ps (l.take i) x d) := ⟨hx, hd⟩
      have hdr := hd.range
      obtain ⟨lb, lo, rfl, -, hcl⟩ := HAu.out.2.2.place (by rw [HN.out.2]; omega)
      have c0 := cell_later HR.out.2.2.2 (hcl i x hx).1
      have c1 := cell_later HR.out.2.2.2 (hcl i x hx).2.1
      have c2 := cell_later HR.out.2.2.2 (hcl i x hx).2.2
      have HC2 : Hid (∀ W, Below w.heap.size w W → W.cell? ⟨lb, lo + i * 3, none⟩ = some (.int .i64 x.num) ∧ W.cell? ⟨lb, lo + i * 3 + 2, none⟩ = some (.int .i64 x.fin)) := fun W hb => ⟨cell_later hb (hcl i x hx).1, cell_later hb (hcl i x hx).2.2⟩
      have HCall : Hid (Calls Tryd.prog 29 #[.slice pa n pcap, .int .i64 per, .slice (some ⟨gd, 0, none⟩) n n, .int .i64 (lastFin (l.take i)), .agg #[.int .i64 x.num, .int .i64 x.beg, .int .i64 x.fin]] wr fun e w' => CodeEnd d wr e w') := HSe.out wr gd (l.take i) x d HR.out.2.2.2 HR.out.2.1 (HAu.out.2.1 i x hx) hd
      clear hx hd hcl
      by_cases hd0 : 0 < d
      · have HFirst : Hid (c = d ∧ p = i) := HAu.out.1.first HX.out.1 HX.out.2 hd0 HR.out.1
        go_wp2_with fail
        refine HCall.out.mono ?_
        rintro e w2 ⟨rfl, hb⟩
        have HB2 : Hid (Below w.heap.size w w2) := HR.out.2.2.2.trans (hb.mono HR.out.2.2.2.size)
        obtain ⟨k0, k1, f0, f1⟩ := HR.out.2.2.1.later hb
        clear hb
        go_wp2_with fail
        exact bodyPost_ret (v := .agg #[.int .i64 d, .int .i64 (i : Int)]) (by simp [results, Tryd.results12, go_sem, k0, k1]) rfl ⟨by rw [HFirst.out.1, HFirst.out.2], (HB2.out.setCell (Nat.le_refl _) _).setCell (Nat.le_refl _) _⟩
      · obtain rfl : d = 0 := by omega
        have hmay := HX.out.2.may
        obtain ⟨k, hk, hkl, -⟩ := hmay.num
        have HMay : Hid (MayOne per ps (l.take i) x ∧ x.num = (k : Int)) := ⟨hmay, hk⟩
        rw [HN.out.1] at hkl
        have HTake : Hid (l.take (i + 1) = l.take i ++ [⟨(k : Int), x.beg, x.fin⟩]) := by
          show _ = _
          rw [List.take_add_one, HX.out.1, ← HMay.out.2]
          rfl
        have HLast : Hid (lastFin (l.take (i + 1)) = x.fin) := by
          show _ = _
          rw [HTake.out]
          exact lastFin_snoc _ _
        clear hmay hk
        go_wp2_with fail
        refine HCall.out.mono ?_
        rintro e w2 ⟨rfl, hb⟩
        have HB2 : Hid (Below w.heap.size w w2) := HR.out.2.2.2.trans (hb.mono HR.out.2.2.2.size)
        have hD2 : DoneAt w2 gd n (l.take i) := HR.out.2.1.of_block (hb.block gd HR.out.2.1.lt) hb.size
        have hT2 := HR.out.2.2.1.later hb
        have g0 := (HC2.out w2 HB2.out).1
        rw [HMay.out.2] at g0
        have dk := hD2.cell k hkl
        have fk := hD2.frozen k
        have hB3 : Below w.heap.size w (w2.setCell ⟨gd, k, none⟩ (.bool true)) := HB2.out.setCell (Nat.le_of_lt HGd.out) _
        have g2 := (HC2.out _ hB3).2
        have HEnd : Hid (DoneAt (w2.setCell ⟨gd, k, none⟩ (.bool true)) gd n (l.take (i + 1)) ∧ Two w (w2.setCell ⟨gd, k, none⟩ (.bool true)) (.int .i64 0) (.int .i64 0) ∧ Below w.heap.size w (w2.setCell ⟨gd, k, none⟩ (.bool true))) := by
          refine ⟨by rw [HTake.out]; exact hD2.put k hkl x.beg x.fin, ⟨?_, ?_, ?_, ?_⟩, hB3⟩
          · rw [World.cell?_setCell_other _ _ _ _ (fun e => by have := congrArg Addr.block e; have := HGd.out; simp only at *; omega)]; exact hT2.c0
          · rw [World.cell?_setCell_other _ _ _ _ (fun e => by have := congrArg Addr.block e; have := HGd.out; simp only at *; omega)]; exact hT2.c1
          · rw [World.frozen?_setCell]; exact hT2.f0
          · rw [World.frozen?_setCell]; exact hT2.f1
        have HAll : Hid (∀ (j : Nat) y, j < i + 1 → l[j]? = some y → MayOne per ps (l.take j) y) := fun j y hj hy => by
          rcases Nat.lt_or_ge j i with h' | h'
          · exact HR.out.1 j y h' hy
          · obtain rfl : j = i := by omega
            have := HX.out.1.symm.trans hy
            obtain rfl := Option.some.inj this
            exact HMay.out.1
        clear hb hD2 hT2 hB3 c0 c1 c2
        go_wp2_with fail
        go_roundg (m - (i + 1))
        case measure => omega
        case rel => exact ⟨i + 1, rfl, by omega, by go_num, by rw [HLast.out], HAll.out, HEnd.out.1, HEnd.out.2.1, HEnd.out.2.2⟩
    · have e1 : l.take i = l := List.take_of_length_le (by rw [HN.out.2]; omega)
      have HLs : Hid (p = -1 ∧ ((c = 4 ∧ ∃ i, i < ps.length ∧ isDone l i = false) ∨ (c = 0 ∧ ∀ i, i < ps.length → isDone l i = true))) := HAu.out.1.last (fun j y hy => HR.out.1 j y (by have := lt_of_get hy; rw [HN.out.2] at this; omega) hy)
      have HD : Hid (DoneAt wr gd n l) := by have := HR.out.2.1; rwa [e1] at this
      obtain ⟨W2, hW2⟩ : ∃ W, W = wr := ⟨_, rfl⟩
      subst hW2
      clear e1
      go_wp2_with fail
      go_loopg [12] n (fun gk iv wr => W2 = wr ∧ ∃ i : Nat, gk = n - i ∧ i ≤ n ∧ iv = .int .i64 (i : Int) ∧ ∀ j, j < i → isDone l j = true)
      case atStart => exact ⟨rfl, 0, rfl, Nat.zero_le _, rfl, fun j hj => absurd hj (Nat.not_lt_zero _)⟩
      case round =>
        obtain ⟨hw2, i', rfl, hin', rfl, hall⟩ := hrel
        subst hw2
        have HAll : Hid (∀ j, j < i' → isDone l j = true) := hall
        clear hall
        by_cases hin : i' < n
        · have ci := HD.out.cell i' hin
          cases hdi : isDone l i' with
          | true =>
            rw [hdi] at ci
            have HK : Hid (∀ j, j < i' + 1 → isDone l j = true) := fun j hj => by
              rcases Nat.lt_or_ge j i' with h' | h'
              · exact HAll.out j h'
              · obtain rfl : j = i' := by omega
                exact hdi
            clear hdi
            go_wp2_with fail
            go_roundg (n - (i' + 1))
            case measure => omega
            case rel => exact ⟨rfl, i' + 1, rfl, by omega, by go_num, HK.out⟩
          | false =>
            rw [hdi] at ci
            have HC4 : Hid (c = 4 ∧ p = -1) := by
              obtain ⟨h1, ⟨h2, -⟩ | ⟨-, h2⟩⟩ := HLs.out
              · exact ⟨h2, h1⟩
              · have := h2 i' (by rw [HN.out.1]; exact hin)
                rw [hdi] at this
                cases this
            clear hdi
            go_wp2_with fail
            refine (bare_any 4 _).mono ?_
            rintro e w3 ⟨rfl, hb3⟩
            obtain ⟨k0, k1, f0, f1⟩ := HR.out.2.2.1.later hb3
            have HB3 : Hid (Below w.heap.size w w3) := HR.out.2.2.2.trans (hb3.mono HR.out.2.2.2.size)
            clear hb3
            go_wp2_with fail
            exact bodyPost_ret (v := .agg #[.int .i64 4, .int .i64 (-1)]) (by simp [results, Tryd.results12, go_sem, k0, k1]) rfl ⟨by rw [HC4.out.1, HC4.out.2], (HB3.out.setCell (Nat.le_refl _) _).setCell (Nat.le_refl _) _⟩
        · have HC0 : Hid (c = 0 ∧ p = -1) := by
            obtain ⟨h1, ⟨-, j, hj, hjd⟩ | ⟨h2, -⟩⟩ := HLs.out
            · rw [HAll.out j (by rw [HN.out.1] at hj; omega)] at hjd
              cases hjd
            · exact ⟨h2, h1⟩
          go_wp2_with fail
          refine (fine_any _).mono ?_
          rintro e w3 ⟨rfl, hb3⟩
          obtain ⟨k0, k1, f0, f1⟩ := HR.out.2.2.1.later hb3
          have HB3 : Hid (Below w.heap.size w w3) := HR.out.2.2.2.trans (hb3.mono HR.out.2.2.2.size)
          clear hb3
          go_wp2_with fail
          exact bodyPost_ret (v := .agg #[.int .i64 0, .int .i64 (-1)]) (by simp [results, Tryd.results12, go_sem, k0, k1]) rfl ⟨by rw [HC0.out.1, HC0.out.2], (HB3.out.setCell (Nat.le_refl _) _).setCell (Nat.le_refl _) _⟩
theorem refAuditFault_is (pa : Option Addr) (pcap : Nat) (ps : List Pk) (per : Int) (la : Option Addr) (lcap : Nat) (l : List Sn) (w : World) (c p : Int) (hp : LiesP w pa ps) (hpc : ps.length ≤ pcap) (hpm : pcap ≤ maxLen) (hl : LiesS w la l) (hll : l.length ≤ 300) (ht : tameAll l) (h : AuditAll per ps l c p) :
    Calls Tryd.prog 12 #[.slice pa ps.length pcap, .int .i64 per, .slice la l.length lcap] w fun e w' => FaultEnd c p w e w' := by
  rcases h with ⟨hf, hc⟩ | ⟨ho, h1, h2, ha⟩
  · exact auditFault_link pa _ pcap per la _ lcap w c p hc (fun W hb => refLinkFault_is pa pcap ps per c p W (hp.below hb) hpc hpm hf)
  · exact auditFault_sent pa pcap ps per la lcap l w c p hp hpc hpm ho h1 h2 hl hll ht ha
end Go.Proofs.YtolbmkniafkeaaaDoor
