/- Walks: what package rank's closures measure. -/
import Derived.Test.YtepnfioldbhffabDoorCAllNums
import Derived.Test.YtepnfioldbhffabDoorCAllPkts
import Derived.Test.YtepnfioldbhffabDoorCAllPlain
namespace Go.Proofs.YtepnfioldbhffabDoor
open Go.RowKit

/-- The flow of a packet among eight numbers. -/
theorem flow_at {ps : List Pk} {k : Nat} {p : Pk} (ho : OkPks ps) (hp : ps[k]? = some p) : ∃ m : Nat, m < 8 ∧ p.flow = (m : Int) ∧ flowOf ps k = m := by
  obtain ⟨h1, h2, -⟩ := okPk_true (ho.each _ p hp).1
  exact ⟨p.flow.toNat, by omega, by omega, flowOf_get hp⟩
theorem nums_at {ns : List Int} (h : ns.length = 8) {m : Nat} (hm : m < 8) : ∃ x, ns[m]? = some x ∧ ns.getD m 0 = x := by
  obtain ⟨x, hx, -⟩ := get_some ns m (by omega)
  exact ⟨x, hx, by simp [List.getD, hx]⟩

set_option maxRecDepth 100000 in
set_option maxHeartbeats 1000000 in
theorem rankKey (ps : List Pk) (ns : List Int) (gp gr : Nat) (pa : Option Addr) (pcap : Nat) (na : Option Addr) (ncap : Nat) (w : World) (k : Nat) (hcp : w.cell? ⟨gp, 0, none⟩ = some (.slice pa ps.length pcap)) (hcr : w.cell? ⟨gr, 0, none⟩ = some (.slice na ns.length ncap)) (hp : LiesP w pa ps) (hn : LiesN w na ns) (ho : OkPks ps) (h8 : ns.length = 8) (hk : k < ps.length) :
    Calls Tryd.prog 60 #[.int .i64 (k : Int), .pointer (some ⟨gr, 0, none⟩), .pointer (some ⟨gp, 0, none⟩)] w fun e w' => e = .returned (.int .i64 (ofFlow ps ns k)) ∧ ∃ m, w' = w.drewN m := by
  obtain ⟨p, hpk, -⟩ := get_some ps k hk
  obtain ⟨m, hm, hf, hfo⟩ := flow_at ho hpk
  obtain ⟨x, hx, hxd⟩ := nums_at h8 hm
  obtain ⟨b, off, rfl, -, hc⟩ := hp.place (by omega)
  obtain ⟨b2, off2, rfl, -, hc2⟩ := hn.place (by omega)
  have c1 : w.cell? ⟨b, off + k * 3, none⟩ = some (.int .i64 (m : Int)) := by rw [← hf]; exact (hc k p hpk).1
  have c2 := hc2 m x hx
  have hE : ofFlow ps ns k = x := by rw [ofFlow, hfo]; exact hxd
  have hfew := ho.few
  obtain ⟨n, hnn⟩ : ∃ n, ps.length = n := ⟨_, rfl⟩
  rw [hnn] at hcp hk hfew
  rw [h8] at hcr
  rw [hE]
  clear hp hn hc hc2 hpk hx ho h8 hE hxd hnn hfo hf
  go_enter Tryd.func60, Tryd.ntmps60
  go_wp2_with fail
  go_quiet (fail)
  go_wp2
  go_ret
  exact ⟨rfl, _, rfl⟩

set_option maxRecDepth 100000 in
set_option maxHeartbeats 1000000 in
theorem dueKey (ps : List Pk) (ns : List Int) (gp gr : Nat) (pa : Option Addr) (pcap : Nat) (na : Option Addr) (ncap : Nat) (w : World) (k : Nat) (hcp : w.cell? ⟨gp, 0, none⟩ = some (.slice pa ps.length pcap)) (hcr : w.cell? ⟨gr, 0, none⟩ = some (.slice na ns.length ncap)) (hp : LiesP w pa ps) (hn : LiesN w na ns) (ho : OkPks ps) (h8 : NumsOk 0 1099511627776 ns) (hk : k < ps.length) :
    Calls Tryd.prog 58 #[.int .i64 (k : Int), .pointer (some ⟨gp, 0, none⟩), .pointer (some ⟨gr, 0, none⟩)] w fun e w' => e = .returned (.int .i64 (tickOf ps k + ofFlow ps ns k)) ∧ ∃ m, w' = w.drewN m := by
  obtain ⟨p, hpk, -⟩ := get_some ps k hk
  obtain ⟨m, hm, hf, hfo⟩ := flow_at ho hpk
  obtain ⟨x, hx, hxd⟩ := nums_at h8.len hm
  obtain ⟨b, off, rfl, -, hc⟩ := hp.place (by omega)
  obtain ⟨b2, off2, rfl, -, hc2⟩ := hn.place (by have := h8.len; omega)
  have c1 : w.cell? ⟨b, off + k * 3, none⟩ = some (.int .i64 (m : Int)) := by rw [← hf]; exact (hc k p hpk).1
  obtain ⟨t, ht⟩ : ∃ t, p.tick = t := ⟨_, rfl⟩
  have c3 : w.cell? ⟨b, off + k * 3 + 2, none⟩ = some (.int .i64 t) := by rw [← ht]; exact (hc k p hpk).2.2
  have c2 := hc2 m x hx
  obtain ⟨t0, t1⟩ := (show 0 ≤ t ∧ t ≤ 1099511627776 by rw [← ht]; have := okPk_true (ho.each _ p hpk).1; omega)
  obtain ⟨x0, x1⟩ := h8.each m x hx
  have hE : tickOf ps k + ofFlow ps ns k = t + x := by rw [ofFlow, hfo, hxd, tickOf_get hpk, ht]
  have hfew := ho.few
  have hlen := h8.len
  obtain ⟨n, hnn⟩ : ∃ n, ps.length = n := ⟨_, rfl⟩
  rw [hnn] at hcp hk hfew
  rw [hlen] at hcr
  rw [hE]
  have hw : IntKind.i64.wrap (t + x) = t + x := IntWalk.i64_in _ (by omega)
  clear hp hn hc hc2 hpk hx ho h8 hE hxd hnn hfo hf hlen ht
  go_enter Tryd.func58, Tryd.ntmps58
  go_wp2_with fail
  go_quiet (fail)
  go_wp2
  go_ret
  exact ⟨rfl, _, rfl⟩
end Go.Proofs.YtepnfioldbhffabDoor
