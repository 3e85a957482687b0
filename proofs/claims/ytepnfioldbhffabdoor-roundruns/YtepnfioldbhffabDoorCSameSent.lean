/- Walks: the document's answer: two rows of the same that were sent. -/
import Derived.Test.YtepnfioldbhffabDoorCSentEq
namespace Go.Proofs.YtepnfioldbhffabDoor
open Go.RowKit

set_option maxHeartbeats 1000000 in
theorem sameSent_yes (a1 a2 : Option Addr) (cap1 cap2 : Nat) (l : List Sn) (w : World) (h1 : LiesS w a1 l) (h2 : LiesS w a2 l) (hn : l.length ≤ 1000) :
    Calls Tryd.prog 27 #[.slice a1 l.length cap1, .slice a2 l.length cap2] w fun e w' => e = .returned (.bool true) ∧ Below w.heap.size w w' := by
  have HA : Hid (LiesS w a1 l) := h1
  have HB : Hid (LiesS w a2 l) := h2
  clear h1 h2
  generalize hm : l.length = n at *
  have Hn := (show Hid (l.length = n) from hm)
  clear hm
  go_enter Tryd.func27, Tryd.ntmps27
  go_wp2_with fail
  go_loopw [5] (fun i wr => ∃ k : Nat, k ≤ n ∧ i = .int .i64 k ∧ Below w.heap.size w wr) (fun i _ => n - (intOf i).toNat)
  case atStart => exact ⟨0, Nat.zero_le _, rfl, Below.refl _ _⟩
  case round =>
    obtain ⟨k, hk, rfl, hb⟩ := hrel
    have HBR : Hid (Below w.heap.size w wr) := hb
    by_cases hkn : k < n
    · obtain ⟨⟨x, y, z⟩, hp, -⟩ := get_some l k (by rw [Hn.out]; exact hkn)
      obtain ⟨b1, o1, rfl, -, hc1⟩ := HA.out.place (by rw [Hn.out]; omega)
      obtain ⟨b2, o2, rfl, -, hc2⟩ := HB.out.place (by rw [Hn.out]; omega)
      have c1 : wr.cell? ⟨b1, o1 + k * 3, none⟩ = some (.int .i64 x) := cell_later hb (hc1 k _ hp).1
      have c2 : wr.cell? ⟨b1, o1 + k * 3 + 1, none⟩ = some (.int .i64 y) := cell_later hb (hc1 k _ hp).2.1
      have c3 : wr.cell? ⟨b1, o1 + k * 3 + 2, none⟩ = some (.int .i64 z) := cell_later hb (hc1 k _ hp).2.2
      have d1 : wr.cell? ⟨b2, o2 + k * 3, none⟩ = some (.int .i64 x) := cell_later hb (hc2 k _ hp).1
      have d2 : wr.cell? ⟨b2, o2 + k * 3 + 1, none⟩ = some (.int .i64 y) := cell_later hb (hc2 k _ hp).2.1
      have d3 : wr.cell? ⟨b2, o2 + k * 3 + 2, none⟩ = some (.int .i64 z) := cell_later hb (hc2 k _ hp).2.2
      have q1 := Tryd.neqSent
      have g1 := fun (w : World) op x y xs ys => run_eqGuard_agg (P := Tryd.prog) w op 43 x y xs ys Tryd.sentGuard
      have he := eqS_refl x y z
      clear hc1 hc2 hp
      go_wp2_with fail
      go_quiet (fail)
      go_wp2_with fail
      go_roundw
      case rel => exact ⟨k + 1, by omega, by go_num, below_drewN HBR.out _⟩
      case measure => simp [intOf]; omega
    · go_wp2_with fail
      go_ret
      exact ⟨rfl, HBR.out⟩
end Go.Proofs.YtepnfioldbhffabDoor
