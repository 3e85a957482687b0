/- Walks: is what was sent tame; the document's answer's SentFault; package fifo's Delays. -/
import Derived.Test.YtcldgpbimaoliabDoorPlainBusy
import Derived.Test.YtcldgpbimaoliabDoorSent1
import Derived.Test.YtcldgpbimaoliabDoorOwnRow
import Derived.Test.YtcldgpbimaoliabDoorBare
import Derived.Test.YtcldgpbimaoliabDoorCodes
namespace Go.Proofs.YtcldgpbimaoliabDoor
open Go.RowKit

def big : Int := 1125899906842624
/-- Not too great for sums. -/
def tame (x : Sn) : Bool := decide (-1125899906842624 ≤ x.beg ∧ x.beg ≤ 1125899906842624 ∧ -1125899906842624 ≤ x.fin ∧ x.fin ≤ 1125899906842624)
theorem tame_true {x : Sn} (h : tame x = true) : -1125899906842624 ≤ x.beg ∧ x.beg ≤ 1125899906842624 ∧ -1125899906842624 ≤ x.fin ∧ x.fin ≤ 1125899906842624 := of_decide_eq_true h
theorem tame_false {x : Sn} (h : tame x = false) : x.beg < -1125899906842624 ∨ (¬ x.beg < -1125899906842624 ∧ 1125899906842624 < x.beg) ∨ (¬ x.beg < -1125899906842624 ∧ ¬ 1125899906842624 < x.beg ∧ x.fin < -1125899906842624) ∨ (¬ x.beg < -1125899906842624 ∧ ¬ 1125899906842624 < x.beg ∧ ¬ x.fin < -1125899906842624 ∧ 1125899906842624 < x.fin) := by
  have : ¬ (-1125899906842624 ≤ x.beg ∧ x.beg ≤ 1125899906842624 ∧ -1125899906842624 ≤ x.fin ∧ x.fin ≤ 1125899906842624) := of_decide_eq_false h
  omega
def tameAll (l : List Sn) : Prop := ∀ (i : Nat) x, l[i]? = some x → tame x = true
/-- What TameSent tells. -/
def TameEnd (l : List Sn) (w : World) (e : Ending) (w' : World) : Prop := (e = .returned (.int .i64 1) ∧ tameAll l ∨ e = .returned (.int .i64 0)) ∧ Below w.heap.size w w'

set_option maxHeartbeats 2000000 in
theorem tameSent_any (a : Option Addr) (cap : Nat) (l : List Sn) (w : World) (hl : LiesS w a l) (hn : l.length ≤ 300) :
    Calls Tryd.prog 11 #[.slice a l.length cap] w fun e w' => TameEnd l w e w' := by
  have HL : Hid (LiesS w a l) := hl
  clear hl
  obtain ⟨n, hnn⟩ : ∃ n, l.length = n := ⟨_, rfl⟩
  have HN : Hid (l.length = n) := hnn
  rw [hnn] at hn ⊢
  clear hnn
  go_enter Tryd.func11, Tryd.ntmps11
  go_wp2_with fail
  go_loopw [3] (fun i wr => ∃ k : Nat, k ≤ n ∧ i = .int .i64 k ∧ (∀ (i : Nat) x, i < k → l[i]? = some x → tame x = true) ∧ Below w.heap.size w wr) (fun i _ => n - (intOf i).toNat)
  case atStart => exact ⟨0, Nat.zero_le _, rfl, fun i x h => by omega, Below.refl _ _⟩
  case round =>
    obtain ⟨k, hk, rfl, hok, hb⟩ := hrel
    have HB : Hid (Below w.heap.size w wr ∧ (∀ (i : Nat) x, i < k → l[i]? = some x → tame x = true)) := ⟨hb, hok⟩
    by_cases hkn : k < n
    · obtain ⟨p, hp, -⟩ := get_some l k (by rw [HN.out]; exact hkn)
      obtain ⟨b, off, rfl, -, hc⟩ := HL.out.place (by rw [HN.out]; omega)
      have c2 : wr.cell? ⟨b, off + k * 3 + 1, none⟩ = some (.int .i64 p.beg) := cell_later hb (hc k _ hp).2.1
      have c3 : wr.cell? ⟨b, off + k * 3 + 2, none⟩ = some (.int .i64 p.fin) := cell_later hb (hc k _ hp).2.2
      have HP : Hid (l[k]? = some p) := hp
      clear hc hp hok hb
      cases ht : tame p with
      | true =>
        obtain ⟨t1, t2, t3, t4⟩ := tame_true ht
        have s1 : ¬ p.beg < -1125899906842624 := by omega
        have s2 : ¬ 1125899906842624 < p.beg := by omega
        have s3 : ¬ p.fin < -1125899906842624 := by omega
        have s4 : ¬ 1125899906842624 < p.fin := by omega
        have HT : Hid (tame p = true) := ht
        clear ht t1 t2 t3 t4
        go_wp2_with fail
        go_roundw
        case rel =>
          refine ⟨k + 1, by omega, by go_num, fun i x hi hx => ?_, HB.out.1⟩
          rcases Nat.lt_or_ge i k with h | h
          · exact HB.out.2 i x h hx
          · obtain rfl : i = k := by omega
            obtain rfl := Option.some.inj (HP.out.symm.trans hx)
            exact HT.out
        case measure => simp [intOf]; omega
      | false =>
        rcases tame_false ht with s1 | ⟨s1, s2⟩ | ⟨s1, s2, s3⟩ | ⟨s1, s2, s3, s4⟩
        all_goals
          clear ht
          go_wp2_with fail
          go_ret
          exact ⟨.inr rfl, HB.out.1⟩
    · clear hok hb
      go_wp2_with fail
      go_ret
      exact ⟨.inl ⟨rfl, fun i x hx => HB.out.2 i x (by have := lt_of_get hx; have := HN.out; omega) hx⟩, HB.out.1⟩
end Go.Proofs.YtcldgpbimaoliabDoor
