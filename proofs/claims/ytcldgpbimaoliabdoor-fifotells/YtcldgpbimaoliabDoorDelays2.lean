/- Walks: the document's answer's SentFault; package fifo's Delays. -/
import Derived.Test.YtcldgpbimaoliabDoorDelays1
import Derived.Test.YtcldgpbimaoliabDoorPkts1
import Derived.Deep.LoopGhost
namespace Go.Proofs.YtcldgpbimaoliabDoor
open Go.RowKit

set_option maxHeartbeats 2000000 in
theorem sentFault_any (pa : Option Addr) (m pcap : Nat) (a : Option Addr) (cap : Nat) (l : List Sn) (w : World) (hl : LiesS w a l) (hn : l.length ≤ 300) (_hm : m ≤ 300) (c p : Int) (h : SentFaultIs m l c p) :
    Calls Tryd.prog 17 #[.slice pa m pcap, .slice a l.length cap] w fun e w' => e = .returned (.agg #[.int .i64 c, .int .i64 p]) ∧ Below w.heap.size w w' := by
  have HL : Hid (LiesS w a l) := hl
  have HF : Hid (SentFaultIs m l c p) := h
  clear hl h
  obtain ⟨n, hnn⟩ : ∃ n, l.length = n := ⟨_, rfl⟩
  have HN : Hid (l.length = n) := hnn
  rw [hnn] at hn ⊢
  clear hnn
  have hb0 : Below w.heap.size w (w.alloc (.cells #[.int .i64 0, .int .i64 0] 39)) := (Below.refl _ _).alloc (Nat.le_refl _) _
  go_enter Tryd.func17, Tryd.ntmps17
  go_wp2_with fail
  go_loopw [5] (fun i wr => ∃ k : Nat, k ≤ n ∧ i = .int .i64 k ∧ (∀ (i : Nat) x, i < k → l[i]? = some x → named m x = true) ∧ Below w.heap.size w wr ∧ Two w wr (.int .i64 0) (.int .i64 0)) (fun i _ => n - (intOf i).toNat)
  case atStart => exact ⟨0, Nat.zero_le _, rfl, fun i x h => by omega, hb0, two_new w _ _ _⟩
  case round =>
    obtain ⟨k, hk, rfl, hok, hb, h2⟩ := hrel
    have HB : Hid (Below w.heap.size w wr ∧ (∀ (i : Nat) x, i < k → l[i]? = some x → named m x = true) ∧ Two w wr (.int .i64 0) (.int .i64 0)) := ⟨hb, hok, h2⟩
    by_cases hkn : k < n
    · obtain ⟨x, hp, -⟩ := get_some l k (by rw [HN.out]; exact hkn)
      obtain ⟨b, off, rfl, -, hc⟩ := HL.out.place (by rw [HN.out]; omega)
      have c1 : wr.cell? ⟨b, off + k * 3, none⟩ = some (.int .i64 x.num) := cell_later hb (hc k _ hp).1
      have HP : Hid (l[k]? = some x) := hp
      obtain ⟨q0, q1, f0, f1⟩ := h2
      clear hc hp hok hb hb0
      cases ht : named m x with
      | true =>
        obtain ⟨t1, t2⟩ := named_true ht
        have s1 : ¬ x.num < 0 := by omega
        have s2 : ¬ (m : Int) ≤ x.num := by omega
        have HT : Hid (named m x = true) := ht
        clear ht t1 t2
        go_wp2_with fail
        go_roundw
        case rel =>
          refine ⟨k + 1, by omega, by go_num, fun i y hi hy => ?_, HB.out.1, HB.out.2.2⟩
          rcases Nat.lt_or_ge i k with h | h
          · exact HB.out.2.1 i y h hy
          · obtain rfl : i = k := by omega
            obtain rfl := Option.some.inj (HP.out.symm.trans hy)
            exact HT.out
        case measure => simp [intOf]; omega
      | false =>
        have HCP : Hid (c = 4 ∧ p = k) := by
          rcases HF.out with ⟨j, y, h1, h2, h3, h4, h5⟩ | ⟨h1, -, -⟩
          · have hjk : j = k := by
              rcases Nat.lt_trichotomy j k with h | h | h
              · have := HB.out.2.1 j y h h1
                rw [h3] at this; cases this
              · exact h
              · have := h2 k x h HP.out
                rw [ht] at this; cases this
            exact ⟨h4, by rw [h5, hjk]⟩
          · have := h1 k x HP.out
            rw [ht] at this; cases this
        obtain ⟨rfl, rfl⟩ := HCP.out
        have hcases := named_false ht
        clear ht
        rcases hcases with s1 | ⟨s1, s2⟩
        all_goals
          go_wp2_with fail
          exact bodyPost_ret (v := .agg #[.int .i64 4, .int .i64 k]) (by simp [results, Tryd.results17, go_sem, q0, q1]) rfl ⟨rfl, (HB.out.1.setCell (Nat.le_refl _) _).setCell (Nat.le_refl _) _⟩
    · have HCP : Hid (c = 0 ∧ p = -1) := by
        rcases HF.out with ⟨j, y, h1, h2, h3, h4, h5⟩ | ⟨-, h1, h2⟩
        · have := HB.out.2.1 j y (by have := lt_of_get h1; have := HN.out; omega) h1
          rw [h3] at this; cases this
        · exact ⟨h1, h2⟩
      obtain ⟨rfl, rfl⟩ := HCP.out
      clear hok hb h2 hb0
      go_wp2_with fail
      refine (fine_any _).mono ?_
      rintro e w1 ⟨rfl, hb1⟩
      obtain ⟨q0, q1, f0, f1⟩ := HB.out.2.2.later hb1
      have HB1 : Hid (Below w.heap.size w w1) := HB.out.1.trans (hb1.mono HB.out.1.size)
      clear hb1
      go_wp2_with fail
      exact bodyPost_ret (v := .agg #[.int .i64 0, .int .i64 (-1)]) (by simp [results, Tryd.results17, go_sem, q0, q1]) rfl ⟨rfl, (HB1.out.setCell (Nat.le_refl _) _).setCell (Nat.le_refl _) _⟩

/-- The delay of one that names a packet. -/
def delayOf (ps : List Pk) (x : Sn) : Int := x.fin - tickOf ps x.num.toNat
/-- Delays that were told so far. -/
structure DelAt (w : World) (D n : Nat) (ps : List Pk) (l : List Sn) (k : Nat) : Prop where
  cell : ∀ (i : Nat) x, i < k → l[i]? = some x → w.cell? ⟨D, i, none⟩ = some (.int .i64 (delayOf ps x))
  room : ∀ i, i < n → ∃ u, w.cell? ⟨D, i, none⟩ = some u
  frozen : ∀ i, w.frozen? ⟨D, i, none⟩ = false
  lt : D < w.heap.size
theorem del_made (w : World) (n : Nat) (t : TypeId) (ps : List Pk) (l : List Sn) : DelAt (w.alloc (.cells (madeCells #[.int .i64 0] n) t)) w.heap.size n ps l 0 := by
  refine ⟨fun i x h => by omega, fun i hi => ⟨.int .i64 0, ?_⟩, fun i => World.frozen?_alloc_new w _ _ i, by simp⟩
  rw [World.cell?_alloc_at _ _ _ _ rfl]
  exact made_get _ _ _ hi
theorem DelAt.later {w w' : World} {D n : Nat} {ps : List Pk} {l : List Sn} {k : Nat} (h : DelAt w D n ps l k) (hb : Below w.heap.size w w') : DelAt w' D n ps l k :=
  ⟨fun i x hi hx => cell_later hb (h.cell i x hi hx), fun i hi => by obtain ⟨u, hu⟩ := h.room i hi; exact ⟨u, cell_later hb hu⟩, fun i => by rw [hb.frozen (p := ⟨D, i, none⟩) h.lt]; exact h.frozen i, Nat.lt_of_lt_of_le h.lt hb.size⟩
theorem DelAt.put {w : World} {D n : Nat} {ps : List Pk} {l : List Sn} {k : Nat} (h : DelAt w D n ps l k) (hk : k < n) (x : Sn) (hx : l[k]? = some x) : DelAt (w.setCell ⟨D, k, none⟩ (.int .i64 (delayOf ps x))) D n ps l (k + 1) := by
  have hs : (w.cell? ⟨D, k, none⟩).isSome = true := by obtain ⟨u, hu⟩ := h.room k hk; rw [hu]; rfl
  refine ⟨fun i y hi hy => ?_, fun i hi => ?_, fun i => by rw [World.frozen?_setCell]; exact h.frozen i, by simp [World.setCell]; exact h.lt⟩
  · by_cases e : k = i
    · subst e
      obtain rfl := Option.some.inj (hx.symm.trans hy)
      exact World.cell?_setCell_same' _ _ _ hs
    · rw [World.cell?_setCell_other _ _ _ _ (by intro e'; cases e'; exact e rfl)]
      exact h.cell i y (by omega) hy
  · by_cases e : k = i
    · subst e
      exact ⟨_, World.cell?_setCell_same' _ _ _ hs⟩
    · rw [World.cell?_setCell_other _ _ _ _ (by intro e'; cases e'; exact e rfl)]
      exact h.room i hi

/-- What Delays leaves. -/
def DelaysEnd (ps : List Pk) (l : List Sn) (ad : Nat → Addr) (w : World) (e : Ending) (w' : World) : Prop :=
  Below w.heap.size w w' ∧ ((∃ D, e = .returned (.tuple #[.slice (some ⟨D, 0, none⟩) l.length l.length, .nilIface]) ∧ DelAt w' D l.length ps l l.length ∧ ∀ (i : Nat) x, l[i]? = some x → named ps.length x = true) ∨
    (∃ (j : Nat) (x : Sn) (F : Nat), l[j]? = some x ∧ (∀ (i : Nat) y, i < j → l[i]? = some y → named ps.length y = true) ∧ named ps.length x = false ∧ e = .returned (.tuple #[.slice none 0 0, .iface 63 (.pointer (some ⟨F, 0, none⟩))]) ∧ w'.cell? ⟨F, 0, none⟩ = some (.int .i64 j) ∧ w'.cell? ⟨F, 1, none⟩ = some (.iface 120 (.pointer (some (ad 3))))))
end Go.Proofs.YtcldgpbimaoliabDoor
