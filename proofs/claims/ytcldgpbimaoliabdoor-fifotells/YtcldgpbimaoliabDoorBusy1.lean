/- Walks: package fifo's Busy. -/
import Derived.Test.YtcldgpbimaoliabDoorPair1
import Derived.Test.YtcldgpbimaoliabDoorPlainBusy
import Derived.Test.YtcldgpbimaoliabDoorSent1
import Derived.Deep.AppendLies
import Derived.Deep.LoopGhost
import Derived.Deep.RegionHeldLaw
namespace Go.Proofs.YtcldgpbimaoliabDoor
open Go.RowKit

/-- What Busy leaves. -/
def BusyEnd (l : List Sn) (w : World) (e : Ending) (w' : World) : Prop := ∃ v, e = .returned v ∧ Own2 w' w.heap.size v (busyL l) ∧ Below w.heap.size w w'

set_option maxRecDepth 100000 in
set_option maxHeartbeats 4000000 in
theorem busy_any (a : Option Addr) (cap : Nat) (l : List Sn) (w : World) (hl : LiesS w a l) (hn : l.length ≤ 300) :
    Calls Tryd.prog 12 #[.slice a l.length cap] w fun e w' => BusyEnd l w e w' := by
  have HL : Hid (LiesS w a l) := hl
  clear hl
  obtain ⟨n, hnn⟩ : ∃ n, l.length = n := ⟨_, rfl⟩
  have HN : Hid (l.length = n) := hnn
  rw [hnn] at hn ⊢
  clear hnn
  obtain ⟨i0, hi, hz0, hz1, hz2⟩ := info_parts Tryd.infoArr2
  go_enter Tryd.func12, Tryd.ntmps12
  go_wp2_with fail
  go_loopg [3, 9] n (fun gk v i wr => ∃ k : Nat, gk + k = n ∧ i = .int .i64 k ∧ Own2 wr w.heap.size v (busyL (l.take k)) ∧ Below w.heap.size w wr)
  case atStart => exact ⟨0, by omega, rfl, World.ownsRow_nil _ _ _ _, Below.refl _ _⟩
  case round =>
    obtain ⟨k, hgk, rfl, hown, hb⟩ := hrel
    have HO : Hid (Own2 wr w.heap.size u3 (busyL (l.take k)) ∧ Below w.heap.size w wr) := ⟨hown, hb⟩
    have hlen := busyL_length l k (by rw [HN.out]; omega)
    have hsz := hb.size
    by_cases hkn : k < n
    · obtain ⟨⟨x, y, z⟩, hp, -⟩ := get_some l k (by rw [HN.out]; exact hkn)
      obtain ⟨b, off, rfl, -, hc⟩ := HL.out.place (by rw [HN.out]; omega)
      have c1 : wr.cell? ⟨b, off + k * 3, none⟩ = some (.int .i64 x) := cell_later hb (hc k _ hp).1
      have c2 : wr.cell? ⟨b, off + k * 3 + 1, none⟩ = some (.int .i64 y) := cell_later hb (hc k _ hp).2.1
      have c3 : wr.cell? ⟨b, off + k * 3 + 2, none⟩ = some (.int .i64 z) := cell_later hb (hc k _ hp).2.2
      have HStep : Hid (busyL (l.take (k + 1)) = busyStep (busyL (l.take k)) ⟨x, y, z⟩) := busyL_take hp
      clear hc hp hb hown
      rcases List.eq_nil_or_concat (busyL (l.take k)) with hnil | ⟨r, ⟨s, t⟩, hsn⟩
      · have HO' : Hid (Own2 wr w.heap.size u3 [] ∧ Below w.heap.size w wr) := by have := HO.out; rw [hnil] at this; exact this
        obtain ⟨a3, k3, rfl, h31, h32⟩ := HO'.out.1.form
        simp only [List.length_nil] at h31 HO' ⊢
        unfold maxLen at h32
        have HNx : Hid (busyL (l.take (k + 1)) = [] ++ [(y, z)]) := by
          show _ = _
          rw [HStep.out, hnil]; rfl
        clear hnil
        go_wp2_with fail
        go_quiet (fail)
        obtain ⟨W, hW⟩ : ∃ W, (wr.alloc (.cells #[.int .i64 x, .int .i64 y, .int .i64 z] 43)).drewN nq = W := ⟨_, rfl⟩
        have hbW : Below wr.heap.size wr W := by rw [← hW]; exact below_drewN ((Below.refl _ _).alloc (Nat.le_refl _) _) _
        have w2 : W.cell? ⟨wr.heap.size, 1, none⟩ = some (.int .i64 y) := by rw [← hW]; simp
        have w3 : W.cell? ⟨wr.heap.size, 2, none⟩ = some (.int .i64 z) := by rw [← hW]; simp
        rw [hW]
        have HW : Hid (Below w.heap.size w W ∧ Own2 W w.heap.size (.slice a3 0 k3) []) := ⟨HO'.out.2.trans (hbW.mono hsz), HO'.out.1.later hbW⟩
        have HW4 : Hid (Below w.heap.size w (W.alloc (.cells #[.int .i64 y, .int .i64 z] 31)) ∧ Own2 (W.alloc (.cells #[.int .i64 y, .int .i64 z] 31)) w.heap.size (.slice a3 0 k3) []) := ⟨HW.out.1.alloc HW.out.1.size _, HW.out.2.later ((Below.refl _ _).alloc (Nat.le_refl _) _)⟩
        have HNews : Hid (∀ j u, (cells2 [(y, z)])[j]? = some u → (W.alloc (.cells #[.int .i64 y, .int .i64 z] 31)).cell? ((⟨W.heap.size, 0, none⟩ : Addr).add j) = some u) := World.news_of_block (cs := #[.int .i64 y, .int .i64 z]) (t := 31) (heap_alloc_new W _)
        clear hW hbW
        go_wp2_with (at_builtin; go_must (refine wpList_append_lies _ rfl _ _ 28 rfl w.heap.size 31 i0 (.agg #[.int .i64 0, .int .i64 0]) 2 16 Tryd.underlying28 hi hz0 hz1 hz2 rfl (by decide) (.slice a3 0 k3) 0 (cells2 []) rfl HW4.out.2 ⟨W.heap.size, 0, none⟩ 1 1 (cells2 [(y, z)]) rfl rfl HNews.out (cells2_one _) (by decide) (by unfold maxLen; omega) (by omega) HW4.out.1.size _ rfl ?_; intro g5 cap5 w5 ho5 hg5 hat5 hlt5; have H5 : Hid (Own2 w5 w.heap.size (.slice (some ⟨g5, 0, none⟩) (0 + 1) cap5) ([] ++ [(y, z)]) ∧ Below w.heap.size w w5) := ⟨Own2.snoc (ls := []) ho5, HW4.out.1.grown hg5 HW4.out.1.size (fun k hk => (ownsRow_lt HW4.out.2 hk).1)⟩; clear ho5 hg5 hat5 hlt5))
        go_roundg (gk - 1)
        case measure => omega
        case rel => exact ⟨k + 1, by omega, by go_num, by rw [HNx.out]; exact H5.out.1, H5.out.2⟩
      · rw [List.concat_eq_append] at hsn
        have HO' : Hid (Own2 wr w.heap.size u3 (r ++ [(s, t)]) ∧ Below w.heap.size w wr) := by have := HO.out; rw [hsn] at this; exact this
        have hrl : r.length + 1 ≤ k := by rw [hsn] at hlen; simpa using hlen
        obtain ⟨g, k3, rfl, h31, h32, h33, h34, h35, h36⟩ := HO'.out.1.place (by simp)
        rw [List.length_append] at h31 ⊢
        simp only [List.length_cons, List.length_nil, Nat.zero_add] at h31 ⊢
        have e1 := h35 r.length s t (by simp)
        have HCs : Hid (wr.cell? ⟨g, r.length * 2, none⟩ = some (.int .i64 s) ∧ wr.cell? ⟨g, r.length * 2 + 1, none⟩ = some (.int .i64 t)) := e1
        have d1 : (wr.alloc (.cells #[.int .i64 x, .int .i64 y, .int .i64 z] 43)).cell? ⟨g, r.length * 2, none⟩ = some (.int .i64 s) := cell_later ((Below.refl _ _).alloc (Nat.le_refl _) _) e1.1
        have d2 : (wr.alloc (.cells #[.int .i64 x, .int .i64 y, .int .i64 z] 43)).cell? ⟨g, r.length * 2 + 1, none⟩ = some (.int .i64 t) := cell_later ((Below.refl _ _).alloc (Nat.le_refl _) _) e1.2
        unfold maxLen at h32
        clear h35 h36 e1 hlen
        obtain ⟨m, hm⟩ : ∃ m, r.length = m := ⟨_, rfl⟩
        have HAl : Hid ((r ++ [(s, t)]).length = m + 1) := by show _ = _; simp [hm]
        have HMr : Hid (r.length = m) := hm
        rw [hm] at d1 d2 h31 hrl HCs ⊢
        simp only [List.length_append, List.length_cons, List.length_nil, Nat.zero_add, hm] at HO'
        by_cases hyt : t < y
        · have HNx : Hid (busyL (l.take (k + 1)) = r ++ [(s, t)] ++ [(y, z)]) := by
            show _ = _
            rw [HStep.out, hsn, busyStep_far _ _ _ _ hyt]
          clear hsn hm
          have t0 : decide ((m : Int) < 0) = false := decide_eq_false (by omega)
          have t1 : decide (y > t) = true := decide_eq_true hyt
          go_wp2_with fail
          go_quiet (fail)
          obtain ⟨W, hW⟩ : ∃ W, (wr.alloc (.cells #[.int .i64 x, .int .i64 y, .int .i64 z] 43)).drewN nq = W := ⟨_, rfl⟩
          have hbW : Below wr.heap.size wr W := by rw [← hW]; exact below_drewN ((Below.refl _ _).alloc (Nat.le_refl _) _) _
          have w2 : W.cell? ⟨wr.heap.size, 1, none⟩ = some (.int .i64 y) := by rw [← hW]; simp
          have w3 : W.cell? ⟨wr.heap.size, 2, none⟩ = some (.int .i64 z) := by rw [← hW]; simp
          rw [hW]
          have HW : Hid (Below w.heap.size w W ∧ Own2 W w.heap.size (.slice (some ⟨g, 0, none⟩) (m + 1) k3) (r ++ [(s, t)])) := ⟨HO'.out.2.trans (hbW.mono hsz), HO'.out.1.later hbW⟩
          have HW4 : Hid (Below w.heap.size w (W.alloc (.cells #[.int .i64 y, .int .i64 z] 31)) ∧ Own2 (W.alloc (.cells #[.int .i64 y, .int .i64 z] 31)) w.heap.size (.slice (some ⟨g, 0, none⟩) (m + 1) k3) (r ++ [(s, t)])) := ⟨HW.out.1.alloc HW.out.1.size _, HW.out.2.later ((Below.refl _ _).alloc (Nat.le_refl _) _)⟩
          have HNews : Hid (∀ j u, (cells2 [(y, z)])[j]? = some u → (W.alloc (.cells #[.int .i64 y, .int .i64 z] 31)).cell? ((⟨W.heap.size, 0, none⟩ : Addr).add j) = some u) := World.news_of_block (cs := #[.int .i64 y, .int .i64 z]) (t := 31) (heap_alloc_new W _)
          clear hW hbW
          go_wp2_with (at_builtin; go_must (refine wpList_append_lies _ rfl _ _ 28 rfl w.heap.size 31 i0 (.agg #[.int .i64 0, .int .i64 0]) 2 16 Tryd.underlying28 hi hz0 hz1 hz2 rfl (by decide) (.slice (some ⟨g, 0, none⟩) (m + 1) k3) (m + 1) (cells2 (r ++ [(s, t)])) rfl (by have := HW4.out.2; unfold Own2 at this; rwa [HAl.out] at this) ⟨W.heap.size, 0, none⟩ 1 1 (cells2 [(y, z)]) rfl rfl HNews.out (cells2_one _) (by decide) (by unfold maxLen; omega) (by omega) HW4.out.1.size _ rfl ?_; intro g5 cap5 w5 ho5 hg5 hat5 hlt5; have H5 : Hid (Own2 w5 w.heap.size (.slice (some ⟨g5, 0, none⟩) ((m + 1) + 1) cap5) ((r ++ [(s, t)]) ++ [(y, z)]) ∧ Below w.heap.size w w5) := ⟨(by have h := Own2.snoc (ls := r ++ [(s, t)]) (x := y) (y := z) (g := g5) (cap := cap5) (by rw [HAl.out]; exact ho5); rwa [HAl.out] at h), HW4.out.1.grown hg5 HW4.out.1.size (fun k hk => (ownsRow_lt HW4.out.2 hk).1)⟩; clear ho5 hg5 hat5 hlt5))
          go_roundg (gk - 1)
          case measure => omega
          case rel => exact ⟨k + 1, by omega, by go_num, by rw [HNx.out]; exact H5.out.1, H5.out.2⟩
        · have HNx : Hid (busyL (l.take (k + 1)) = r ++ [(s, max t z)]) := by
            show _ = _
            rw [HStep.out, hsn, busyStep_near _ _ _ _ hyt]
          clear hsn hm
          have t0 : decide ((m : Int) < 0) = false := decide_eq_false (by omega)
          have t1 : decide (y > t) = false := decide_eq_false hyt
          go_wp2_with fail
          go_quiet (fail)
          obtain ⟨W, hW⟩ : ∃ W, (wr.alloc (.cells #[.int .i64 x, .int .i64 y, .int .i64 z] 43)).drewN nq = W := ⟨_, rfl⟩
          have hbW : Below wr.heap.size wr W := by rw [← hW]; exact below_drewN ((Below.refl _ _).alloc (Nat.le_refl _) _) _
          have w3 : W.cell? ⟨wr.heap.size, 2, none⟩ = some (.int .i64 z) := by rw [← hW]; simp
          have w4 : W.cell? ⟨g, m * 2 + 1, none⟩ = some (.int .i64 t) := cell_later hbW HCs.out.2
          rw [hW]
          have HW : Hid (Below w.heap.size w W ∧ Own2 W w.heap.size (.slice (some ⟨g, 0, none⟩) (m + 1) k3) (r ++ [(s, t)])) := ⟨HO'.out.2.trans (hbW.mono hsz), HO'.out.1.later hbW⟩
          have f4 : W.frozen? ⟨g, m * 2 + 1, none⟩ = false := World.ownsRow.frozenAt (n := m + 1) (cap := k3) (by have := HW.out.2; unfold Own2 at this; rw [HAl.out] at this; exact this) _
          clear hW hbW d1 d2
          by_cases hzt : z > t
          · have HNx2 : Hid (busyL (l.take (k + 1)) = r ++ [(s, z)]) := by
              have := HNx.out
              rwa [show max t z = z by omega] at this
            have HEnd : Hid (Own2 (W.setCell ⟨g, m * 2 + 1, none⟩ (.int .i64 z)).drew w.heap.size (.slice (some ⟨g, 0, none⟩) (m + 1) k3) (r ++ [(s, z)]) ∧ Below w.heap.size w (W.setCell ⟨g, m * 2 + 1, none⟩ (.int .i64 z)).drew) := by
              have hp := Own2.put (n := m + 1) HW.out.2 (by rw [HMr.out]) z
              rw [HMr.out] at hp
              have hgB : w.heap.size ≤ g := (ownsRow_lt HW.out.2 rfl).1
              exact ⟨hp.later (below_drewN (Below.refl _ _) 1), below_drewN (HW.out.1.setCell hgB _) 1⟩
            go_wp2_with fail
            go_region
            go_wp2_with fail
            go_roundg (gk - 1)
            case measure => omega
            case rel => exact ⟨k + 1, by omega, by go_num, by rw [HNx2.out]; exact HEnd.out.1, HEnd.out.2⟩
          · have HNx2 : Hid (busyL (l.take (k + 1)) = r ++ [(s, t)]) := by
              have := HNx.out
              rwa [show max t z = t by omega] at this
            have HEnd : Hid (Own2 (W.setCell ⟨g, m * 2 + 1, none⟩ (.int .i64 t)).drew w.heap.size (.slice (some ⟨g, 0, none⟩) (m + 1) k3) (r ++ [(s, t)]) ∧ Below w.heap.size w (W.setCell ⟨g, m * 2 + 1, none⟩ (.int .i64 t)).drew) := by
              have hp := Own2.put (n := m + 1) HW.out.2 (by rw [HMr.out]) t
              rw [HMr.out] at hp
              have hgB : w.heap.size ≤ g := (ownsRow_lt HW.out.2 rfl).1
              exact ⟨hp.later (below_drewN (Below.refl _ _) 1), below_drewN (HW.out.1.setCell hgB _) 1⟩
            go_wp2_with fail
            go_region
            go_wp2_with fail
            go_roundg (gk - 1)
            case measure => omega
            case rel => exact ⟨k + 1, by omega, by go_num, by rw [HNx2.out]; exact HEnd.out.1, HEnd.out.2⟩
    · go_wp2_with fail
      go_ret
      refine ⟨_, rfl, ?_, HO.out.2⟩
      have := HO.out.1
      rwa [List.take_of_length_le (by rw [HN.out]; omega)] at this
end Go.Proofs.YtcldgpbimaoliabDoor
