/- Walks: the last line to have n bytes. -/
import Derived.Test.YtcldgpbimaoliaaDoorDelay3
namespace Go.Proofs.YtcldgpbimaoliaaDoor
open Go.RowKit

/-- A block of two cells that may be written. -/
structure TwoB (b : Nat) (w : World) (x y : Value) : Prop where
  c0 : w.cell? ⟨b, 0, none⟩ = some x
  c1 : w.cell? ⟨b, 1, none⟩ = some y
  f0 : w.frozen? ⟨b, 0, none⟩ = false
  f1 : w.frozen? ⟨b, 1, none⟩ = false
theorem TwoB.lt {b : Nat} {w : World} {x y : Value} (h : TwoB b w x y) : b < w.heap.size := cell_lt h.c0
theorem TwoB.later {b : Nat} {w w' : World} {x y : Value} (h : TwoB b w x y) (hb : Below w.heap.size w w') : TwoB b w' x y :=
  ⟨cell_later hb h.c0, cell_later hb h.c1, by rw [hb.frozen (p := ⟨b, 0, none⟩) h.lt]; exact h.f0, by rw [hb.frozen (p := ⟨b, 1, none⟩) h.lt]; exact h.f1⟩
theorem twoB_new (w : World) (x y : Value) (t : TypeId) : TwoB w.heap.size (w.alloc (.cells #[x, y] t)) x y := ⟨by simp, by simp, by simp, by simp⟩
theorem frozen_setCell (w : World) (p a : Addr) (v : Value) : (w.setCell p v).frozen? a = w.frozen? a := by simp
theorem TwoB.set {b : Nat} {w : World} {x y : Value} (h : TwoB b w x y) (u v : Value) : TwoB b ((w.setCell ⟨b, 0, none⟩ u).setCell ⟨b, 1, none⟩ v) u v := by
  have h1 : (w.setCell ⟨b, 0, none⟩ u).cell? ⟨b, 1, none⟩ = some y := by rw [World.cell?_setCell_other _ _ _ _ (by simp)]; exact h.c1
  refine ⟨?_, World.cell?_setCell_same _ _ _ h1, ?_, ?_⟩
  · rw [World.cell?_setCell_other _ _ _ _ (by simp)]; exact World.cell?_setCell_same _ _ _ h.c0
  · rw [frozen_setCell, frozen_setCell]; exact h.f0
  · rw [frozen_setCell, frozen_setCell]; exact h.f1
theorem cell_far (w : World) (p a : Addr) (v : Value) (h : p.block ≠ a.block) : (w.setCell p v).cell? a = w.cell? a := World.cell?_of_block (Below.heap_setCell w p v a.block (Ne.symm h))
theorem TwoB.far {b c : Nat} {w : World} {x y : Value} (h : TwoB b w x y) (hbc : c ≠ b) (u v : Value) : TwoB b ((w.setCell ⟨c, 0, none⟩ u).setCell ⟨c, 1, none⟩ v) x y := by
  refine ⟨?_, ?_, ?_, ?_⟩
  · rw [cell_far _ _ _ _ hbc, cell_far _ _ _ _ hbc]; exact h.c0
  · rw [cell_far _ _ _ _ hbc, cell_far _ _ _ _ hbc]; exact h.c1
  · rw [frozen_setCell, frozen_setCell]; exact h.f0
  · rw [frozen_setCell, frozen_setCell]; exact h.f1

set_option maxRecDepth 100000 in
set_option maxHeartbeats 1000000 in
theorem last_ok (a : Option Addr) (cap : Nat) (ls : List (Int × Int)) (m : Int) (w : World) (hl : Lies w a ls) (h : okCurve ls) (hcap : ls.length ≤ cap) (hm : cap ≤ maxLen) (m0 : 0 ≤ m) (m1 : m ≤ 20020000) :
    Calls Tryd.prog 89 #[.slice a ls.length cap, .int .i64 m] w fun e w' => e = .returned (.agg #[.int .i64 (lastC m ls).1, .int .i64 (lastC m ls).2]) ∧ Below w.heap.size w w' := by
  obtain ⟨h1, h6, hok⟩ := h
  obtain ⟨b, off, rfl, hlt, hc⟩ := hl.some h1
  clear hl
  unfold maxLen at hm
  obtain ⟨x0, y0, r, rfl⟩ : ∃ x y r, ls = (x, y) :: r := by
    cases ls with
    | nil => simp at h1
    | cons p r => exact ⟨p.1, p.2, r, rfl⟩
  obtain ⟨n, hn⟩ : ∃ n, r.length = n := ⟨_, rfl⟩
  have Hn := (show Hid (r.length = n) from hn)
  have h6' : n ≤ 5 := by simp at h6; omega
  have hcap' : n + 1 ≤ cap := by simp at hcap; omega
  rw [show ((x0, y0) :: r).length = n + 1 by simp [hn]]
  clear h1 h6 hcap hn
  obtain ⟨⟨hx0, hy0⟩, hr⟩ := lies_tail hc
  have HR : Hid (∀ i x y, r[i]? = some (x, y) → w.cell? ⟨b, off + 2 + i * 2, none⟩ = some (.int .i64 x) ∧ w.cell? ⟨b, off + 2 + i * 2 + 1, none⟩ = some (.int .i64 y)) := hr
  have HO : Hid (okAll ((x0, y0) :: r)) := hok
  have HL : Hid (lastC m ((x0, y0) :: r) = lastOf m (x0, y0) r) := rfl
  clear hok hc hr
  -- the two blocks that the call makes first
  have hbA : Below w.heap.size w ((w.alloc (.cells #[.int .i64 0, .int .i64 0] 54)).alloc (.cells #[.int .i64 x0, .int .i64 y0] 54)) := ((Below.refl _ _).alloc (Nat.le_refl _) _).alloc (by simp) _
  have hRA : TwoB w.heap.size ((w.alloc (.cells #[.int .i64 0, .int .i64 0] 54)).alloc (.cells #[.int .i64 x0, .int .i64 y0] 54)) (.int .i64 0) (.int .i64 0) := (twoB_new w _ _ _).later ((Below.refl _ _).alloc (Nat.le_refl _) _)
  have hXA : TwoB (w.heap.size + 1) ((w.alloc (.cells #[.int .i64 0, .int .i64 0] 54)).alloc (.cells #[.int .i64 x0, .int .i64 y0] 54)) (.int .i64 x0) (.int .i64 y0) := by
    have := twoB_new (w.alloc (.cells #[.int .i64 0, .int .i64 0] 54)) (.int .i64 x0) (.int .i64 y0) 54
    simpa using this
  by_cases hc1 : cap = 1
  · subst hc1
    obtain rfl : n = 0 := by omega
    have hr0 : r = [] := List.length_eq_zero_iff.1 Hn.out
    subst hr0
    clear HR Hn HO hbA hRA hXA
    go_enter Tryd.func89, Tryd.ntmps89
    go_wp2
    refine wp_loop_rounds 1 ?_
    rw [rounds_succ]
    go_wp2
    exact bodyPost_ret (v := .agg #[.int .i64 x0, .int .i64 y0]) (by simp [results, Tryd.results89, go_sem]) rfl ⟨rfl, ((Below.refl _ _).alloc (Nat.le_refl _) _).alloc (by simp) _⟩
  · have hc2 : 1 < cap := by omega
    clear hc1
    go_enter Tryd.func89, Tryd.ntmps89
    go_wp2
    clear hx0 hy0
    generalize (w.alloc (.cells #[.int .i64 0, .int .i64 0] 54)).alloc (.cells #[.int .i64 x0, .int .i64 y0] 54) = W at *
    go_loopw [14] (fun i wr => ∃ k : Nat, k ≤ n ∧ i = .int .i64 k ∧ Below w.heap.size w wr ∧ TwoB w.heap.size wr (.int .i64 0) (.int .i64 0) ∧ TwoB (w.heap.size + 1) wr (.int .i64 (lastOf m (x0, y0) (r.take k)).1) (.int .i64 (lastOf m (x0, y0) (r.take k)).2)) (fun i _ => n - (intOf i).toNat)
    case atStart => exact ⟨0, Nat.zero_le _, rfl, hbA, hRA, hXA⟩
    case round =>
      obtain ⟨k, hk, rfl, hb, hR, hX⟩ := hrel
      clear hbA hRA hXA
      have HB : Hid (Below w.heap.size w wr) := hb
      have H0 : Hid (TwoB w.heap.size wr (.int .i64 0) (.int .i64 0)) := hR
      by_cases hkn : k < n
      · obtain ⟨⟨x, y⟩, hp, hmem⟩ := get_some r k (by rw [Hn.out]; exact hkn)
        have q1 : wr.cell? ⟨b, off + 2 + k * 2, none⟩ = some (.int .i64 x) := by rw [hb.cell (p := ⟨b, off + 2 + k * 2, none⟩) hlt]; exact (HR.out k x y hp).1
        have q2 : wr.cell? ⟨b, off + 2 + k * 2 + 1, none⟩ = some (.int .i64 y) := by rw [hb.cell (p := ⟨b, off + 2 + k * 2 + 1, none⟩) hlt]; exact (HR.out k x y hp).2
        have hts : r.take (k + 1) = r.take k ++ [(x, y)] := by rw [List.take_add_one, hp]; rfl
        have HS : Hid (lastOf m (x0, y0) (r.take (k + 1)) = if laterB (x, y) (lastOf m (x0, y0) (r.take k)) m = true then (x, y) else lastOf m (x0, y0) (r.take k)) := by show _ = _; rw [hts]; exact lastOf_snoc _ _ _ _
        have hz : okLine (lastOf m (x0, y0) (r.take k)).1 (lastOf m (x0, y0) (r.take k)).2 = true := by
          rcases lastOf_mem m (r.take k) (x0, y0) with h | h
          · rw [h]; exact HO.out _ (List.mem_cons_self ..)
          · exact HO.out _ (List.mem_cons_of_mem _ (List.mem_of_mem_take h))
        obtain ⟨p1, p2, p3, p4⟩ := okLine_true (HO.out _ (List.mem_cons_of_mem _ hmem))
        obtain ⟨z1, z2, z3, z4⟩ := okLine_true hz
        generalize hZ : lastOf m (x0, y0) (r.take k) = Z at *
        have HZ : Hid (lastOf m (x0, y0) (r.take k) = Z) := hZ
        obtain ⟨X, Y⟩ := Z
        simp only [] at p1 p2 p3 p4 z1 z2 z3 z4 hX
        have HX : Hid (TwoB (w.heap.size + 1) wr (.int .i64 X) (.int .i64 Y)) := hX
        have hb1 : Below wr.heap.size wr (wr.alloc (.cells #[.int .i64 x, .int .i64 y] 54)) := (Below.refl _ _).alloc (Nat.le_refl _) _
        obtain ⟨g0, g1, _, _⟩ := hX.later hb1
        have HB1 : Hid (Below wr.heap.size wr (wr.alloc (.cells #[.int .i64 x, .int .i64 y] 54))) := hb1
        have HY : Hid (TwoB wr.heap.size (wr.alloc (.cells #[.int .i64 x, .int .i64 y] 54)) (.int .i64 x) (.int .i64 y)) := twoB_new wr _ _ _
        clear hts hp hmem hz hb hR hX hb1 hZ
        cases hlat : laterB (x, y) (X, Y) m with
        | true =>
          have HT : Hid (laterB (x, y) (X, Y) m = true) := hlat
          clear hlat
          go_wp2_with fail
          refine (isLater_any x y X Y m _ p1 p2 p3 p4 z1 z2 z3 z4 m0 m1).mono ?_
          rintro e w2 ⟨rfl, hb2⟩
          rw [HT.out]
          have HB2 : Hid (Below wr.heap.size wr w2) := HB1.out.trans (hb2.mono HB1.out.size)
          obtain ⟨y0', y1', _, _⟩ := HY.out.later hb2
          have hX2 := HX.out.later HB2.out
          obtain ⟨k0, k1, k2, k3⟩ := hX2
          have hs2 : w.heap.size ≤ w.heap.size + 1 := by omega
          clear hb2
          go_wp2_with fail
          go_roundw
          case rel =>
            refine ⟨k + 1, by omega, by go_num, ?_, ?_, ?_⟩
            · exact ((HB.out.trans (HB2.out.mono HB.out.size)).setCell hs2 _).setCell hs2 _
            · exact (H0.out.later HB2.out).far (by omega) _ _
            · rw [HS.out, if_pos HT.out]
              exact (HX.out.later HB2.out).set _ _
          case measure => simp [intOf]; omega
        | false =>
          have HT : Hid (laterB (x, y) (X, Y) m = false) := hlat
          clear hlat
          go_wp2_with fail
          refine (isLater_any x y X Y m _ p1 p2 p3 p4 z1 z2 z3 z4 m0 m1).mono ?_
          rintro e w2 ⟨rfl, hb2⟩
          rw [HT.out]
          have HB2 : Hid (Below wr.heap.size wr w2) := HB1.out.trans (hb2.mono HB1.out.size)
          clear hb2
          go_wp2_with fail
          go_roundw
          case rel =>
            refine ⟨k + 1, by omega, by go_num, HB.out.trans (HB2.out.mono HB.out.size), H0.out.later HB2.out, ?_⟩
            rw [HS.out, if_neg (by rw [HT.out]; decide)]
            exact HX.out.later HB2.out
          case measure => simp [intOf]; omega
      · have hk' : k = n := by omega
        subst hk'
        rw [List.take_of_length_le (by rw [Hn.out]; omega)] at hX
        have HF : Hid (lastC m ((x0, y0) :: r) = lastOf m (x0, y0) r) := rfl
        generalize lastOf m (x0, y0) r = Z at *
        obtain ⟨X, Y⟩ := Z
        simp only [] at hX
        obtain ⟨g0, g1, _, _⟩ := hX
        obtain ⟨j0, j1, j2, j3⟩ := hR
        clear hb
        go_wp2_with fail
        refine bodyPost_ret (v := .agg #[.int .i64 X, .int .i64 Y]) (by simp [results, Tryd.results89, go_sem, j0, j1]) rfl ⟨?_, (HB.out.setCell (Nat.le_refl _) _).setCell (Nat.le_refl _) _⟩
        rw [HF.out]
end Go.Proofs.YtcldgpbimaoliaaDoor
