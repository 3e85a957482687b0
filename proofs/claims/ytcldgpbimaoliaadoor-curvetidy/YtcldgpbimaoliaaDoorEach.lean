/- Walks: each. -/
import Derived.Test.YtcldgpbimaoliaaDoorLow2
import Derived.Maps.AppendAt
namespace Go.Proofs.YtcldgpbimaoliaaDoor
open Go.RowKit

def rowL (x : Int × Int) (lb : List (Int × Int)) : List (Int × Int) := lb.map fun y => (x.1 + y.1, x.2 + y.2)
def eachL (la lb : List (Int × Int)) : List (Int × Int) := la.flatMap fun x => rowL x lb
theorem rowL_snoc (x : Int × Int) (lb : List (Int × Int)) (y : Int × Int) : rowL x (lb ++ [y]) = rowL x lb ++ [(x.1 + y.1, x.2 + y.2)] := by simp [rowL]
theorem eachL_snoc (la lb : List (Int × Int)) (x : Int × Int) : eachL (la ++ [x]) lb = eachL la lb ++ rowL x lb := by simp [eachL]
theorem eachL_length (la lb : List (Int × Int)) : (eachL la lb).length = la.length * lb.length := by
  induction la with
  | nil => simp [eachL]
  | cons x r ih =>
    have e : eachL (x :: r) lb = rowL x lb ++ eachL r lb := by simp [eachL]
    rw [e, List.length_append, ih]
    simp [rowL, Nat.add_mul]
    omega
theorem OwnL.snoc {w : World} {B : Nat} {v : Value} {T : List (Int × Int)} {x y : Int} (h : w.ownsRow B 54 2 v (T.length + 1) (cellsL T ++ [.int .i64 x, .int .i64 y])) : OwnL w B v (T ++ [(x, y)]) := by
  unfold OwnL
  rw [cellsL_append, List.length_append]
  exact h

set_option maxRecDepth 100000 in
set_option maxHeartbeats 2000000 in
theorem each_ok (a1 a2 : Option Addr) (cap1 cap2 : Nat) (la lb : List (Int × Int)) (w : World) (h1 : Lies w a1 la) (h2 : Lies w a2 lb) (n1 : la.length ≤ 6) (n2 : lb.length ≤ 6) (k1 : okAll la) (k2 : okAll lb) :
    Calls Tryd.prog 61 #[.slice a1 la.length cap1, .slice a2 lb.length cap2] w fun e w' => ∃ v, e = .returned v ∧ OwnL w' w.heap.size v (eachL la lb) ∧ Below w.heap.size w w' := by
  have HA : Hid (Lies w a1 la) := h1
  have HB : Hid (Lies w a2 lb) := h2
  have KA : Hid (okAll la) := k1
  have KB : Hid (okAll lb) := k2
  obtain ⟨i0, hi, hz0, hz1, hz2⟩ := info_parts Tryd.infoLine
  clear h1 h2 k1 k2
  go_enter Tryd.func61, Tryd.ntmps61
  go_wp2_with fail
  go_loopg [5, 12] la.length (fun gk v i wr => ∃ k : Nat, gk + k = la.length ∧ i = .int .i64 k ∧ OwnL wr w.heap.size v (eachL (la.take k) lb) ∧ Below w.heap.size w wr)
  case atStart => exact ⟨0, rfl, rfl, World.ownsRow_nil _ _ _ _, Below.refl _ _⟩
  case round =>
    obtain ⟨k, hgk, rfl, hown, hbr⟩ := hrel
    have HBR : Hid (Below w.heap.size w wr) := hbr
    by_cases hkn : k < la.length
    · obtain ⟨⟨x, y⟩, hp, hmem⟩ := get_some la k hkn
      obtain ⟨b, off, rfl, hlt, hc⟩ := HA.out.some (by omega)
      have c1 := cell_later hbr (hc k x y hp).1
      have c2 := cell_later hbr (hc k x y hp).2
      obtain ⟨q1, q2, q3, q4⟩ := okLine_true (KA.out _ hmem)
      simp only [] at q1 q2 q3 q4
      have hts : la.take (k + 1) = la.take k ++ [(x, y)] := by rw [List.take_add_one, hp]; rfl
      have HS : Hid (eachL (la.take (k + 1)) lb = eachL (la.take k) lb ++ rowL (x, y) lb) := by show _ = _; rw [hts]; exact eachL_snoc _ _ _
      have hTlen : (eachL (la.take k) lb).length ≤ 36 := by
        rw [eachL_length, List.length_take]
        exact Nat.le_trans (Nat.mul_le_mul (show min k la.length ≤ 6 by omega) n2) (by decide)
      generalize eachL (la.take k) lb = T0 at *
      obtain ⟨a0, n0, k0, rfl⟩ : ∃ a0 n0 k0, u5 = .slice a0 n0 k0 := by obtain ⟨a, c, e, _⟩ := hown.open; exact ⟨_, _, _, e⟩
      have hb1 : Below wr.heap.size wr (wr.alloc (.cells #[.int .i64 x, .int .i64 y] 54)) := (Below.refl _ _).alloc (Nat.le_refl _) _
      have hx1 : (wr.alloc (.cells #[.int .i64 x, .int .i64 y] 54)).cell? ⟨wr.heap.size, 0, none⟩ = some (.int .i64 x) := by simp
      have hx2 : (wr.alloc (.cells #[.int .i64 x, .int .i64 y] 54)).cell? ⟨wr.heap.size, 1, none⟩ = some (.int .i64 y) := by simp
      have hown1 := hown.later hb1
      have hbr1 : Below w.heap.size w (wr.alloc (.cells #[.int .i64 x, .int .i64 y] 54)) := hbr.trans (hb1.mono hbr.size)
      have hne : (Value.slice a0 n0 k0).ownBlock ≠ some wr.heap.size := fun e => by have := (World.ownsRow.lt hown _ e).2; omega
      clear hc hp hmem hts hown hbr hb1
      go_wp2_with fail
      generalize wr.alloc (.cells #[.int .i64 x, .int .i64 y] 54) = W1 at *
      have HX1 : Hid (W1.cell? ⟨wr.heap.size, 0, none⟩ = some (.int .i64 x) ∧ W1.cell? ⟨wr.heap.size, 1, none⟩ = some (.int .i64 y)) := ⟨hx1, hx2⟩
      have HBR1 : Hid (Below w.heap.size w W1) := hbr1
      have HOW1 : Hid (OwnL W1 w.heap.size (.slice a0 n0 k0) T0) := hown1
      have HNE : Hid ((Value.slice a0 n0 k0).ownBlock ≠ some wr.heap.size) := hne
      clear hx1 hx2 hbr1 hown1 hne c1 c2
      obtain ⟨GK, rfl⟩ : ∃ z, z = gk := ⟨gk, rfl⟩
      obtain ⟨wO, rfl⟩ : ∃ z, z = wr := ⟨wr, rfl⟩
      go_loopg [5, 18] lb.length (fun gi v i wr2 => ∃ j : Nat, gi + j = lb.length ∧ i = .int .i64 j ∧ OwnL wr2 w.heap.size v (T0 ++ rowL (x, y) (lb.take j)) ∧ wr2.cell? ⟨wO.heap.size, 0, none⟩ = some (.int .i64 x) ∧ wr2.cell? ⟨wO.heap.size, 1, none⟩ = some (.int .i64 y) ∧ v.ownBlock ≠ some wO.heap.size ∧ Below w.heap.size w wr2)
      case atStart => exact ⟨0, rfl, rfl, by have := HOW1.out; simpa [rowL] using this, HX1.out.1, HX1.out.2, HNE.out, HBR1.out⟩
      case round =>
        obtain ⟨j, hgi, rfl, hown2, d1, d2, hne2, hb2⟩ := hrel
        have HB2 : Hid (Below w.heap.size w wr) := hb2
        by_cases hjn : j < lb.length
        · obtain ⟨⟨x', y'⟩, hp, hmem⟩ := get_some lb j hjn
          obtain ⟨b', off', rfl, hlt', hc⟩ := HB.out.some (by omega)
          have e1 := cell_later hb2 (hc j x' y' hp).1
          have e2 := cell_later hb2 (hc j x' y' hp).2
          obtain ⟨r1, r2, r3, r4⟩ := okLine_true (KB.out _ hmem)
          simp only [] at r1 r2 r3 r4
          have hts : lb.take (j + 1) = lb.take j ++ [(x', y')] := by rw [List.take_add_one, hp]; rfl
          have HSJ : Hid (T0 ++ rowL (x, y) (lb.take (j + 1)) = (T0 ++ rowL (x, y) (lb.take j)) ++ [(x + x', y + y')]) := by show _ = _; rw [hts, rowL_snoc, List.append_assoc]
          have hT1 : (T0 ++ rowL (x, y) (lb.take j)).length ≤ 42 := by simp [rowL]; omega
          generalize T0 ++ rowL (x, y) (lb.take j) = T1 at *
          obtain ⟨a3, n3, k3, rfl⟩ : ∃ a3 n3 k3, u5 = .slice a3 n3 k3 := by obtain ⟨a, c, e, _⟩ := hown2.open; exact ⟨_, _, _, e⟩
          have HOWr : Hid (wr.ownsRow w.heap.size 54 2 (.slice a3 n3 k3) T1.length (cellsL T1)) := hown2
          have HNE2 : Hid ((Value.slice a3 n3 k3).ownBlock ≠ some wO.heap.size) := hne2
          have hlt0 := cell_lt d1
          have HNW : Hid (∀ j u, [Value.int .i64 (x + x'), .int .i64 (y + y')][j]? = some u → ((wr.alloc (.cells #[.int .i64 x', .int .i64 y'] 54)).alloc (.cells #[.int .i64 (x + x'), .int .i64 (y + y')] 54)).cell? ((⟨wr.heap.size + 1, 0, none⟩ : Addr).add j) = some u) := by
            have := news_newT (wr.alloc (.cells #[.int .i64 x', .int .i64 y'] 54)) (x + x') (y + y')
            rw [show (wr.alloc (.cells #[.int .i64 x', .int .i64 y'] 54)).heap.size = wr.heap.size + 1 by simp] at this
            exact this
          simp only [] at hlt0
          clear hc hp hmem hts hown2 hne2 hb2
          go_wp2_with (at_builtin; refine wpList_append_own_at _ rfl _ _ 35 rfl w.heap.size 54 i0 (.agg #[.int .i64 0, .int .i64 0]) 2 16 Tryd.underlying35 hi hz0 hz1 hz2 rfl (by decide) (.slice a3 n3 k3) T1.length (cellsL T1) rfl ((HOWr.out.alloc _).alloc _) ⟨wr.heap.size + 1, 0, none⟩ 1 1 [.int .i64 (x + x'), .int .i64 (y + y')] rfl rfl HNW.out (ints_oneT _ _) (by unfold maxLen; omega) (by omega) (Nat.le_trans HB2.out.size (by simp; omega)) ?_; intro v3 w3 hown3 hgrow3 _ hat3)
          have HB3 : Hid (Below w.heap.size w w3) := OwnL.grownT (ls := T1) ((HB2.out.alloc HB2.out.size _).alloc (by have := HB2.out.size; simp; omega) _) ((HOWr.out.alloc _).alloc _) hgrow3
          have HO3 : Hid (OwnL w3 w.heap.size v3 (T1 ++ [(x + x', y + y')])) := OwnL.snoc hown3
          have HN3 : Hid (v3.ownBlock ≠ some wO.heap.size) := by
            show _ ≠ _
            rcases hat3 with h | h
            · rw [h]; exact HNE2.out
            · rw [h]; intro e; injection e with e; simp at e; omega
          have f1 : w3.cell? ⟨wO.heap.size, 0, none⟩ = some (.int .i64 x) := hgrow3.cell (cell_later (((Below.refl _ _).alloc (Nat.le_refl _) _).alloc (by simp) _) d1) (fun e => HNE2.out e.symm)
          have f2 : w3.cell? ⟨wO.heap.size, 1, none⟩ = some (.int .i64 y) := hgrow3.cell (cell_later (((Below.refl _ _).alloc (Nat.le_refl _) _).alloc (by simp) _) d2) (fun e => HNE2.out e.symm)
          obtain ⟨a4, n4, k4, rfl⟩ : ∃ a4 n4 k4, v3 = .slice a4 n4 k4 := by obtain ⟨a, c, e, _⟩ := HO3.out.open; exact ⟨_, _, _, e⟩
          clear hown3 hgrow3 hat3 d1 d2
          go_wp2_with fail
          go_roundg (gk - 1)
          case measure => omega
          case rel => exact ⟨j + 1, by omega, by go_num, by rw [HSJ.out]; exact HO3.out, f1, f2, HN3.out, HB3.out⟩
        · have hj' : j = lb.length := by omega
          subst hj'
          rw [List.take_length] at hown2
          have HO3 : Hid (OwnL wr w.heap.size u5 (T0 ++ rowL (x, y) lb)) := hown2
          obtain ⟨a3, n3, k3, rfl⟩ : ∃ a3 n3 k3, u5 = .slice a3 n3 k3 := by obtain ⟨a, c, e, _⟩ := hown2.open; exact ⟨_, _, _, e⟩
          clear hown2 hb2 hne2 d1 d2
          go_wp2_with fail
          go_roundg (GK - 1)
          case measure => omega
          case rel => exact ⟨k + 1, by omega, by go_num, by rw [HS.out]; exact HO3.out, HB2.out⟩
    · have hk' : k = la.length := by omega
      subst hk'
      rw [List.take_length] at hown
      obtain ⟨a0, n0, k0, rfl⟩ : ∃ a0 n0 k0, u5 = .slice a0 n0 k0 := by obtain ⟨a, c, e, _⟩ := hown.open; exact ⟨_, _, _, e⟩
      have HOW : Hid (OwnL wr w.heap.size (.slice a0 n0 k0) (eachL la lb)) := hown
      clear hown hbr
      go_wp2_with fail
      go_ret
      exact ⟨_, rfl, HOW.out, HBR.out⟩
end Go.Proofs.YtcldgpbimaoliaaDoor
