/- Walks: the document's answer: two curves together. -/
import Derived.Test.YtcldgpbimaoliaaDoorTidy2
import Derived.Deep.RegionHeld
namespace Go.Proofs.YtcldgpbimaoliaaDoor
open Go.RowKit

/-- What the document's answer tells of two curves. -/
def SumOfIs (la lb : List (Int × Int)) (w w' : World) (e : Ending) : Prop :=
  Below w.heap.size w w' ∧ ((¬ okAll (eachL la lb) ∧ e = .returned (.tuple #[.slice none 0 0, .int .i64 2])) ∨
    (okAll (eachL la lb) ∧ ∃ R, KeptTo (eachL la lb) (eachL la lb).length R ∧
      ((6 < R.length ∧ e = .returned (.tuple #[.slice none 0 0, .int .i64 3])) ∨ (R.length ≤ 6 ∧ ∃ v, e = .returned (.tuple #[v, .int .i64 0]) ∧ OwnL w' w.heap.size v R))))
theorem okAll_snoc {T : List (Int × Int)} {z : Int × Int} (h : okAll T) (hz : okLine z.1 z.2 = true) : okAll (T ++ [z]) := fun p hp => by
  rcases List.mem_append.1 hp with hp | hp
  · exact h p hp
  · rw [List.mem_singleton.1 hp]; exact hz
theorem each_in {la lb : List (Int × Int)} {x y : Int × Int} (hx : x ∈ la) (hy : y ∈ lb) : (x.1 + y.1, x.2 + y.2) ∈ eachL la lb := by
  simp only [eachL, rowL, List.mem_flatMap, List.mem_map]
  exact ⟨x, hx, y, hy, rfl⟩

set_option maxRecDepth 100000 in
set_option maxHeartbeats 4000000 in
theorem sumOf_ok (a1 a2 : Option Addr) (cap1 cap2 : Nat) (la lb : List (Int × Int)) (w : World) (h1 : Lies w a1 la) (h2 : Lies w a2 lb) (n1 : la.length ≤ 6) (n2 : lb.length ≤ 6) (k1 : okAll la) (k2 : okAll lb) :
    Calls Tryd.prog 31 #[.slice a1 la.length cap1, .slice a2 lb.length cap2] w fun e w' => SumOfIs la lb w w' e := by
  have HA : Hid (Lies w a1 la) := h1
  have HB : Hid (Lies w a2 lb) := h2
  have KA : Hid (okAll la) := k1
  have KB : Hid (okAll lb) := k2
  obtain ⟨i0, hi, hz0, hz1, hz2⟩ := info_parts Tryd.infoLine
  clear h1 h2 k1 k2
  go_enter Tryd.func31, Tryd.ntmps31
  go_wp2_with fail
  go_loopg [6, 7] la.length (fun gk v i wr => ∃ k : Nat, gk + k = la.length ∧ i = .int .i64 k ∧ OwnL wr w.heap.size v (eachL (la.take k) lb) ∧ okAll (eachL (la.take k) lb) ∧ Below w.heap.size w wr)
  case atStart => exact ⟨0, rfl, rfl, World.ownsRow_nil _ _ _ _, fun p hp => by simp [eachL] at hp, Below.refl _ _⟩
  case round =>
    obtain ⟨k, hgk, rfl, hown, hokT, hbr⟩ := hrel
    have HBR : Hid (Below w.heap.size w wr) := hbr
    obtain ⟨a0, n0, k0, rfl⟩ : ∃ a0 n0 k0, u6 = .slice a0 n0 k0 := by obtain ⟨a, c, e, _⟩ := hown.open; exact ⟨_, _, _, e⟩
    by_cases hkn : k < la.length
    · obtain ⟨⟨x, y⟩, hp, hmem⟩ := get_some la k hkn
      obtain ⟨b, off, rfl, hlt, hc⟩ := HA.out.some (by omega)
      have HC : Hid (w.cell? ⟨b, off + k * 2, none⟩ = some (.int .i64 x) ∧ w.cell? ⟨b, off + k * 2 + 1, none⟩ = some (.int .i64 y)) := hc k x y hp
      obtain ⟨q1, q2, q3, q4⟩ := okLine_true (KA.out _ hmem)
      simp only [] at q1 q2 q3 q4
      have HMA : Hid ((x, y) ∈ la) := hmem
      have hts : la.take (k + 1) = la.take k ++ [(x, y)] := by rw [List.take_add_one, hp]; rfl
      have HS : Hid (eachL (la.take (k + 1)) lb = eachL (la.take k) lb ++ rowL (x, y) lb) := by show _ = _; rw [hts]; exact eachL_snoc _ _ _
      have hTlen : (eachL (la.take k) lb).length ≤ 36 := by
        rw [eachL_length, List.length_take]
        exact Nat.le_trans (Nat.mul_le_mul (show min k la.length ≤ 6 by omega) n2) (by decide)
      generalize eachL (la.take k) lb = T0 at *
      have HOW0 : Hid (OwnL wr w.heap.size (.slice a0 n0 k0) T0 ∧ okAll T0) := ⟨hown, hokT⟩
      clear hc hp hmem hts hown hbr hokT
      go_wp2_with fail
      obtain ⟨GK, rfl⟩ : ∃ z, z = gk := ⟨gk, rfl⟩
      obtain ⟨wO, rfl⟩ : ∃ z, z = wr := ⟨wr, rfl⟩
      go_loopg [6, 8] lb.length (fun gi v i wr2 => ∃ j : Nat, gi + j = lb.length ∧ i = .int .i64 j ∧ OwnL wr2 w.heap.size v (T0 ++ rowL (x, y) (lb.take j)) ∧ okAll (T0 ++ rowL (x, y) (lb.take j)) ∧ Below w.heap.size w wr2)
      case atStart => exact ⟨0, rfl, rfl, by have := HOW0.out.1; simpa [rowL] using this, by have := HOW0.out.2; simpa [rowL] using this, HBR.out⟩
      case round =>
        obtain ⟨j, hgi, rfl, hown2, hok2, hb2⟩ := hrel
        have HB2 : Hid (Below w.heap.size w wr) := hb2
        by_cases hjn : j < lb.length
        · obtain ⟨⟨x', y'⟩, hp, hmem⟩ := get_some lb j hjn
          obtain ⟨b', off', rfl, hlt', hc⟩ := HB.out.some (by omega)
          have d1 : wr.cell? ⟨b, off + k * 2, none⟩ = some (.int .i64 x) := cell_later hb2 HC.out.1
          have d2 : wr.cell? ⟨b, off + k * 2 + 1, none⟩ = some (.int .i64 y) := cell_later hb2 HC.out.2
          have e1 := cell_later hb2 (hc j x' y' hp).1
          have e2 := cell_later hb2 (hc j x' y' hp).2
          obtain ⟨r1, r2, r3, r4⟩ := okLine_true (KB.out _ hmem)
          simp only [] at r1 r2 r3 r4
          have HIN : Hid ((x + x', y + y') ∈ eachL la lb) := each_in HMA.out hmem
          have hts : lb.take (j + 1) = lb.take j ++ [(x', y')] := by rw [List.take_add_one, hp]; rfl
          have HSJ : Hid (T0 ++ rowL (x, y) (lb.take (j + 1)) = (T0 ++ rowL (x, y) (lb.take j)) ++ [(x + x', y + y')]) := by show _ = _; rw [hts, rowL_snoc, List.append_assoc]
          have hT1 : (T0 ++ rowL (x, y) (lb.take j)).length ≤ 42 := by simp [rowL]; omega
          generalize T0 ++ rowL (x, y) (lb.take j) = T1 at *
          obtain ⟨a3, n3, k3, rfl⟩ : ∃ a3 n3 k3, u6 = .slice a3 n3 k3 := by obtain ⟨a, c, e, _⟩ := hown2.open; exact ⟨_, _, _, e⟩
          have HOWr : Hid (wr.ownsRow w.heap.size 54 2 (.slice a3 n3 k3) T1.length (cellsL T1)) := hown2
          have HOK1 : Hid (okAll T1) := hok2
          clear hc hp hmem hts hown2 hb2 hok2
          go_wp2_with fail
          go_region_held (fun w' => w'.cell? ⟨b, off + k * 2, none⟩ = some (.int .i64 x) ∧ w'.cell? ⟨b, off + k * 2 + 1, none⟩ = some (.int .i64 y) ∧ w'.cell? ⟨b', off' + j * 2, none⟩ = some (.int .i64 x') ∧ w'.cell? ⟨b', off' + j * 2 + 1, none⟩ = some (.int .i64 y')) (go_keep) (fail)
          go_wp2_with fail
          have HW1 : Hid (Below wr.heap.size wr (wr.alloc (.cells #[.int .i64 (x + x'), .int .i64 (y + y')] 54)).drew) := ((Below.refl _ _).alloc (Nat.le_refl _) _).drew
          have HB3 : Hid (Below w.heap.size w (wr.alloc (.cells #[.int .i64 (x + x'), .int .i64 (y + y')] 54)).drew) := HB2.out.trans (HW1.out.mono HB2.out.size)
          have HO3 : Hid (OwnL (wr.alloc (.cells #[.int .i64 (x + x'), .int .i64 (y + y')] 54)).drew w.heap.size (.slice a3 n3 k3) T1) := OwnL.later (ls := T1) HOWr.out HW1.out
          have g1 : (wr.alloc (.cells #[.int .i64 (x + x'), .int .i64 (y + y')] 54)).drew.cell? ⟨wr.heap.size, 0, none⟩ = some (.int .i64 (x + x')) := by simp
          have g2 : (wr.alloc (.cells #[.int .i64 (x + x'), .int .i64 (y + y')] 54)).drew.cell? ⟨wr.heap.size, 1, none⟩ = some (.int .i64 (y + y')) := by simp
          have hlw : wr.heap.size < (wr.alloc (.cells #[.int .i64 (x + x'), .int .i64 (y + y')] 54)).drew.heap.size := by simp
          clear HW1 d1 d2 e1 e2 HOWr HB2
          generalize (wr.alloc (.cells #[.int .i64 (x + x'), .int .i64 (y + y')] 54)).drew = W1 at *
          cases hz : okLine (x + x') (y + y') with
          | false =>
            refine (lineError_no _ _ _ hz).mono ?_
            rintro e w2 ⟨rfl, rfl⟩
            go_wp2_with fail
            go_ret2
            exact ⟨HB3.out.alloc HB3.out.size _, .inl ⟨fun h => (by have := h _ HIN.out; rw [hz] at this; cases this), rfl⟩⟩
          | true =>
            refine (lineError_yes _ _ _ hz).mono ?_
            rintro e w2 ⟨rfl, rfl⟩
            have HNW : Hid (∀ j u, [Value.int .i64 (x + x'), .int .i64 (y + y')][j]? = some u → ((W1.alloc (.cells #[.int .i64 (x + x'), .int .i64 (y + y')] 54)).alloc (.cells #[.int .i64 (x + x'), .int .i64 (y + y')] 54)).cell? ((⟨W1.heap.size + 1, 0, none⟩ : Addr).add j) = some u) := by
              have := news_newT (W1.alloc (.cells #[.int .i64 (x + x'), .int .i64 (y + y')] 54)) (x + x') (y + y')
              rw [show (W1.alloc (.cells #[.int .i64 (x + x'), .int .i64 (y + y')] 54)).heap.size = W1.heap.size + 1 by simp] at this
              exact this
            have HZ : Hid (okLine (x + x') (y + y') = true) := hz
            have HOWr : Hid (W1.ownsRow w.heap.size 54 2 (.slice a3 n3 k3) T1.length (cellsL T1)) := HO3.out
            clear hz
            go_wp2_with (at_builtin; refine wpList_append_own_at _ rfl _ _ 35 rfl w.heap.size 54 i0 (.agg #[.int .i64 0, .int .i64 0]) 2 16 Tryd.underlying35 hi hz0 hz1 hz2 rfl (by decide) (.slice a3 n3 k3) T1.length (cellsL T1) rfl ((HOWr.out.alloc _).alloc _) ⟨W1.heap.size + 1, 0, none⟩ 1 1 [.int .i64 (x + x'), .int .i64 (y + y')] rfl rfl HNW.out (ints_oneT _ _) (by unfold maxLen; omega) (by omega) (Nat.le_trans HB3.out.size (by simp; omega)) ?_; intro v3 w3 hown3 hgrow3 _ hat3)
            have HB5 : Hid (Below w.heap.size w w3) := OwnL.grownT (ls := T1) ((HB3.out.alloc HB3.out.size _).alloc (by have := HB3.out.size; simp; omega) _) ((HOWr.out.alloc _).alloc _) hgrow3
            have HO5 : Hid (OwnL w3 w.heap.size v3 (T1 ++ [(x + x', y + y')])) := OwnL.snoc hown3
            obtain ⟨a4, n4, k4, rfl⟩ : ∃ a4 n4 k4, v3 = .slice a4 n4 k4 := by obtain ⟨a, c, e, _⟩ := HO5.out.open; exact ⟨_, _, _, e⟩
            clear hown3 hgrow3 hat3
            go_wp2_with fail
            go_roundg (gk - 1)
            case measure => omega
            case rel => exact ⟨j + 1, by omega, by go_num, by rw [HSJ.out]; exact HO5.out, by rw [HSJ.out]; exact okAll_snoc HOK1.out HZ.out, HB5.out⟩
        · have hj' : j = lb.length := by omega
          subst hj'
          rw [List.take_length] at hown2 hok2
          have HO3 : Hid (OwnL wr w.heap.size u6 (T0 ++ rowL (x, y) lb) ∧ okAll (T0 ++ rowL (x, y) lb)) := ⟨hown2, hok2⟩
          obtain ⟨a3, n3, k3, rfl⟩ : ∃ a3 n3 k3, u6 = .slice a3 n3 k3 := by obtain ⟨a, c, e, _⟩ := hown2.open; exact ⟨_, _, _, e⟩
          clear hown2 hb2 hok2
          go_wp2_with fail
          go_roundg (GK - 1)
          case measure => omega
          case rel => exact ⟨k + 1, by omega, by go_num, by rw [HS.out]; exact HO3.out.1, by rw [HS.out]; exact HO3.out.2, HB2.out⟩
    · have hk' : k = la.length := by omega
      subst hk'
      rw [List.take_length] at hown hokT
      obtain ⟨hn0, -, -, hL0⟩ := OwnL.lies hown
      have HL0 : Hid (Lies wr a0 (eachL la lb) ∧ okAll (eachL la lb) ∧ (eachL la lb).length ≤ 500 ∧ n0 = (eachL la lb).length) := ⟨hL0, hokT, by rw [eachL_length]; exact Nat.le_trans (Nat.mul_le_mul n1 n2) (by decide), hn0⟩
      clear hown hbr hokT hn0 hL0
      go_wp2_with fail
      rw [HL0.out.2.2.2]
      refine (tidyOf_ok a0 k0 (eachL la lb) _ HL0.out.1 HL0.out.2.2.1 HL0.out.2.1).mono ?_
      rintro e w2 ⟨v, R, rfl, hkept, ho, hb2⟩
      have HB2 : Hid (Below w.heap.size w w2) := HBR.out.trans (hb2.mono HBR.out.size)
      have HO2 : Hid (OwnL w2 w.heap.size v R) := ownsRow_mono ho HBR.out.size
      have HK : Hid (KeptTo (eachL la lb) (eachL la lb).length R) := hkept
      have hRl : R.length ≤ 500 := Nat.le_trans hkept.len HL0.out.2.2.1
      obtain ⟨a4, k4, rfl, -, -, -⟩ := OwnL.open ho
      clear hkept ho hb2
      by_cases h6 : 6 < R.length
      · go_wp2_with fail
        go_ret2
        exact ⟨HB2.out, .inr ⟨HL0.out.2.1, R, HK.out, .inl ⟨h6, rfl⟩⟩⟩
      · go_wp2_with fail
        go_ret2
        exact ⟨HB2.out, .inr ⟨HL0.out.2.1, R, HK.out, .inr ⟨by omega, _, rfl, HO2.out⟩⟩⟩
end Go.Proofs.YtcldgpbimaoliaaDoor
