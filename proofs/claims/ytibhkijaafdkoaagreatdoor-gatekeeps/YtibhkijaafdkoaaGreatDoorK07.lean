/- Own facts, put together: no statement of its own. -/
import Derived.Deep.RegionHeld
import Derived.Test.YtibhkijaafdkoaaGreatDoorK06
import Derived.Test.YtibhkijaafdkoaaGreatDoorK05
import Derived.Test.YtibhkijaafdkoaaGreatDoorK03
namespace Go.Proofs.YtibhkijaafdkoaaGreatDoor
open Go.RowKit
def SumOfIs (la lb : List (Int × Int)) (w w' : World) (e : Ending) : Prop :=
 Below w.heap.size w w' ∧ ((¬ okAll (eachL la lb) ∧ e = .returned (.tuple #[.slice none 0 0, .int .i64 2])) ∨
  (okAll (eachL la lb) ∧ ∃ R, KeptTo (eachL la lb) (eachL la lb).length R ∧
   ((6 < R.length ∧ e = .returned (.tuple #[.slice none 0 0, .int .i64 3])) ∨ (R.length ≤ 6 ∧ ∃ v, e = .returned (.tuple #[v, .int .i64 0]) ∧ OwnL w' w.heap.size v R))))
theorem okAll_snoc {T : List (Int × Int)} {z : Int × Int} (h : okAll T) (hz : okLine z.1 z.2 = true) : okAll (T ++ [z]) := fun p hp => by
 rcases List.mem_append.1 hp with hp | hp
 · exact h p hp
 · rw [List.mem_singleton.1 hp]; exact hz
theorem each_in {la lb : List (Int × Int)} {x y : Int × Int} (hx : x ∈ la) (hy : y ∈ lb) : (x.1 + y.1, x.2 + y.2) ∈ eachL la lb := by
 simp only [eachL, rowL, List.mem_flatMap, List.mem_map]
 exact ⟨x, hx, y, hy, rfl⟩
set_option maxRecDepth 100000 in
set_option maxHeartbeats 4000000 in
theorem sumOf_ok (a1 a2 : Option Addr) (cap1 cap2 : Nat) (la lb : List (Int × Int)) (w : World) (h1 : Lies w a1 la) (h2 : Lies w a2 lb) (n1 : la.length ≤ 6) (n2 : lb.length ≤ 6) (k1 : okAll la) (k2 : okAll lb) :
  Calls Tryz.prog 42 #[.slice a1 la.length cap1, .slice a2 lb.length cap2] w fun e w' => SumOfIs la lb w w' e := by
 have HA : Hid (Lies w a1 la) := h1
 have HB : Hid (Lies w a2 lb) := h2
 have KA : Hid (okAll la) := k1
 have KB : Hid (okAll lb) := k2
 obtain ⟨i0, hi, hz0, hz1, hz2⟩ := info_parts Tryz.infoLine
 clear h1 h2 k1 k2
 go_enter Tryz.func42, Tryz.ntmps42
 go_wp2_with fail
 go_loopg [6, 7] la.length (fun gk v i wr => ∃ k : Nat, gk + k = la.length ∧ i = .int .i64 k ∧ OwnL wr w.heap.size v (eachL (la.take k) lb) ∧ okAll (eachL (la.take k) lb) ∧ Below w.heap.size w wr)
 case atStart => exact ⟨0, rfl, rfl, World.ownsRow_nil _ _ _ _, fun p hp => by simp [eachL] at hp, Below.refl _ _⟩
 case round =>
  obtain ⟨k, hgk, rfl, hown, hokT, hbr⟩ := hrel
  have HBR : Hid (Below w.heap.size w wr) := hbr
  obtain ⟨a0, n0, k0, rfl⟩ : ∃ a0 n0 k0, u6 = .slice a0 n0 k0 := by obtain ⟨a, c, e, _⟩ := hown.open; exact ⟨_, _, _, e⟩
  by_cases hkn : k < la.length
  ·
   obtain ⟨⟨x, y⟩, hp, hmem⟩ := get_some la k hkn
   obtain ⟨b, off, rfl, hlt, hc⟩ := HA.out.some (by omega)
   have HC : Hid (w.cell? ⟨b, off + k * 2, none⟩ = some (.int .i64 x) ∧ w.cell? ⟨b, off + k * 2 + 1, none⟩ = some (.int .i64 y)) := hc k x y hp
   obtain ⟨q1, q2, q3, q4⟩ := okLine_true (KA.out _ hmem)
   simp only [] at q1 q2 q3 q4
   have HMA : Hid ((x, y) ∈ la) := hmem
   have hts : la.take (k + 1) = la.take k ++ [(x, y)] := by rw [List.take_add_one, hp]; rfl
   have HS : Hid (eachL (la.take (k + 1)) lb = eachL (la.take k) lb ++ rowL (x, y) lb) := by show _ = _; rw [hts]; exact eachL_snoc _ _ _
   have hTlen : (eachL (la.take k) lb).length ≤ 36 := by
    rw [eachL_length, List.length_take]
    exact Nat.le_trans (Nat.mul_le_mul (show min k la.length ≤ 6 by omega) n2) (by decide)
   generalize eachL (la.take k) lb = T0 at *
   have HOW0 : Hid (OwnL wr w.heap.size (.slice a0 n0 k0) T0 ∧ okAll T0) := ⟨hown, hokT⟩
   clear hc hp hmem hts hown hbr hokT
   go_wp2_with fail
   obtain ⟨GK, rfl⟩ : ∃ z, z = gk := ⟨gk, rfl⟩
   obtain ⟨wO, rfl⟩ : ∃ z, z = wr := ⟨wr, rfl⟩
   go_loopg [6, 8] lb.length (fun gi v i wr2 => ∃ j : Nat, gi + j = lb.length ∧ i = .int .i64 j ∧ OwnL wr2 w.heap.size v (T0 ++ rowL (x, y) (lb.take j)) ∧ okAll (T0 ++ rowL (x, y) (lb.take j)) ∧ Below w.heap.size w wr2)
   case atStart => exact ⟨0, rfl, rfl, by have := HOW0.out.1; simpa [rowL] using this, by have := HOW0.out.2; simpa [rowL] using this, HBR.out⟩
   case round =>
    obtain ⟨j, hgi, rfl, hown2, hok2, hb2⟩ := hrel
    have HB2 : Hid (Below w.heap.size w wr) := hb2
    by_cases hjn : j < lb.length
    ·
     obtain ⟨⟨x', y'⟩, hp, hmem⟩ := get_some lb j hjn
     obtain ⟨b', off', rfl, hlt', hc⟩ := HB.out.some (by omega)
     have d1 : wr.cell? ⟨b, off + k * 2, none⟩ = some (.int .i64 x) := cell_later hb2 HC.out.1
     have d2 : wr.cell? ⟨b, off + k * 2 + 1, none⟩ = some (.int .i64 y) := cell_later hb2 HC.out.2
     have e1 := cell_later hb2 (hc j x' y' hp).1
     have e2 := cell_later hb2 (hc j x' y' hp).2
     obtain ⟨r1, r2, r3, r4⟩ := okLine_true (KB.out _ hmem)
     simp only [] at r1 r2 r3 r4
     have HIN : Hid ((x + x', y + y') ∈ eachL la lb) := each_in HMA.out hmem
     have hts : lb.take (j + 1) = lb.take j ++ [(x', y')] := by rw [List.take_add_one, hp]; rfl
     have HSJ : Hid (T0 ++ rowL (x, y) (lb.take (j + 1)) = (T0 ++ rowL (x, y) (lb.take j)) ++ [(x + x', y + y')]) := by show _ = _; rw [hts, rowL_snoc, List.append_assoc]
     have hT1 : (T0 ++ rowL (x, y) (lb.take j)).length ≤ 42 := by simp [rowL]; omega
     generalize T0 ++ rowL (x, y) (lb.take j) = T1 at *
     obtain ⟨a3, n3, k3, rfl⟩ : ∃ a3 n3 k3, u6 = .slice a3 n3 k3 := by obtain ⟨a, c, e, _⟩ := hown2.open; exact ⟨_, _, _, e⟩
     have HOWr : Hid (wr.ownsRow w.heap.size 133 2 (.slice a3 n3 k3) T1.length (cellsL T1)) := hown2
     have HOK1 : Hid (okAll T1) := hok2
     clear hc hp hmem hts hown2 hb2 hok2
     go_wp2_with fail
     go_region_held (fun w' => w'.cell? ⟨b, off + k * 2, none⟩ = some (.int .i64 x) ∧ w'.cell? ⟨b, off + k * 2 + 1, none⟩ = some (.int .i64 y) ∧ w'.cell? ⟨b', off' + j * 2, none⟩ = some (.int .i64 x') ∧ w'.cell? ⟨b', off' + j * 2 + 1, none⟩ = some (.int .i64 y')) (go_keep) (fail)
     go_wp2_with fail
     have HW1 : Hid (Below wr.heap.size wr (wr.alloc (.cells #[.int .i64 (x + x'), .int .i64 (y + y')] 133)).drew) := ((Below.refl _ _).alloc (Nat.le_refl _) _).drew
     have HB3 : Hid (Below w.heap.size w (wr.alloc (.cells #[.int .i64 (x + x'), .int .i64 (y + y')] 133)).drew) := HB2.out.trans (HW1.out.mono HB2.out.size)
     have HO3 : Hid (OwnL (wr.alloc (.cells #[.int .i64 (x + x'), .int .i64 (y + y')] 133)).drew w.heap.size (.slice a3 n3 k3) T1) := OwnL.later (ls := T1) HOWr.out HW1.out
     have g1 : (wr.alloc (.cells #[.int .i64 (x + x'), .int .i64 (y + y')] 133)).drew.cell? ⟨wr.heap.size, 0, none⟩ = some (.int .i64 (x + x')) := by simp
     have g2 : (wr.alloc (.cells #[.int .i64 (x + x'), .int .i64 (y + y')] 133)).drew.cell? ⟨wr.heap.size, 1, none⟩ = some (.int .i64 (y + y')) := by simp
     have hlw : wr.heap.size < (wr.alloc (.cells #[.int .i64 (x + x'), .int .i64 (y + y')] 133)).drew.heap.size := by simp
     clear HW1 d1 d2 e1 e2 HOWr HB2
     generalize (wr.alloc (.cells #[.int .i64 (x + x'), .int .i64 (y + y')] 133)).drew = W1 at *
     cases hz : okLine (x + x') (y + y') with
     | false =>
      refine (lineError_no _ _ _ hz).mono ?_
      rintro e w2 ⟨rfl, rfl⟩
      go_wp2_with fail
      go_ret2
      exact ⟨HB3.out.alloc HB3.out.size _, .inl ⟨fun h => (by have := h _ HIN.out; rw [hz] at this; cases this), rfl⟩⟩
     | true =>
      refine (lineError_yes _ _ _ hz).mono ?_
      rintro e w2 ⟨rfl, rfl⟩
      have HNW : Hid (∀ j u, [Value.int .i64 (x + x'), .int .i64 (y + y')][j]? = some u → ((W1.alloc (.cells #[.int .i64 (x + x'), .int .i64 (y + y')] 133)).alloc (.cells #[.int .i64 (x + x'), .int .i64 (y + y')] 133)).cell? ((⟨W1.heap.size + 1, 0, none⟩ : Addr).add j) = some u) := by
       have := news_newT (W1.alloc (.cells #[.int .i64 (x + x'), .int .i64 (y + y')] 133)) (x + x') (y + y')
       rw [show (W1.alloc (.cells #[.int .i64 (x + x'), .int .i64 (y + y')] 133)).heap.size = W1.heap.size + 1 by simp] at this
       exact this
      have HZ : Hid (okLine (x + x') (y + y') = true) := hz
      have HOWr : Hid (W1.ownsRow w.heap.size 133 2 (.slice a3 n3 k3) T1.length (cellsL T1)) := HO3.out
      clear hz
      go_wp2_with (at_builtin; refine wpList_append_own_at _ rfl _ _ 38 rfl w.heap.size 133 i0 (.agg #[.int .i64 0, .int .i64 0]) 2 16 Tryz.underlying38 hi hz0 hz1 hz2 rfl (by decide) (.slice a3 n3 k3) T1.length (cellsL T1) rfl ((HOWr.out.alloc _).alloc _) ⟨W1.heap.size + 1, 0, none⟩ 1 1 [.int .i64 (x + x'), .int .i64 (y + y')] rfl rfl HNW.out (ints_oneT _ _) (by unfold maxLen; omega) (by omega) (Nat.le_trans HB3.out.size (by simp; omega)) ?_; intro v3 w3 hown3 hgrow3 _ hat3)
      have HB5 : Hid (Below w.heap.size w w3) := OwnL.grownT (ls := T1) ((HB3.out.alloc HB3.out.size _).alloc (by have := HB3.out.size; simp; omega) _) ((HOWr.out.alloc _).alloc _) hgrow3
      have HO5 : Hid (OwnL w3 w.heap.size v3 (T1 ++ [(x + x', y + y')])) := OwnL.snoc hown3
      obtain ⟨a4, n4, k4, rfl⟩ : ∃ a4 n4 k4, v3 = .slice a4 n4 k4 := by obtain ⟨a, c, e, _⟩ := HO5.out.open; exact ⟨_, _, _, e⟩
      clear hown3 hgrow3 hat3
      go_wp2_with fail
      go_roundg (gk - 1)
      case measure => omega
      case rel => exact ⟨j + 1, by omega, by go_num, by rw [HSJ.out]; exact HO5.out, by rw [HSJ.out]; exact okAll_snoc HOK1.out HZ.out, HB5.out⟩
    ·
     have hj' : j = lb.length := by omega
     subst hj'
     rw [List.take_length] at hown2 hok2
     have HO3 : Hid (OwnL wr w.heap.size u6 (T0 ++ rowL (x, y) lb) ∧ okAll (T0 ++ rowL (x, y) lb)) := ⟨hown2, hok2⟩
     obtain ⟨a3, n3, k3, rfl⟩ : ∃ a3 n3 k3, u6 = .slice a3 n3 k3 := by obtain ⟨a, c, e, _⟩ := hown2.open; exact ⟨_, _, _, e⟩
     clear hown2 hb2 hok2
     go_wp2_with fail
     go_roundg (GK - 1)
     case measure => omega
     case rel => exact ⟨k + 1, by omega, by go_num, by rw [HS.out]; exact HO3.out.1, by rw [HS.out]; exact HO3.out.2, HB2.out⟩
  ·
   have hk' : k = la.length := by omega
   subst hk'
   rw [List.take_length] at hown hokT
   obtain ⟨hn0, -, -, hL0⟩ := OwnL.lies hown
   have HL0 : Hid (Lies wr a0 (eachL la lb) ∧ okAll (eachL la lb) ∧ (eachL la lb).length ≤ 500 ∧ n0 = (eachL la lb).length) := ⟨hL0, hokT, by rw [eachL_length]; exact Nat.le_trans (Nat.mul_le_mul n1 n2) (by decide), hn0⟩
   clear hown hbr hokT hn0 hL0
   go_wp2_with fail
   rw [HL0.out.2.2.2]
   refine (tidyOf_ok a0 k0 (eachL la lb) _ HL0.out.1 HL0.out.2.2.1 HL0.out.2.1).mono ?_
   rintro e w2 ⟨v, R, rfl, hkept, ho, hb2⟩
   have HB2 : Hid (Below w.heap.size w w2) := HBR.out.trans (hb2.mono HBR.out.size)
   have HO2 : Hid (OwnL w2 w.heap.size v R) := ownsRow_mono ho HBR.out.size
   have HK : Hid (KeptTo (eachL la lb) (eachL la lb).length R) := hkept
   have hRl : R.length ≤ 500 := Nat.le_trans hkept.len HL0.out.2.2.1
   obtain ⟨a4, k4, rfl, -, -, -⟩ := OwnL.open ho
   clear hkept ho hb2
   by_cases h6 : 6 < R.length
   ·
    go_wp2_with fail
    go_ret2
    exact ⟨HB2.out, .inr ⟨HL0.out.2.1, R, HK.out, .inl ⟨h6, rfl⟩⟩⟩
   ·
    go_wp2_with fail
    go_ret2
    exact ⟨HB2.out, .inr ⟨HL0.out.2.1, R, HK.out, .inr ⟨by omega, _, rfl, HO2.out⟩⟩⟩
end Go.Proofs.YtibhkijaafdkoaaGreatDoor

namespace Go.Proofs.YtibhkijaafdkoaaGreatDoor
open Go.RowKit
theorem sum_err1 {R : TypeId → Value → World → Prop} (a : Option Addr) (n cap : Nat) (v2 : Value) (w : World)
  (hc : Calls Tryz.prog 73 #[.slice a n cap] w fun e w' => ∃ ty p, e = .returned (.iface ty p) ∧ R ty p w') :
  Calls Tryz.prog 68 #[.slice a n cap, v2] w fun e w' => ∃ ty p, e = .returned (.tuple #[.slice none 0 0, .iface ty p]) ∧ R ty p w' := by
 have HC : Hid (Calls Tryz.prog 73 #[.slice a n cap] w fun e w' => ∃ ty p, e = .returned (.iface ty p) ∧ R ty p w') := hc
 clear hc
 go_enter Tryz.func68, Tryz.ntmps68
 go_wp2_with fail
 refine HC.out.mono ?_
 rintro e w1 ⟨ty, p, rfl, hR⟩
 have HR : Hid (R ty p w1) := hR
 clear hR
 go_wp2_with fail
 go_ret2
 exact ⟨ty, p, rfl, HR.out⟩
theorem eachL_pos {la lb : List (Int × Int)} (h1 : 1 ≤ la.length) (h2 : 1 ≤ lb.length) : 1 ≤ (eachL la lb).length := by
 rw [eachL_length]; exact Nat.mul_pos h1 h2
theorem eachL_most {la lb : List (Int × Int)} (h1 : la.length ≤ 6) (h2 : lb.length ≤ 6) : (eachL la lb).length ≤ 36 := by
 rw [eachL_length]; exact Nat.le_trans (Nat.mul_le_mul h1 h2) (by decide)
set_option maxHeartbeats 1000000 in
theorem sum_bound (a1 a2 : Option Addr) (cap1 cap2 : Nat) (la lb : List (Int × Int)) (w : World) (aB : Addr) (hB : w.cell? ⟨3, 0, none⟩ = some (.iface 271 (.pointer (some aB)))) (h1 : Lies w a1 la) (h2 : Lies w a2 lb) (k1 : okCurve la) (k2 : okCurve lb)
  (j : Nat) (hj : j < (eachL la lb).length) (hok : ∀ i x y, i < j → (eachL la lb)[i]? = some (x, y) → okLine x y = true) (hbad : ∀ x y, (eachL la lb)[j]? = some (x, y) → okLine x y = false) :
  Calls Tryz.prog 68 #[.slice a1 la.length cap1, .slice a2 lb.length cap2] w fun e w' => e = .returned (.tuple #[.slice none 0 0, .iface 271 (.pointer (some aB))]) ∧ Below w.heap.size w w' := by
 have HL : Hid (Lies w a1 la ∧ okCurve la) := ⟨h1, k1⟩
 have HM : Hid (Lies w a2 lb ∧ okCurve lb) := ⟨h2, k2⟩
 have HK : Hid (w.cell? ⟨3, 0, none⟩ = some (.iface 271 (.pointer (some aB)))) := hB
 have HN : Hid (∀ i x y, i < j → (eachL la lb)[i]? = some (x, y) → okLine x y = true) := hok
 have HX : Hid (∀ x y, (eachL la lb)[j]? = some (x, y) → okLine x y = false) := hbad
 have hmost := eachL_most k1.2.1 k2.2.1
 clear h1 h2 k1 k2 hB hok hbad
 go_enter Tryz.func68, Tryz.ntmps68
 go_wp2_with fail
 refine (check_ok _ _ la _ HL.out.1 HL.out.2).mono ?_
 rintro e w0 ⟨rfl, hb⟩
 have HB0 : Hid (Below w.heap.size w w0) := hb
 clear hb
 go_wp2_with fail
 refine (check_ok _ _ lb _ (HM.out.1.below HB0.out) HM.out.2).mono ?_
 rintro e w1 ⟨rfl, hb⟩
 have HB1 : Hid (Below w.heap.size w w1) := HB0.out.trans (hb.mono HB0.out.size)
 clear hb
 go_wp2_with fail
 refine (each_ok _ _ _ _ la lb _ (HL.out.1.below HB1.out) (HM.out.1.below HB1.out) HL.out.2.2.1 HM.out.2.2.1 HL.out.2.2.2 HM.out.2.2.2).mono ?_
 rintro e w2 ⟨v, rfl, ho, hb⟩
 have HB2 : Hid (Below w.heap.size w w2) := HB1.out.trans (hb.mono HB1.out.size)
 obtain ⟨a0, n0, k0, rfl⟩ : ∃ a0 n0 k0, v = .slice a0 n0 k0 := by obtain ⟨a, c, e, _⟩ := OwnL.open ho; exact ⟨_, _, _, e⟩
 obtain ⟨rfl, -, -, hL2⟩ := OwnL.lies ho
 generalize eachL la lb = P at *
 obtain ⟨b, off, rfl, hlt, hc⟩ := hL2.some (by omega)
 clear ho hb hL2
 go_wp2_with fail
 go_loopw [27] (fun i wr => ∃ k : Nat, k ≤ j ∧ i = .int .i64 k ∧ Below w2.heap.size w2 wr) (fun i _ => P.length - (intOf i).toNat)
 case atStart => exact ⟨0, Nat.zero_le _, rfl, Below.refl _ _⟩
 case round =>
  obtain ⟨k, hk, rfl, hb⟩ := hrel
  have hs := hb.size
  have hkn : k < P.length := by omega
  obtain ⟨⟨x, y⟩, hp, hm⟩ := get_some P k hkn
  have hc1 : wr.cell? ⟨b, off + k * 2, none⟩ = some (.int .i64 x) := cell_later hb (hc k x y hp).1
  have hc2 : wr.cell? ⟨b, off + k * 2 + 1, none⟩ = some (.int .i64 y) := cell_later hb (hc k x y hp).2
  have HB3 : Hid (Below w.heap.size w wr) := HB2.out.trans (hb.mono HB2.out.size)
  by_cases hkj : k < j
  ·
   have Hxy := (show Hid (okLine x y = true) from HN.out k x y hkj hp)
   clear hc hp hm
   go_wp2_with (go_at_call 112; refine (isLine_yes x y _ Hxy.out).mono ?_; rintro e w' ⟨rfl, rfl⟩)
   go_roundw
   case rel => exact ⟨k + 1, by omega, by go_num, (hb.alloc hs _).alloc (by simp; omega) _⟩
   case measure => simp [intOf]; omega
  ·
   obtain rfl : k = j := by omega
   have Hxy := (show Hid (okLine x y = false) from HX.out x y hp)
   have HB4 : Below w.heap.size w ((wr.alloc (.cells #[.int .i64 x, .int .i64 y] 133)).alloc (.cells #[.int .i64 x, .int .i64 y] 133)) := (HB3.out.alloc HB3.out.size _).alloc (by have := HB3.out.size; simp; omega) _
   have hB4 : ((wr.alloc (.cells #[.int .i64 x, .int .i64 y] 133)).alloc (.cells #[.int .i64 x, .int .i64 y] 133)).cell? ⟨3, 0, none⟩ = some (.iface 271 (.pointer (some aB))) := cell_later HB4 HK.out
   have HB5 : Hid (Below w.heap.size w ((wr.alloc (.cells #[.int .i64 x, .int .i64 y] 133)).alloc (.cells #[.int .i64 x, .int .i64 y] 133))) := HB4
   clear hc hp hm HB4
   go_wp2_with (go_at_call 112; refine (isLine_no x y _ Hxy.out).mono ?_; rintro e w' ⟨rfl, rfl⟩)
   go_quiet (fail)
   go_wp2_with fail
   go_ret2
   exact ⟨rfl, below_drewN HB5.out _⟩
set_option maxHeartbeats 1000000 in
theorem sum_ok (a1 a2 : Option Addr) (cap1 cap2 : Nat) (la lb : List (Int × Int)) (w : World) (aS : Addr) (hS : w.cell? ⟨4, 0, none⟩ = some (.iface 271 (.pointer (some aS)))) (h1 : Lies w a1 la) (h2 : Lies w a2 lb) (k1 : okCurve la) (k2 : okCurve lb) (hok : okAll (eachL la lb)) :
  Calls Tryz.prog 68 #[.slice a1 la.length cap1, .slice a2 lb.length cap2] w fun e w' => ∃ ls', ls'.Perm (eachL la lb) ∧ SortedL ls' ∧ Below w.heap.size w w' ∧
   ((6 < (lowT [] ls').length ∧ e = .returned (.tuple #[.slice none 0 0, .iface 271 (.pointer (some aS))])) ∨
    ((lowT [] ls').length ≤ 6 ∧ ∃ v, e = .returned (.tuple #[v, .nilIface]) ∧ OwnL w' w.heap.size v (lowT [] ls').reverse)) := by
 have HL : Hid (Lies w a1 la ∧ okCurve la) := ⟨h1, k1⟩
 have HM : Hid (Lies w a2 lb ∧ okCurve lb) := ⟨h2, k2⟩
 have HK : Hid (w.cell? ⟨4, 0, none⟩ = some (.iface 271 (.pointer (some aS)))) := hS
 have HN : Hid (okAll (eachL la lb)) := hok
 have hmost := eachL_most k1.2.1 k2.2.1
 have hpos := eachL_pos k1.1 k2.1
 clear h1 h2 k1 k2 hS hok
 go_enter Tryz.func68, Tryz.ntmps68
 go_wp2_with fail
 refine (check_ok _ _ la _ HL.out.1 HL.out.2).mono ?_
 rintro e w0 ⟨rfl, hb⟩
 have HB0 : Hid (Below w.heap.size w w0) := hb
 clear hb
 go_wp2_with fail
 refine (check_ok _ _ lb _ (HM.out.1.below HB0.out) HM.out.2).mono ?_
 rintro e w1 ⟨rfl, hb⟩
 have HB1 : Hid (Below w.heap.size w w1) := HB0.out.trans (hb.mono HB0.out.size)
 clear hb
 go_wp2_with fail
 refine (each_ok _ _ _ _ la lb _ (HL.out.1.below HB1.out) (HM.out.1.below HB1.out) HL.out.2.2.1 HM.out.2.2.1 HL.out.2.2.2 HM.out.2.2.2).mono ?_
 rintro e w2 ⟨v, rfl, ho, hb⟩
 have HB2 : Hid (Below w.heap.size w w2) := HB1.out.trans (hb.mono HB1.out.size)
 obtain ⟨a0, n0, k0, rfl⟩ : ∃ a0 n0 k0, v = .slice a0 n0 k0 := by obtain ⟨a, c, e, _⟩ := OwnL.open ho; exact ⟨_, _, _, e⟩
 obtain ⟨rfl, -, -, hL2⟩ := OwnL.lies ho
 have HPE : Hid (∃ P, eachL la lb = P) := ⟨_, rfl⟩
 obtain ⟨P, hPE⟩ := HPE.out
 have HP : Hid (eachL la lb = P) := hPE
 rw [hPE] at hL2 hmost hpos HN ⊢
 clear hPE
 obtain ⟨b, off, rfl, hlt, hc⟩ := hL2.some (by omega)
 have HL2 : Hid (Lies w2 (some ⟨b, off, none⟩) P) := hL2
 clear ho hb hL2
 go_wp2_with fail
 go_loopw [27] (fun i wr => ∃ k : Nat, k ≤ P.length ∧ i = .int .i64 k ∧ Below w2.heap.size w2 wr) (fun i _ => P.length - (intOf i).toNat)
 case atStart => exact ⟨0, Nat.zero_le _, rfl, Below.refl _ _⟩
 case round =>
  obtain ⟨k, hk, rfl, hb⟩ := hrel
  have hs := hb.size
  by_cases hkn : k < P.length
  ·
   obtain ⟨⟨x, y⟩, hp, hm⟩ := get_some P k hkn
   have hc1 : wr.cell? ⟨b, off + k * 2, none⟩ = some (.int .i64 x) := cell_later hb (hc k x y hp).1
   have hc2 : wr.cell? ⟨b, off + k * 2 + 1, none⟩ = some (.int .i64 y) := cell_later hb (hc k x y hp).2
   have Hxy := (show Hid (okLine x y = true) from HN.out _ hm)
   clear hc hp hm
   go_wp2_with (go_at_call 112; refine (isLine_yes x y _ Hxy.out).mono ?_; rintro e w' ⟨rfl, rfl⟩)
   go_roundw
   case rel => exact ⟨k + 1, by omega, by go_num, (hb.alloc hs _).alloc (by simp; omega) _⟩
   case measure => simp [intOf]; omega
  ·
   have HB3 : Hid (Below w.heap.size w wr) := HB2.out.trans (hb.mono HB2.out.size)
   have HL3 : Hid (Lies wr (some ⟨b, off, none⟩) P) := HL2.out.below hb
   clear hb hc
   go_wp2_with fail
   refine (lowest_ok _ k0 P _ HL3.out hpos (Nat.le_trans hmost (by decide)) HN.out).mono ?_
   rintro e w4 ⟨v, ls', rfl, hp, hso, ho, hb2⟩
   obtain ⟨a4, n4, k4, rfl⟩ : ∃ a0 n0 k0, v = .slice a0 n0 k0 := by obtain ⟨a, c, e, _⟩ := OwnL.open ho; exact ⟨_, _, _, e⟩
   obtain ⟨hn4, -, -, -⟩ := OwnL.lies ho
   rw [List.length_reverse] at hn4
   have hl4 : n4 ≤ 36 := by have := lowT_len ls' []; rw [hp.length_eq] at this; simp at this; omega
   have HB4 : Hid (Below w.heap.size w w4) := HB3.out.trans (hb2.mono HB3.out.size)
   have HR : Hid (ls'.Perm P ∧ SortedL ls' ∧ OwnL w4 w.heap.size (.slice a4 n4 k4) (lowT [] ls').reverse) := ⟨hp, hso, ownsRow_mono ho HB3.out.size⟩
   have HN4 : Hid (n4 = (lowT [] ls').length) := hn4
   have hK4 : w4.cell? ⟨4, 0, none⟩ = some (.iface 271 (.pointer (some aS))) := cell_later HB4.out HK.out
   clear hp hso ho hb2 hn4
   by_cases h6 : 6 < n4
   ·
    go_wp2_with fail
    go_quiet (fail)
    go_wp2_with fail
    go_ret2
    exact ⟨ls', HP.out ▸ HR.out.1, HR.out.2.1, below_drewN HB4.out _, .inl ⟨HN4.out ▸ h6, rfl⟩⟩
   ·
    go_wp2_with fail
    go_ret2
    exact ⟨ls', HP.out ▸ HR.out.1, HR.out.2.1, HB4.out, .inr ⟨by have := HN4.out; omega, _, rfl, HR.out.2.2⟩⟩
end Go.Proofs.YtibhkijaafdkoaaGreatDoor

namespace Go.Proofs.YtibhkijaafdkoaaGreatDoor
def StackOk (T : List (Int × Int)) : Prop := T.Pairwise fun a b => a.2 < b.2 ∧ b.1 < a.1
def Behind (x : Int × Int) (T : List (Int × Int)) : Prop := ∀ s, s ∈ T → x.2 < s.2 ∨ (x.2 = s.2 ∧ x.1 ≤ s.1)
theorem popT_suffix (x : Int × Int) (T : List (Int × Int)) : ∃ pre, T = pre ++ popT x T := by
 induction T with
 | nil => exact ⟨[], rfl⟩
 | cons t r ih =>
  unfold popT
  split
  · obtain ⟨pre, h⟩ := ih; exact ⟨t :: pre, by rw [List.cons_append, ← h]⟩
  · exact ⟨[], rfl⟩
theorem popT_top (x : Int × Int) (T : List (Int × Int)) : popT x T = [] ∨ ∃ t r, popT x T = t :: r ∧ coveredT x (t :: r) = false := by
 induction T with
 | nil => exact .inl rfl
 | cons t r ih =>
  unfold popT
  split
  · exact ih
  · next h => exact .inr ⟨t, r, rfl, by simpa using h⟩
theorem covered_first {x t : Int × Int} {r : List (Int × Int)} (h : coveredT x (t :: r) = false) : t.1 < x.1 := by
 match r, h with
 | [], h => have := of_decide_eq_false h; omega
 | u :: r, h =>
  have h' : (decide (x.1 ≤ t.1) || decide ((x.1 - t.1) * (u.2 - t.2) ≤ (t.1 - u.1) * (t.2 - x.2))) = false := h
  rw [Bool.or_eq_false_iff] at h'
  have := of_decide_eq_false h'.1
  omega
theorem stack_push {x : Int × Int} {T : List (Int × Int)} (hT : StackOk T) (hx : Behind x T) : StackOk (x :: popT x T) := by
 obtain ⟨pre, hp⟩ := popT_suffix x T
 have hs : StackOk (popT x T) := by have h := hT; unfold StackOk at h; rw [hp, List.pairwise_append] at h; exact h.2.1
 refine List.pairwise_cons.2 ⟨fun s hs' => ?_, hs⟩
 rcases popT_top x T with h | ⟨t, r, h, hc⟩
 · rw [h] at hs'; cases hs'
 ·
  have ht := covered_first hc
  rw [h] at hs hs'
  have hxt := hx t (popT_sub x T t (by rw [h]; exact List.mem_cons_self ..))
  have hpw := List.pairwise_cons.1 hs
  rcases List.mem_cons.1 hs' with rfl | hr
  · omega
  ·
   have := hpw.1 s hr
   omega
theorem stack_low (l : List (Int × Int)) : ∀ T, StackOk T → (∀ x, x ∈ l → Behind x T) → l.Pairwise (fun a b => b.2 < a.2 ∨ (b.2 = a.2 ∧ b.1 ≤ a.1)) → StackOk (lowT T l) := by
 induction l with
 | nil => intro T h _ _; exact h
 | cons x r ih =>
  intro T hT hb hs
  have hpc := List.pairwise_cons.1 hs
  refine ih _ (stack_push hT (hb x (List.mem_cons_self ..))) (fun y hy s hs' => ?_) hpc.2
  rcases List.mem_cons.1 hs' with rfl | hs'
  · exact hpc.1 y hy
  · exact hb y (List.mem_cons_of_mem _ hy) s (popT_sub x T s hs')
theorem sorted_pairwise {l : List (Int × Int)} (h : SortedL l) : l.Pairwise (fun a b => b.2 < a.2 ∨ (b.2 = a.2 ∧ b.1 ≤ a.1)) := by
 rw [List.pairwise_iff_getElem]
 intro i j hi hj hij
 exact h i j _ _ hij (by simp [hi]) (by simp [hj])
theorem stack_of_sorted {l : List (Int × Int)} (h : SortedL l) : StackOk (lowT [] l) :=
 stack_low l [] List.Pairwise.nil (fun _ _ s hs => by cases hs) (sorted_pairwise h)
def high (t : Int) (p : Int × Int) : Int := 1000 * p.1 + p.2 * t
theorem lineAt_high (t : Int) (p : Int × Int) : lineAt t p.1 p.2 = high t p / 1000 := by unfold lineAt high; omega
theorem covered_low {x t u : Int × Int} {n : Int} (hxt : x.2 ≤ t.2) (htu : t.2 < u.2) (hc : (x.1 - t.1) * (u.2 - t.2) ≤ (t.1 - u.1) * (t.2 - x.2)) : high n x ≤ high n t ∨ high n u ≤ high n t := by
 unfold high
 by_cases h : 1000 * x.1 + x.2 * n ≤ 1000 * t.1 + t.2 * n
 · exact .inl h
 ·
  refine .inr ?_
  have e1 : (t.2 - x.2) * n = t.2 * n - x.2 * n := Int.sub_mul ..
  have e2 : (u.2 - t.2) * n = u.2 * n - t.2 * n := Int.sub_mul ..
  have h1 : (t.2 - x.2) * n < 1000 * (x.1 - t.1) := by omega
  have h2 : (u.2 - t.2) * ((t.2 - x.2) * n) < (u.2 - t.2) * (1000 * (x.1 - t.1)) := Int.mul_lt_mul_of_pos_left h1 (by omega)
  have e3 : (u.2 - t.2) * (1000 * (x.1 - t.1)) = 1000 * ((x.1 - t.1) * (u.2 - t.2)) := by rw [Int.mul_left_comm, Int.mul_comm (u.2 - t.2)]
  have e4 : (u.2 - t.2) * ((t.2 - x.2) * n) = (t.2 - x.2) * ((u.2 - t.2) * n) := by rw [Int.mul_left_comm]
  have h3 : (t.2 - x.2) * ((u.2 - t.2) * n) < (t.2 - x.2) * (1000 * (t.1 - u.1)) := by
   rw [← e4]
   have e5 : (t.2 - x.2) * (1000 * (t.1 - u.1)) = 1000 * ((t.1 - u.1) * (t.2 - x.2)) := by rw [Int.mul_left_comm, Int.mul_comm (t.2 - x.2)]
   omega
  have h4 : (u.2 - t.2) * n < 1000 * (t.1 - u.1) := by
   rcases (show (u.2 - t.2) * n < 1000 * (t.1 - u.1) ∨ 1000 * (t.1 - u.1) ≤ (u.2 - t.2) * n by omega) with h | h
   · exact h
   ·
    have := Int.mul_le_mul_of_nonneg_left h (show 0 ≤ t.2 - x.2 by omega)
    omega
  omega
theorem low_line {x t : Int × Int} {n : Int} (hn : 0 ≤ n) (h1 : x.1 ≤ t.1) (h2 : x.2 ≤ t.2) : high n x ≤ high n t := by
 unfold high
 have := Int.mul_le_mul_of_nonneg_right h2 hn
 omega
theorem pop_dom {x : Int × Int} {n : Int} (hn : 0 ≤ n) (T : List (Int × Int)) : StackOk T → Behind x T → ∀ s, s ∈ T → ∃ s', s' ∈ x :: popT x T ∧ high n s' ≤ high n s := by
 induction T with
 | nil => intro _ _ s hs; cases hs
 | cons t r ih =>
  intro hT hx s hs
  have hpc := List.pairwise_cons.1 hT
  have hx' : Behind x r := fun y hy => hx y (List.mem_cons_of_mem _ hy)
  unfold popT
  split
  ·
   next hc =>
   rcases List.mem_cons.1 hs with rfl | hs
   ·
    have hxs := hx s (List.mem_cons_self ..)
    match r, hc, ih, hpc, hx' with
    | [], hc, _, _, _ =>
     have := of_decide_eq_true hc
     exact ⟨x, List.mem_cons_self .., low_line hn this (by omega)⟩
    | u :: r, hc, ih, hpc, hx' =>
     have hc' : (decide (x.1 ≤ s.1) || decide ((x.1 - s.1) * (u.2 - s.2) ≤ (s.1 - u.1) * (s.2 - x.2))) = true := hc
     rw [Bool.or_eq_true] at hc'
     have hsu := hpc.1 u (List.mem_cons_self ..)
     rcases hc' with h | h
     · exact ⟨x, List.mem_cons_self .., low_line hn (of_decide_eq_true h) (by omega)⟩
     ·
      rcases covered_low (n := n) (by omega) hsu.1 (of_decide_eq_true h) with h | h
      · exact ⟨x, List.mem_cons_self .., h⟩
      ·
       obtain ⟨s', h1, h2⟩ := ih hpc.2 hx' u (List.mem_cons_self ..)
       exact ⟨s', h1, Int.le_trans h2 h⟩
   · exact ih hpc.2 hx' s hs
  · exact ⟨s, List.mem_cons_of_mem _ hs, Int.le_refl _⟩
theorem low_dom {n : Int} (hn : 0 ≤ n) (l : List (Int × Int)) : ∀ T, StackOk T → (∀ x, x ∈ l → Behind x T) → l.Pairwise (fun a b => b.2 < a.2 ∨ (b.2 = a.2 ∧ b.1 ≤ a.1)) → ∀ s, s ∈ T ∨ s ∈ l → ∃ s', s' ∈ lowT T l ∧ high n s' ≤ high n s := by
 induction l with
 | nil => intro T _ _ _ s hs; rcases hs with hs | hs; exact ⟨s, hs, Int.le_refl _⟩; cases hs
 | cons x r ih =>
  intro T hT hb hs s hsm
  have hpc := List.pairwise_cons.1 hs
  have hx := hb x (List.mem_cons_self ..)
  have h := ih (x :: popT x T) (stack_push hT hx) (fun y hy s hs' => by
   rcases List.mem_cons.1 hs' with rfl | hs'
   · exact hpc.1 y hy
   · exact hb y (List.mem_cons_of_mem _ hy) s (popT_sub x T s hs')) hpc.2
  rcases hsm with hsm | hsm
  ·
   obtain ⟨s1, h1, h2⟩ := pop_dom hn T hT hx s hsm
   obtain ⟨s2, h3, h4⟩ := h s1 (.inl h1)
   exact ⟨s2, h3, Int.le_trans h4 h2⟩
  ·
   rcases List.mem_cons.1 hsm with rfl | hsm
   · exact h s (.inl (List.mem_cons_self ..))
   · exact h s (.inr hsm)
theorem dom_sorted {n : Int} (hn : 0 ≤ n) {l : List (Int × Int)} (h : SortedL l) (s : Int × Int) (hs : s ∈ l) : ∃ s', s' ∈ lowT [] l ∧ high n s' ≤ high n s :=
 low_dom hn l [] List.Pairwise.nil (fun _ _ s hs => by cases hs) (sorted_pairwise h) s (.inr hs)
theorem low_nonempty {l : List (Int × Int)} (h : SortedL l) (h1 : 1 ≤ l.length) : 1 ≤ (lowT [] l).length := by
 cases l with
 | nil => simp at h1
 | cons s r =>
  obtain ⟨s', hs', _⟩ := dom_sorted (n := 0) (Int.le_refl _) h s (List.mem_cons_self ..)
  exact List.length_pos_of_mem hs'
theorem curveAt_low {n : Int} (hn : 0 ≤ n) {l ls : List (Int × Int)} (hp : l.Perm ls) (h : SortedL l) (h1 : 1 ≤ ls.length) : curveAt n (lowT [] l).reverse = curveAt n ls := by
 have hl1 : 1 ≤ l.length := by rw [hp.length_eq]; exact h1
 apply Int.le_antisymm
 ·
  obtain ⟨p, hpm, he⟩ := curveAt_is n ls h1
  obtain ⟨s', hs', hh⟩ := dom_sorted hn h p (hp.mem_iff.2 hpm)
  have := curveAt_le n (lowT [] l).reverse s' (List.mem_reverse.2 hs')
  rw [he]
  rw [lineAt_high] at this ⊢
  omega
 ·
  obtain ⟨p, hpm, he⟩ := curveAt_is n (lowT [] l).reverse (by rw [List.length_reverse]; exact low_nonempty h hl1)
  rw [he]
  have hpl : p ∈ l := by
   rcases lowT_sub l [] p (List.mem_reverse.1 hpm) with h | h
   · cases h
   · exact h
  exact curveAt_le n ls p (hp.mem_iff.1 hpl)
theorem eachL_mem {la lb : List (Int × Int)} {p : Int × Int} : p ∈ eachL la lb ↔ ∃ x y, x ∈ la ∧ y ∈ lb ∧ p = (x.1 + y.1, x.2 + y.2) := by
 simp only [eachL, rowL, List.mem_flatMap, List.mem_map]
 constructor
 · rintro ⟨x, hx, y, hy, rfl⟩; exact ⟨x, y, hx, hy, rfl⟩
 · rintro ⟨x, y, hx, hy, rfl⟩; exact ⟨x, hx, y, hy, rfl⟩
theorem curveAt_each {n : Int} {la lb : List (Int × Int)} (h1 : 1 ≤ la.length) (h2 : 1 ≤ lb.length) : curveAt n la + curveAt n lb ≤ curveAt n (eachL la lb) ∧ curveAt n (eachL la lb) ≤ curveAt n la + curveAt n lb + 1 := by
 constructor
 ·
  obtain ⟨p, hp, he⟩ := curveAt_is n (eachL la lb) (eachL_pos h1 h2)
  obtain ⟨x, y, hx, hy, rfl⟩ := eachL_mem.1 hp
  have a1 := curveAt_le n la x hx
  have a2 := curveAt_le n lb y hy
  rw [he]
  unfold lineAt at *
  simp only [Int.add_mul]
  omega
 ·
  obtain ⟨x, hx, e1⟩ := curveAt_is n la h1
  obtain ⟨y, hy, e2⟩ := curveAt_is n lb h2
  have := curveAt_le n (eachL la lb) _ (eachL_mem.2 ⟨x, y, hx, hy, rfl⟩)
  rw [e1, e2]
  unfold lineAt at *
  simp only [Int.add_mul] at this
  omega
end Go.Proofs.YtibhkijaafdkoaaGreatDoor
