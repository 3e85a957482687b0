/- CurveRises: the way on which the lines are no curve. -/
import Derived.Test.YtcldgpbimaoliaaDoorRises2
namespace Go.Proofs.YtcldgpbimaoliaaDoor
open Go.RowKit

theorem at_bad_own (v : Value) (ls : List (Int × Int)) (t : Int) (w0 w : World) (B : Nat) (a : Option Addr) (n cap : Nat) (aB aS : Addr) (he : Errs2 w0 aB aS) (hB : Below w0.heap.size w0 w) (ho : OwnL w B (.slice a n cap) ls) (hk : ¬ okCurve ls) (hv : v = .slice a n cap) :
    Calls Tryd.prog 20 #[v, .int .i64 t] w fun e w' => ∃ ty p, e = .returned (.tuple #[.int .i64 0, .iface ty p]) ∧ Below w.heap.size w w' := by
  subst hv
  obtain ⟨rfl, h1, h2, h3⟩ := ho.lies
  rcases at_any a cap ls t w aB aS (he.below hB) h3 h1 h2 with h | h
  · exact absurd h.1 hk
  · exact h.2
theorem at_any_own (v : Value) (ls : List (Int × Int)) (t : Int) (w0 w : World) (B : Nat) (a : Option Addr) (n cap : Nat) (aB aS : Addr) (he : Errs2 w0 aB aS) (hB : Below w0.heap.size w0 w) (ho : OwnL w B (.slice a n cap) ls) (hv : v = .slice a n cap) :
    Calls Tryd.prog 20 #[v, .int .i64 t] w fun e w' => ∃ m x, e = .returned (.tuple #[.int .i64 m, x]) ∧ Below w.heap.size w w' := by
  subst hv
  obtain ⟨rfl, h1, h2, h3⟩ := ho.lies
  rcases at_any a cap ls t w aB aS (he.below hB) h3 h1 h2 with h | h
  · refine h.2.2.2.mono ?_
    rintro e w' ⟨rfl, hb⟩
    exact ⟨_, _, rfl, hb⟩
  · refine h.2.mono ?_
    rintro e w' ⟨ty, p, rfl, hb⟩
    exact ⟨_, _, rfl, hb⟩

set_option maxRecDepth 100000 in
set_option maxHeartbeats 1000000 in
theorem rises_bad (a : Option Addr) (cap : Nat) (ls : List (Int × Int)) (x y t : Int) (w : World) (hl : Lies w a ls) (hn : ls.length < 6) (hk : ¬ okCurve ls) (aB aS : Addr) (he : Errs2 w aB aS) (ha : a = none → ls = [] ∧ cap = 0) (ht0 : 0 ≤ t) (ht : t ≤ 1099511627774) (ho : okLine x y = true) :
    Calls Tryd.prog 9 #[.slice a ls.length cap, .agg #[.int .i64 x, .int .i64 y], .int .i64 t] w fun e w' => e = .returned (.bool true) ∧ Below w.heap.size w w' := by
  have HO : Hid (okLine x y = true) := ho
  have HL : Hid (Lies (w.alloc (.cells #[.int .i64 x, .int .i64 y] 54)) a ls) := hl.below ((Below.refl _ _).alloc (Nat.le_refl _) _)
  have HE : Hid (Errs2 (w.alloc (.cells #[.int .i64 x, .int .i64 y] 54)) aB aS) := he.below ((Below.refl _ _).alloc (Nat.le_refl _) _)
  have HK : Hid (¬ okCurve ls) := hk
  have HA : Hid (a = none → ls = [] ∧ cap = 0) := ha
  have hn30 : Hid (ls.length ≤ 1000) := by show _ ≤ _; omega
  clear ho hl hk ha he
  go_enter Tryd.func9, Tryd.ntmps9
  go_wp2_with fail
  generalize hw0 : w.alloc (.cells #[.int .i64 x, .int .i64 y] 54) = w0 at *
  have hz0 : w.heap.size + 1 = w0.heap.size := by rw [← hw0]; simp
  have d0 : w0.cell? ⟨w.heap.size, 0, none⟩ = some (.int .i64 x) := by rw [← hw0]; simp
  have d1 : w0.cell? ⟨w.heap.size, 1, none⟩ = some (.int .i64 y) := by rw [← hw0]; simp
  have HD : Hid (w0.cell? ⟨w.heap.size, 0, none⟩ = some (.int .i64 x) ∧ w0.cell? ⟨w.heap.size, 1, none⟩ = some (.int .i64 y)) := ⟨d0, d1⟩
  have HW : Hid (w.alloc (.cells #[.int .i64 x, .int .i64 y] 54) = w0) := hw0
  have HZ : Hid (w.heap.size + 1 = w0.heap.size) := hz0
  clear d0 d1 hw0 hz0
  refine (drawn_any _).mono ?_
  rintro e w1 ⟨rfl, hb⟩
  have HB1 : Hid (Below w0.heap.size w0 w1) := hb
  have c0 : w1.cell? ⟨w.heap.size, 0, none⟩ = some (.int .i64 x) := cell_later hb HD.out.1
  have c1 : w1.cell? ⟨w.heap.size, 1, none⟩ = some (.int .i64 y) := cell_later hb HD.out.2
  clear hb
  go_wp2_with fail
  refine (lineError_yes x y _ HO.out).mono ?_
  rintro e w2 ⟨rfl, hw2⟩
  have HB2 : Hid (Below w0.heap.size w0 w2) := by show Below _ _ _; rw [hw2]; exact HB1.out.alloc HB1.out.size _
  clear hw2 c0 c1
  go_wp2_with fail
  refine (ownLines_any a cap ls _ (HL.out.below HB2.out) hn30.out HA.out).mono ?_
  rintro e w3 ⟨v3, rfl, ho3, hb3⟩
  have HB3 : Hid (Below w0.heap.size w0 w3) := HB2.out.trans (hb3.mono HB2.out.size)
  obtain ⟨a3, cap3, rfl, -, -, -⟩ := ho3.open
  clear hb3
  go_wp2_with fail
  refine (at_bad_own _ ls t w0 _ _ a3 ls.length cap3 aB aS HE.out HB3.out ho3 HK.out rfl).mono ?_
  rintro e w4 ⟨ty4, p4, rfl, hb4⟩
  have HB4 : Hid (Below w0.heap.size w0 w4) := HB3.out.trans (hb4.mono HB3.out.size)
  clear hb4 ho3
  go_wp2_with fail
  refine (ownLines_any a cap ls _ (HL.out.below HB4.out) hn30.out HA.out).mono ?_
  rintro e w5 ⟨v5, rfl, ho5, hb5⟩
  have HB5 : Hid (Below w0.heap.size w0 w5) := HB4.out.trans (hb5.mono HB4.out.size)
  obtain ⟨a5, cap5, rfl, -, -, -⟩ := ho5.open
  clear hb5
  go_wp2_with fail
  refine (at_bad_own _ ls (t + 1) w0 _ _ a5 ls.length cap5 aB aS HE.out HB5.out ho5 HK.out rfl).mono ?_
  rintro e w6 ⟨ty6, p6, rfl, hb6⟩
  have HB6 : Hid (Below w0.heap.size w0 w6) := HB5.out.trans (hb6.mono HB5.out.size)
  clear hb6 ho5
  go_wp2_with fail
  refine (ownLines_any a cap ls _ (HL.out.below HB6.out) hn30.out HA.out).mono ?_
  rintro e w7 ⟨v7, rfl, ho7, hb7⟩
  have HB7 : Hid (Below w0.heap.size w0 w7) := HB6.out.trans (hb7.mono HB6.out.size)
  obtain ⟨a7, cap7, rfl, -, -, -⟩ := ho7.open
  clear hb7
  go_wp2_with fail
  refine (at_bad_own _ ls (t + 2) w0 _ _ a7 ls.length cap7 aB aS HE.out HB7.out ho7 HK.out rfl).mono ?_
  rintro e w8 ⟨ty8, p8, rfl, hb8⟩
  have HB8 : Hid (Below w0.heap.size w0 w8) := HB7.out.trans (hb8.mono HB7.out.size)
  clear hb8 ho7
  have c80 : w8.cell? ⟨w.heap.size, 0, none⟩ = some (.int .i64 x) := cell_later HB8.out HD.out.1
  have c81 : w8.cell? ⟨w.heap.size, 1, none⟩ = some (.int .i64 y) := cell_later HB8.out HD.out.2
  obtain ⟨i0, hi, hz0, hz1, hz2⟩ := info_parts Tryd.infoLine
  go_upto_region 7 with fail
  go_cut [14, 15] (fun _ _ wx => Below w0.heap.size w0 wx)
  case first =>
    go_region_law (first
      | (refine step_append_lies _ rfl _ _ 35 rfl w0.heap.size 54 i0 (.agg #[.int .i64 0, .int .i64 0]) 2 16 Tryd.underlying35 hi hz0 hz1 hz2 rfl (by decide) v9 ls.length (cellsL ls) rfl (HO9.out.alloc _) ⟨w9.heap.size, 0, none⟩ 1 1 [.int .i64 x, .int .i64 y] rfl rfl (news_new w9 x y) (ints_one x y) (by decide) (by unfold maxLen; omega) (by omega) (Nat.le_trans HB9.out.size (by simp)) _ rfl ?_; intro g10 cap10 w10 ho10 hg10 hat10 hlt10; have HB10 : Hid (Below w0.heap.size w0 w10) := OwnL.grown (HB9.out.alloc HB9.out.size _) (HO9.out.alloc _) hg10; have HO10 : Hid (OwnL w10 w0.heap.size (.slice (some ⟨g10, 0, none⟩) (ls.length + 1) cap10) (ls ++ [(x, y)])) := OwnL.snoc ho10; clear ho10 hg10 hat10 hlt10)
      | (refine step_append_lies _ rfl _ _ 35 rfl w0.heap.size 54 i0 (.agg #[.int .i64 0, .int .i64 0]) 2 16 Tryd.underlying35 hi hz0 hz1 hz2 rfl (by decide) v9 ls.length (cellsL ls) rfl HO9.out ⟨w8.heap.size, 0, none⟩ 1 1 [.int .i64 x, .int .i64 y] rfl rfl (news_old x y (below_ofDrew HX9.out)) (ints_one x y) (by decide) (by unfold maxLen; omega) (by omega) HB9.out.size _ rfl ?_; intro g10 cap10 w10 ho10 hg10 hat10 hlt10; have HB10 : Hid (Below w0.heap.size w0 w10) := OwnL.grown HB9.out HO9.out hg10; have HO10 : Hid (OwnL w10 w0.heap.size (.slice (some ⟨g10, 0, none⟩) (ls.length + 1) cap10) (ls ++ [(x, y)])) := OwnL.snoc ho10; clear ho10 hg10 hat10 hlt10)
      | (go_simp; go_at_call 21; go_must (refine (ownLines_from a cap ls w0 _ ?_ HL.out hn30.out HA.out).mono ?_; (first | exact HB8.out.drew | exact (HB8.out.alloc HB8.out.size _).drew); rintro e w9 ⟨v9, rfl, ho9, hb9, hB9⟩; have HB9 : Hid (Below w0.heap.size w0 w9) := hB9; have c90 : w9.cell? ⟨w.heap.size, 0, none⟩ = some (.int .i64 x) := cell_later hB9 HD.out.1; have c91 : w9.cell? ⟨w.heap.size, 1, none⟩ = some (.int .i64 y) := cell_later hB9 HD.out.2; have HO9 : Hid (OwnL w9 w0.heap.size v9 ls) := ho9; have HX9 : Hid (Below _ _ w9) := hb9; clear ho9 hb9 hB9))
      | (go_simp; go_at_call 20; go_must (refine (at_any_own _ (ls ++ [(x, y)]) t w0 _ w0.heap.size (some ⟨g10, 0, none⟩) (ls.length + 1) cap10 aB aS HE.out HB10.out HO10.out rfl).mono ?_; rintro e w11 ⟨m11, x11, rfl, hb11⟩; have HB11 : Hid (Below w0.heap.size w0 w11) := HB10.out.trans (hb11.mono HB10.out.size); clear hb11))
      | fail)
    all_goals (go_wp2_with fail; go_meet; exact HB11.out)
  case rest =>
  have HBC : Hid (Below w0.heap.size w0 wc) := hcut
  clear hcut
  go_wp2_with fail
  go_ret
  refine ⟨rfl, ?_⟩
  have hbw : Below w.heap.size w w0 := by rw [← HW.out]; exact (Below.refl _ _).alloc (Nat.le_refl _) _
  exact hbw.trans (HBC.out.mono hbw.size)
end Go.Proofs.YtcldgpbimaoliaaDoor
