/- BucketWhen: the main way. -/
import Derived.Test.YtlknljbceppedaaDoorCWhen1
namespace Go.Proofs.YtlknljbceppedaaDoor
open Go.RowKit

/-- Up to the loop's end: a bucket that has seen all packets. -/
structure Seen (w0 wr : World) (g : Nat) (x : Int) (l : Int) (b : Bk) : Prop where
  at_ : BkAt wr g b
  ok : b.Ok
  last : b.last = l
  most : b.most = x * 1000
  below : Below w0.heap.size w0 wr
theorem Seen.later {w0 wr w' : World} {g : Nat} {x l : Int} {b : Bk} (h : Seen w0 wr g x l b) (hb : Below wr.heap.size wr w') : Seen w0 w' g x l b :=
  ⟨h.at_.below hb, h.ok, h.last, h.most, h.below.trans (hb.mono h.below.size)⟩
theorem Seen.take {w0 wr w' : World} {g : Nat} {x l t n : Int} {b : Bk} (h : Seen w0 wr g x l b) (hg : w0.heap.size ≤ g) (hb : But (fun k => k = g) wr w') (hk : BkAt w' g (b.take t n)) (ha : askErr b.last t n = 0) : Seen w0 w' g x t (b.take t n) := by
  obtain ⟨n0, n1, t0, t1, ht⟩ := askErr_ok.1 ha
  exact ⟨hk, h.ok.take ht t1 (by omega), Bk.take_last .., by rw [Bk.take_most]; exact h.most, h.below.trans (hb.one h.below.size hg)⟩

set_option maxRecDepth 100000 in
set_option maxHeartbeats 4000000 in
theorem when_main (a : Option Addr) (cap : Nat) (ps : List Pk) (x y t n : Int) (w : World) (ad : Nat → Addr) (he : Errs4 w ad) (ho : okLine x y = true) (hl : LiesP w a ps) (hm : ps.length ≤ 60) (t0 : 0 ≤ t) (t1 : t ≤ 1073741824) (hp : OkPks ps) :
    Calls Tryd.prog 13 #[.agg #[.int .i64 x, .int .i64 y], .slice a ps.length cap, .int .i64 t, .int .i64 n] w fun e w' => e = .returned (.bool true) ∧ Below w.heap.size w w' := by
  have HO : Hid (okLine x y = true) := ho
  have hb0 : Below w.heap.size w (w.alloc (.cells #[.int .i64 x, .int .i64 y] 54)) := (Below.refl _ _).alloc (Nat.le_refl _) _
  have HE : Hid (Errs4 (w.alloc (.cells #[.int .i64 x, .int .i64 y] 54)) ad) := he.below hb0
  have HL : Hid (LiesP (w.alloc (.cells #[.int .i64 x, .int .i64 y] 54)) a ps) := hl.below hb0
  have HP : Hid (OkPks ps) := hp
  have hfd := field_code
  have HFin := (show Hid (0 ≤ ahead ps ps.length ∧ ahead ps ps.length ≤ 1099511627776) from hp.final)
  clear ho he hl hp
  go_enter Tryd.func13, Tryd.ntmps13
  go_wp2_with fail
  generalize hw0 : w.alloc (.cells #[.int .i64 x, .int .i64 y] 54) = w0 at *
  have HD : Hid (w0.cell? ⟨w.heap.size, 0, none⟩ = some (.int .i64 x) ∧ w0.cell? ⟨w.heap.size, 1, none⟩ = some (.int .i64 y)) := by
    constructor <;> (rw [← hw0]; simp)
  have HW : Hid (Below w.heap.size w w0) := hb0
  clear hw0 hb0
  refine (filled_any _ ad HE.out).mono ?_
  rintro e w1 ⟨rfl, hb⟩
  have HB1 : Hid (Below w0.heap.size w0 w1) := hb
  have c0 := cell_later hb HD.out.1
  have c1 := cell_later hb HD.out.2
  clear hb
  go_wp2_with fail
  refine (lineError_yes x y _ HO.out).mono ?_
  rintro e w2 ⟨rfl, hw2⟩
  have HB2 : Hid (Below w0.heap.size w0 w2) := by show Below _ _ _; rw [hw2]; exact HB1.out.alloc HB1.out.size _
  clear hw2 c0 c1
  go_wp2_with fail
  refine (pfault_all a cap ps _ (HL.out.below HB2.out) (by omega) ps.length (Nat.le_refl _) (fun i q _ hq => HP.out.each i q hq) 0 (-1) (.inl ⟨rfl, rfl, rfl⟩)).mono ?_
  rintro e w3 ⟨rfl, hb3⟩
  have HB3 : Hid (Below w0.heap.size w0 w3) := HB2.out.trans (hb3.mono HB2.out.size)
  have c0 := cell_later HB3.out HD.out.1
  have c1 := cell_later HB3.out HD.out.2
  clear hb3
  go_wp2_with fail
  refine (new_ok x y _ HO.out).mono ?_
  rintro e w4 ⟨g, rfl, hg, hk4, hb4⟩
  have HG : Hid (w0.heap.size ≤ g) := Nat.le_trans HB3.out.size hg
  have HS4 : Hid (Seen w0 w4 g x 0 (bkOf (x, y))) := ⟨hk4, bkOf_ok HO.out, rfl, rfl, HB3.out.trans (hb4.mono HB3.out.size)⟩
  clear hg hk4 hb4 c0 c1
  go_wp2_with fail
  generalize hn : ps.length = m at *
  have Hn := (show Hid (ps.length = m) from hn)
  clear hn
  go_loopw [12, 13] (fun l i wr => ∃ k : Nat, k ≤ m ∧ i = .int .i64 k ∧ l = .int .i64 (ahead ps k) ∧ ∃ b, Seen w0 wr g x (ahead ps k) b) (fun _ i _ => m - (intOf i).toNat)
  case atStart => exact ⟨0, Nat.zero_le _, rfl, rfl, _, HS4.out⟩
  case round =>
    obtain ⟨k, hk, rfl, rfl, b, hs⟩ := hrel
    have HS : Hid (Seen w0 wr g x (ahead ps k) b) := hs
    by_cases hkm : k < m
    · obtain ⟨⟨f, s, z⟩, hp, -⟩ := get_some ps k (by rw [Hn.out]; exact hkm)
      have hl2 := HL.out.below hs.below
      obtain ⟨b', off, rfl, hlt, hc⟩ := hl2.place (by rw [Hn.out]; omega)
      obtain ⟨c1, c2, c3⟩ := hc k _ hp
      simp only at c1 c2 c3
      obtain ⟨o1, o2⟩ := HP.out.each k _ hp
      have o := okPk_true o1
      simp only at o o2
      have HA : Hid (ahead ps (k + 1) = z) := ahead_succ hp
      have HAsk : Hid (askErr b.last z s = 0) := by
        show _ = _
        rw [hs.last]
        exact askErr_ok.2 ⟨o.2.2.1, o.2.2.2.1, o.2.2.2.2.1, o.2.2.2.2.2, o2⟩
      have HC3 : Hid (b' < w0.heap.size ∧ wr.cell? ⟨b', off + k * 3 + 2, none⟩ = some (.int .i64 z)) := by
        refine ⟨?_, c3⟩
        rcases HL.out with h | ⟨b2, off2, e, h, -⟩
        · rw [h] at hp; simp at hp
        · cases e; exact h
      clear hl2 hlt hc hp o1 o2 o hs c1
      go_wp2_with fail
      go_region_with (first
        | (go_simp; go_at_call 48; go_must (refine (take_ok g b z s _ ad (HE.out.below HS.out.below.drew) (HS.out.at_.below (Below.refl _ _).drew) HS.out.ok HAsk.out).mono ?_; rintro e w5 ⟨rfl, hk5, hb5⟩; have HS5 : Hid (Seen w0 w5 g x z (b.take z s)) := (HS.out.later (Below.refl _ _).drew).take HG.out hb5 hk5 HAsk.out; have c5 : w5.cell? ⟨b', off + k * 3 + 2, none⟩ = some (.int .i64 z) := by { rw [hb5.cell (p := ⟨b', off + k * 3 + 2, none⟩) (Nat.lt_of_lt_of_le HC3.out.1 HS.out.below.size) (fun e => by have h1 := HC3.out.1; have h2 := HG.out; have h3 : b' = g := e; omega)]; exact HC3.out.2 }; clear hk5 hb5))
        | fail)
      all_goals
        go_wp2_with fail
        go_roundw
        case rel => exact ⟨k + 1, by omega, by go_num, by rw [HA.out], _, by rw [HA.out]; exact HS5.out⟩
        case measure => simp [intOf]; omega
    · obtain rfl : k = m := by omega
      have hL := HFin.out
      have hlast := hs.last
      clear hs
      generalize ahead ps k = L at *
      by_cases hask : askErr b.last (L + t) n = 0
      · cases hwn : b.when (L + t) n with
        | none =>
          have HQ : Hid (∀ w', Below wr.heap.size wr w' → Calls Tryd.prog 49 #[.pointer (some ⟨g, 0, none⟩), .int .i64 (L + t), .int .i64 n] w' fun e w'' => e = .returned (.tuple #[.int .i64 0, .iface 98 (.pointer (some (ad 3)))]) ∧ Below w'.heap.size w' w'') := fun w' hb => by
            have h' := HS.out.later hb
            have := when_ok g b (L + t) n w' ad (HE.out.below h'.below) h'.at_ h'.ok hask
            rwa [hwn] at this
          clear hask hwn
          go_wp2_with fail
          refine (HQ.out _ (Below.refl _ _)).mono ?_
          rintro e w6 ⟨rfl, hb6⟩
          have HB6 : Hid (Below w.heap.size w w6) := HW.out.trans ((HS.out.later hb6).below.mono HW.out.size)
          clear hb6
          go_wp2_with fail
          go_ret
          exact ⟨rfl, HB6.out⟩
        | some T =>
          obtain ⟨n0, n1, q0, q1, q2⟩ := askErr_ok.1 hask
          obtain ⟨u1, u2, u3, u4⟩ := Bk.when_some HS.out.ok q1 hwn
          have hbd := HS.out.ok.lev_bd (t := T) (by omega)
          have hmost := HS.out.most
          have hox := okLine_true HO.out
          have HQ : Hid (∀ w', Below wr.heap.size wr w' → Calls Tryd.prog 49 #[.pointer (some ⟨g, 0, none⟩), .int .i64 (L + t), .int .i64 n] w' fun e w'' => e = .returned (.tuple #[.int .i64 T, .nilIface]) ∧ Below w'.heap.size w' w'') := fun w' hb => by
            have h' := HS.out.later hb
            have := when_ok g b (L + t) n w' ad (HE.out.below h'.below) h'.at_ h'.ok hask
            rwa [hwn] at this
          have HH : Hid (∀ w' s, Below wr.heap.size wr w' → L + t ≤ s → s ≤ T → Calls Tryd.prog 50 #[.pointer (some ⟨g, 0, none⟩), .int .i64 s] w' fun e w'' => e = .returned (.tuple #[.int .i64 (b.lev s), .nilIface]) ∧ Below w'.heap.size w' w'') := fun w' s hb h1 h2 => by
            have h' := HS.out.later hb
            exact has_ok g b s w' ad (HE.out.below h'.below) h'.at_ h'.ok (tickErr_ok.2 ⟨by omega, by omega, by omega⟩)
          have HAsk : Hid (askErr b.last T n = 0) := askErr_ok.2 ⟨n0, n1, by omega, u2, by omega⟩
          have HT : Hid (∀ w', Below wr.heap.size wr w' → Calls Tryd.prog 48 #[.pointer (some ⟨g, 0, none⟩), .int .i64 T, .int .i64 n] w' fun e w'' => e = .returned (.tuple #[.bool true, .nilIface]) ∧ Seen w0 w'' g x T (b.take T n)) := fun w' hb => by
            have h' := HS.out.later hb
            refine (take_ok g b T n w' ad (HE.out.below h'.below) h'.at_ h'.ok HAsk.out).mono ?_
            rintro e w'' ⟨rfl, hk2, hb2⟩
            refine ⟨by rw [show decide (n * 1000 ≤ b.lev T) = true from decide_eq_true u3], h'.take HG.out hb2 hk2 HAsk.out⟩
          have HTL : Hid ((b.take T n).lev T = b.lev T - n * 1000) := by
            show _ = _
            unfold Bk.take
            rw [if_pos u3]
            simp only [Bk.lev, Int.sub_self, Int.mul_zero]
            omega
          have v1 : ¬ b.lev T < 1000 * n := by omega
          have v2 : ¬ 1000 * x < b.lev T := by omega
          have HX : Hid (∀ w', Below w0.heap.size w0 w' → w'.cell? ⟨w.heap.size, 0, none⟩ = some (.int .i64 x)) := fun w' hb => cell_later hb HD.out.1
          have v0 : ¬ T < L + t := by omega
          by_cases hgt : L + t < T
          · have u5 : b.lev (T - 1) < 1000 * n := by have := u4 (T - 1) (by omega) (by omega); omega
            have hbd' := HS.out.ok.lev_bd (t := T - 1) (by omega)
            have u5' : ¬ 1000 * n ≤ b.lev (T - 1) := by omega
            have HH1 : Hid (∀ w', Below wr.heap.size wr w' → Calls Tryd.prog 50 #[.pointer (some ⟨g, 0, none⟩), .int .i64 (T - 1)] w' fun e w'' => e = .returned (.tuple #[.int .i64 (b.lev (T - 1)), .nilIface]) ∧ Below w'.heap.size w' w'') := fun w' hb => HH.out w' (T - 1) hb (by omega) (by omega)
            have HH2 : Hid (∀ w', Below wr.heap.size wr w' → Calls Tryd.prog 50 #[.pointer (some ⟨g, 0, none⟩), .int .i64 T] w' fun e w'' => e = .returned (.tuple #[.int .i64 (b.lev T), .nilIface]) ∧ Below w'.heap.size w' w'') := fun w' hb => HH.out w' T hb (by omega) (by omega)
            clear hask hwn u4 u3 HH q2 hlast
            generalize b.lev (T - 1) = V1 at *
            generalize b.lev T = V2 at *
            go_wp2_with fail
            refine (HQ.out _ (Below.refl _ _)).mono ?_
            rintro e w6 ⟨rfl, hb6⟩
            have HB6 : Hid (Below wr.heap.size wr w6) := hb6
            clear hb6
            go_wp2_with fail
            refine (HH1.out _ HB6.out).mono ?_
            rintro e w7 ⟨rfl, hb7⟩
            have HB7 : Hid (Below wr.heap.size wr w7) := HB6.out.trans (hb7.mono HB6.out.size)
            clear hb7
            go_wp2_with fail
            refine (HH2.out _ HB7.out).mono ?_
            rintro e w8 ⟨rfl, hb8⟩
            have HB8 : Hid (Below wr.heap.size wr w8) := HB7.out.trans (hb8.mono HB7.out.size)
            have c8 := HX.out w8 (HS.out.later HB8.out).below
            clear hb8
            go_wp2_with fail
            refine (HT.out _ HB8.out).mono ?_
            rintro e w9 ⟨rfl, hs9⟩
            have HS9 : Hid (Seen w0 w9 g x T (b.take T n)) := hs9
            clear hs9 c8
            go_wp2_with fail
            refine (has_ok g (b.take T n) T _ ad (HE.out.below HS9.out.below) HS9.out.at_ HS9.out.ok (tickErr_ok.2 ⟨by omega, u2, by rw [HS9.out.last]; exact Int.le_refl _⟩)).mono ?_
            rintro e wA ⟨rfl, hbA⟩
            have HBA : Hid (Below w.heap.size w wA) := HW.out.trans ((HS9.out.later hbA).below.mono HW.out.size)
            rw [HTL.out]
            clear hbA
            rw [Int.mul_comm n 1000]
            go_wp2_with fail
            go_ret
            exact ⟨rfl, HBA.out⟩
          · have HH2 : Hid (∀ w', Below wr.heap.size wr w' → Calls Tryd.prog 50 #[.pointer (some ⟨g, 0, none⟩), .int .i64 T] w' fun e w'' => e = .returned (.tuple #[.int .i64 (b.lev T), .nilIface]) ∧ Below w'.heap.size w' w'') := fun w' hb => HH.out w' T hb (by omega) (by omega)
            clear hask hwn u4 u3 HH q2 hlast
            generalize b.lev T = V2 at *
            go_wp2_with fail
            refine (HQ.out _ (Below.refl _ _)).mono ?_
            rintro e w6 ⟨rfl, hb6⟩
            have HB7 : Hid (Below wr.heap.size wr w6) := hb6
            clear hb6
            go_wp2_with fail
            refine (HH2.out _ HB7.out).mono ?_
            rintro e w8 ⟨rfl, hb8⟩
            have HB8 : Hid (Below wr.heap.size wr w8) := HB7.out.trans (hb8.mono HB7.out.size)
            have c8 := HX.out w8 (HS.out.later HB8.out).below
            clear hb8
            go_wp2_with fail
            refine (HT.out _ HB8.out).mono ?_
            rintro e w9 ⟨rfl, hs9⟩
            have HS9 : Hid (Seen w0 w9 g x T (b.take T n)) := hs9
            clear hs9 c8
            go_wp2_with fail
            refine (has_ok g (b.take T n) T _ ad (HE.out.below HS9.out.below) HS9.out.at_ HS9.out.ok (tickErr_ok.2 ⟨by omega, u2, by rw [HS9.out.last]; exact Int.le_refl _⟩)).mono ?_
            rintro e wA ⟨rfl, hbA⟩
            have HBA : Hid (Below w.heap.size w wA) := HW.out.trans ((HS9.out.later hbA).below.mono HW.out.size)
            rw [HTL.out]
            clear hbA
            rw [Int.mul_comm n 1000]
            go_wp2_with fail
            go_ret
            exact ⟨rfl, HBA.out⟩
      · obtain ⟨v, hv⟩ := sentOf_err ad hask
        have HQ : Hid (∀ w', Below wr.heap.size wr w' → Calls Tryd.prog 49 #[.pointer (some ⟨g, 0, none⟩), .int .i64 (L + t), .int .i64 n] w' fun e w'' => e = .returned (.tuple #[.int .i64 0, .iface 98 v]) ∧ Below w'.heap.size w' w'') := fun w' hb => by
          have h' := HS.out.later hb
          refine (when_err g b.last (L + t) n w' ad (HE.out.below h'.below) h'.at_.c3 hask).mono ?_
          rintro e w'' ⟨rfl, rfl⟩
          exact ⟨by rw [hv], Below.refl _ _⟩
        clear hask hv
        go_wp2_with fail
        refine (HQ.out _ (Below.refl _ _)).mono ?_
        rintro e w6 ⟨rfl, hb6⟩
        have HB6 : Hid (Below w.heap.size w w6) := HW.out.trans ((HS.out.later hb6).below.mono HW.out.size)
        clear hb6
        go_wp2_with fail
        go_ret
        exact ⟨rfl, HB6.out⟩
end Go.Proofs.YtlknljbceppedaaDoor
