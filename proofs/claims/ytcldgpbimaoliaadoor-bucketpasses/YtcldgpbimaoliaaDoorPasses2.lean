/- BucketPasses: the main way. -/
import Derived.Test.YtcldgpbimaoliaaDoorPasses1
namespace Go.Proofs.YtcldgpbimaoliaaDoor
open Go.RowKit

/-- What has passed so far. -/
structure Gone (w0 wr : World) (g : Nat) (x y : Int) (l : Int) (b : Bk) (v : Value) (q : List Pk) (k : Nat) : Prop where
  seen : Seen w0 wr g x l b
  own : OwnP wr w0.heap.size v q
  apart : v.ownBlock ≠ some g
  passed : Passed (x, y) q b
  ok : OkPks q
  ends : ahead q q.length ≤ l
  few : q.length ≤ k
  fits : fitsB [(x, y)] q = true

/-- The bucket passes just what fits. -/
theorem passes_is {x y : Int} {q : List Pk} {b : Bk} (hp : Passed (x, y) q b) (hf : fitsB [(x, y)] q = true) (f s z : Int) (hz : b.last ≤ z) : fitsB [(x, y)] (q ++ [⟨f, s, z⟩]) = decide (s * 1000 ≤ b.lev z) := by
  have h1 := hp.fits ⟨f, s, z⟩ hz
  have h2 := fitsB_snoc [(x, y)] q ⟨f, s, z⟩
  simp only at h1
  by_cases h : s * 1000 ≤ b.lev z
  · rw [show decide (s * 1000 ≤ b.lev z) = true by simpa using h]
    exact h2.2 ⟨hf, h1.1 h⟩
  · rw [show decide (s * 1000 ≤ b.lev z) = false by simpa using h]
    cases hh : fitsB [(x, y)] (q ++ [⟨f, s, z⟩]) with
    | false => rfl
    | true => exact absurd (h1.2 (h2.1 hh).2) h

/-- The law's copy, in whatever world behind one. -/
theorem ownPackets_here (a : Option Addr) (cap : Nat) (q : List Pk) (w5 cur : World) (hb : Below w5.heap.size w5 cur) (hl : LiesP w5 a q) (hn : q.length ≤ 1000) (ha : a = none → q = [] ∧ cap = 0) :
    Calls Tryd.prog 40 #[.slice a q.length cap] cur fun e w' => ∃ v, e = .returned v ∧ OwnP w' w5.heap.size v q ∧ Below cur.heap.size cur w' ∧ Below w5.heap.size w5 w' ∧ ∀ k, v.ownBlock = some k → cur.heap.size ≤ k ∧ k < w'.heap.size := by
  refine (ownPackets_any a cap q cur (hl.below hb) hn ha).mono ?_
  rintro e w' ⟨v, rfl, ho, hb'⟩
  exact ⟨v, rfl, ownsRow_mono ho hb.size, hb', hb.trans (hb'.mono hb.size), World.ownsRow.lt ho⟩

theorem grown_cell {w w' : World} {row : Option Nat} {a : Addr} {v : Value} (hg : w.grownBy w' row) (h : w.cell? a = some v) (hne : some a.block ≠ row) : w'.cell? a = some v := by
  rw [hg.cell_far a (cell_lt h) hne]; exact h

set_option maxRecDepth 100000 in
set_option maxHeartbeats 8000000 in
theorem passes_main (a : Option Addr) (cap : Nat) (ps : List Pk) (x y : Int) (w : World) (ad : Nat → Addr) (he : Errs4 w ad) (ho : okLine x y = true) (hl : LiesP w a ps) (hm : ps.length ≤ 60) (hp : OkPks ps) :
    Calls Tryd.prog 12 #[.agg #[.int .i64 x, .int .i64 y], .slice a ps.length cap] w fun e w' => e = .returned (.bool true) ∧ Below w.heap.size w w' := by
  have HO : Hid (okLine x y = true) := ho
  have HK : Hid (okCurve [(x, y)]) := ⟨by simp, by simp, fun p hp => by simp at hp; subst hp; exact ho⟩
  have hb0 : Below w.heap.size w (w.alloc (.cells #[.int .i64 x, .int .i64 y] 54)) := (Below.refl _ _).alloc (Nat.le_refl _) _
  have HE : Hid (Errs4 (w.alloc (.cells #[.int .i64 x, .int .i64 y] 54)) ad) := he.below hb0
  have HL : Hid (LiesP (w.alloc (.cells #[.int .i64 x, .int .i64 y] 54)) a ps) := hl.below hb0
  have HP : Hid (OkPks ps) := hp
  have HF : Hid (∀ w', Calls Tryd.prog 38 #[.slice a ps.length cap, .int .i64 60] w' fun e w'' => e = .returned (.bool true) ∧ w'' = w') := fun w' => fitPkts_yes a ps.length cap 60 w' (by unfold maxLen; omega) (by omega)
  have hfd := field_code
  clear ho he hl hp
  go_enter Tryd.func12, Tryd.ntmps12
  go_wp2_with fail
  generalize hw0 : w.alloc (.cells #[.int .i64 x, .int .i64 y] 54) = w0 at *
  have HD : Hid (w0.cell? ⟨w.heap.size, 0, none⟩ = some (.int .i64 x) ∧ w0.cell? ⟨w.heap.size, 1, none⟩ = some (.int .i64 y)) := by
    constructor <;> (rw [← hw0]; simp)
  have HW : Hid (Below w.heap.size w w0) := hb0
  clear hw0 hb0
  refine (filled_any _ ad HE.out).mono ?_
  rintro e w1 ⟨rfl, hb⟩
  have HB1 : Hid (Below w0.heap.size w0 w1) := hb
  have c0 := cell_later hb HD.out.1
  have c1 := cell_later hb HD.out.2
  clear hb
  go_wp2_with fail
  refine (lineError_yes x y _ HO.out).mono ?_
  rintro e w2 ⟨rfl, hw2⟩
  have HB2 : Hid (Below w0.heap.size w0 w2) := by show Below _ _ _; rw [hw2]; exact HB1.out.alloc HB1.out.size _
  clear hw2 c0 c1
  go_wp2_with fail
  refine (HF.out _).mono ?_
  rintro e w2' ⟨rfl, rfl⟩
  go_wp2_with fail
  refine (pfault_all a cap ps _ (HL.out.below HB2.out) (by omega) ps.length (Nat.le_refl _) (fun i q _ hq => HP.out.each i q hq) 0 (-1) (.inl ⟨rfl, rfl, rfl⟩)).mono ?_
  rintro e w3 ⟨rfl, hb3⟩
  have HB3 : Hid (Below w0.heap.size w0 w3) := HB2.out.trans (hb3.mono HB2.out.size)
  have c0 := cell_later HB3.out HD.out.1
  have c1 := cell_later HB3.out HD.out.2
  clear hb3
  go_wp2_with fail
  refine (new_ok x y _ HO.out).mono ?_
  rintro e w4 ⟨g, rfl, hg, hk4, hb4⟩
  have HG : Hid (w0.heap.size ≤ g) := Nat.le_trans HB3.out.size hg
  have HS4 : Hid (Gone w0 w4 g x y 0 (bkOf (x, y)) (.slice none 0 0) [] 0) :=
    ⟨⟨hk4, bkOf_ok HO.out, rfl, rfl, HB3.out.trans (hb4.mono HB3.out.size)⟩, World.ownsRow_nil _ _ _ _, (fun e => by cases e), passed_none (x, y) (okLine_true HO.out).2.2.1, okPks_none, Int.le_refl _, Nat.le_refl _, rfl⟩
  clear hg hk4 hb4 c0 c1
  go_wp2_with fail
  generalize hn : ps.length = m at *
  have Hn := (show Hid (ps.length = m) from hn)
  clear hn
  obtain ⟨i0, hi, hz0, hz1, hz2⟩ := info_parts Tryd.infoPkt
  go_loopw [8, 9] (fun v i wr => ∃ k : Nat, k ≤ m ∧ i = .int .i64 k ∧ ∃ b q, Gone w0 wr g x y (ahead ps k) b v q k) (fun _ i _ => m - (intOf i).toNat)
  case atStart => exact ⟨0, Nat.zero_le _, rfl, _, _, HS4.out⟩
  case round =>
    obtain ⟨k, hk, rfl, b, q, hgn⟩ := hrel
    by_cases hkm : k < m
    · obtain ⟨a8, cap8, e8, g8, m8, l8, B8, n8⟩ := OwnP.open hgn.own
      subst e8
      have HGn : Hid (Gone w0 wr g x y (ahead ps k) b (.slice a8 q.length cap8) q k) := hgn
      obtain ⟨⟨f, s, z⟩, hp, -⟩ := get_some ps k (by rw [Hn.out]; exact hkm)
      obtain ⟨b', off, rfl, -, hc⟩ := (HL.out.below hgn.seen.below).place (by rw [Hn.out]; omega)
      have hb0' : b' < w0.heap.size := by
        rcases HL.out with h | ⟨b2, off2, e, h, -⟩
        · rw [h] at hp; simp at hp
        · cases e; exact h
      obtain ⟨c1, c2, c3⟩ := hc k _ hp
      simp only at c1 c2 c3
      obtain ⟨o1, o2⟩ := HP.out.each k _ hp
      have o := okPk_true o1
      simp only at o o2
      have HA : Hid (ahead ps (k + 1) = z) := ahead_succ hp
      have HOk1 : Hid (okPk ⟨f, s, z⟩ = true) := o1
      have HAsk : Hid (askErr b.last z s = 0) := by
        show _ = _
        rw [hgn.seen.last]
        exact askErr_ok.2 ⟨o.2.2.1, o.2.2.2.1, o.2.2.2.2.1, o.2.2.2.2.2, o2⟩
      have HLast : Hid (b.last ≤ z) := by show _ ≤ _; rw [hgn.seen.last]; exact o2
      have HC : Hid (b' < w0.heap.size ∧ wr.cell? ⟨b', off + k * 3, none⟩ = some (.int .i64 f) ∧ wr.cell? ⟨b', off + k * 3 + 1, none⟩ = some (.int .i64 s) ∧ wr.cell? ⟨b', off + k * 3 + 2, none⟩ = some (.int .i64 z)) := ⟨hb0', c1, c2, c3⟩
      have H8 : Hid (LiesP wr a8 q ∧ (a8 = none → q = [] ∧ cap8 = 0)) := ⟨l8, n8⟩
      have HFew : Hid (q.length ≤ 60) := by have := hgn.few; show _ ≤ _; omega
      obtain ⟨r, hr⟩ : ∃ r, decide (s * 1000 ≤ b.lev z) = r := ⟨_, rfl⟩
      have HR : Hid (decide (s * 1000 ≤ b.lev z) = r) := hr
      clear hc hp o1 o2 o hgn c1 l8 B8 n8 g8 m8 hr hb0'
      go_wp2_with fail
      go_cut [10, 11] from 44 to 95 (fun s10 s11 wx => s10 = .bool r ∧ s11 = .nilIface ∧ BkAt wx g (b.take z s) ∧ But (fun k => k = g) wr wx)
      case first =>
        go_region_with (first
          | (go_simp; go_at_call 48; go_must (refine (take_ok g b z s _ ad (HE.out.below HGn.out.seen.below.drew) (HGn.out.seen.at_.below (Below.refl _ _).drew) HGn.out.seen.ok HAsk.out).mono ?_; rintro e w5 ⟨rfl, hk5, hb5⟩; have HK5 : Hid (BkAt w5 g (b.take z s) ∧ But (fun k => k = g) wr w5) := ⟨hk5, (But.ofBelow (Below.refl _ _).drew).trans hb5⟩; clear hk5 hb5))
          | fail)
        all_goals (go_wp2_with fail; go_meet; exact ⟨by rw [HR.out], rfl, HK5.out.1, HK5.out.2⟩)
      case rest =>
      obtain ⟨rfl, rfl, hk5, hb5⟩ := hcut
      have HSeen : Hid (Seen w0 wc g x z (b.take z s)) := HGn.out.seen.take HG.out hb5 hk5 HAsk.out
      have HOwn : Hid (OwnP wc w0.heap.size (.slice a8 q.length cap8) q) := ownsRow_but HGn.out.own hb5 (fun j hj e => HGn.out.apart (by rw [hj, e]))
      have H8c : Hid (LiesP wc a8 q) := by
        obtain ⟨a', c', e, -, -, h, -, -⟩ := OwnP.open HOwn.out
        injection e with e1 e2 e3
        subst e1
        exact h
      have hne5 : ¬ b' = g := by have h1 := HC.out.1; have h2 := HG.out; omega
      have hlt5 : b' < wr.heap.size := Nat.lt_of_lt_of_le HC.out.1 HGn.out.seen.below.size
      have t0 : wc.cell? ⟨b', off + k * 3, none⟩ = some (.int .i64 f) := by rw [hb5.cell (p := ⟨b', off + k * 3, none⟩) hlt5 hne5]; exact HC.out.2.1
      have t1 : wc.cell? ⟨b', off + k * 3 + 1, none⟩ = some (.int .i64 s) := by rw [hb5.cell (p := ⟨b', off + k * 3 + 1, none⟩) hlt5 hne5]; exact HC.out.2.2.1
      have t2 : wc.cell? ⟨b', off + k * 3 + 2, none⟩ = some (.int .i64 z) := by rw [hb5.cell (p := ⟨b', off + k * 3 + 2, none⟩) hlt5 hne5]; exact HC.out.2.2.2
      have u0 := cell_later HSeen.out.below HD.out.1
      have u1 := cell_later HSeen.out.below HD.out.2
      have SC : Hid (∀ wx, Below wc.heap.size wc wx → wx.cell? ⟨b', off + k * 3, none⟩ = some (.int .i64 f) ∧ wx.cell? ⟨b', off + k * 3 + 1, none⟩ = some (.int .i64 s) ∧ wx.cell? ⟨b', off + k * 3 + 2, none⟩ = some (.int .i64 z) ∧ wx.cell? ⟨w.heap.size, 0, none⟩ = some (.int .i64 x) ∧ wx.cell? ⟨w.heap.size, 1, none⟩ = some (.int .i64 y)) :=
        fun wx hb => ⟨cell_later hb t0, cell_later hb t1, cell_later hb t2, cell_later hb u0, cell_later hb u1⟩
      have HFit : Hid (∀ (wx : World) (gl g10 cap10 : Nat), Lies wx (some ⟨gl, 0, none⟩) [(x, y)] → OwnP wx wc.heap.size (.slice (some ⟨g10, 0, none⟩) (q.length + 1) cap10) (q ++ [⟨f, s, z⟩]) → Calls Tryd.prog 41 #[.slice (some ⟨gl, 0, none⟩) 1 1, .slice (some ⟨g10, 0, none⟩) (q.length + 1) cap10] wx fun e w' => e = .returned (.tuple #[.bool r, .nilIface]) ∧ Below wx.heap.size wx w') := fun wx gl g10 cap10 h1 h2 => by
        obtain ⟨a', c', e, h3, h4, h5, -, -⟩ := OwnP.open h2
        injection e with e1 e2 e3
        subst e1 e3
        have hlen : (q ++ [(⟨f, s, z⟩ : Pk)]).length = q.length + 1 := by simp
        have hok2 : OkPks (q ++ [⟨f, s, z⟩]) := (okPks_snoc q ⟨f, s, z⟩).2 ⟨HGn.out.ok, by have := HFew.out; omega, HOk1.out, by have h6 := HGn.out.ends; have h7 := HLast.out; rw [HGn.out.seen.last] at h7; show _ ≤ z; omega⟩
        have h6 := fits_ok (some ⟨gl, 0, none⟩) 1 [(x, y)] (some ⟨g10, 0, none⟩) cap10 (q ++ [⟨f, s, z⟩]) wx h1 HK.out (by simp) (by simp [maxLen]) h5 hok2 h3 h4
        rw [passes_is HGn.out.passed HGn.out.fits f s z HLast.out, HR.out, hlen] at h6
        exact h6
      have HB5 : Hid (But (fun k => k = g) wr wc) := hb5
      clear hk5 hb5 hne5 hlt5 c2 c3
      go_wp2_with fail
      go_cut [12, 11] from 44 to 95 (fun s12 s11 wx => s12 = .bool r ∧ s11 = .nilIface ∧ Below wc.heap.size wc wx)
      case first =>
        clear HE HL HP HF hfd HD HW HS4 Hn HGn HAsk HLast HC HA HR HOk1 HSeen HOwn HB5 HG HO HK HB1 HB2 HB3
        go_region_held_law (fun w' => w'.cell? ⟨b', off + k * 3, none⟩ = some (.int .i64 f) ∧ w'.cell? ⟨b', off + k * 3 + 1, none⟩ = some (.int .i64 s) ∧ w'.cell? ⟨b', off + k * 3 + 2, none⟩ = some (.int .i64 z) ∧ w'.cell? ⟨w.heap.size, 0, none⟩ = some (.int .i64 x) ∧ w'.cell? ⟨w.heap.size, 1, none⟩ = some (.int .i64 y)) (go_keep)
          (first
            | (refine step_append_lies _ rfl _ _ 62 rfl wc.heap.size 76 i0 (.agg #[.int .i64 0, .int .i64 0, .int .i64 0]) 3 24 Tryd.underlying62 hi hz0 hz1 hz2 rfl (by decide) v9 q.length (cellsP q) rfl (by first | exact HO9.out | exact HO9.out.alloc _ | exact (HO9.out.alloc _).alloc _) _ 1 1 [.int .i64 f, .int .i64 s, .int .i64 z] rfl rfl
                (by
                  first
                    | exact news3 (by simp; done) (by simp; done) (by simp; done)
                    | exact news3 (cell_later HX9.out (by simp)) (cell_later HX9.out (by simp)) (cell_later HX9.out (by simp))
                    | exact news3 (cell_alloc _ (cell_later HX9.out (by simp))) (cell_alloc _ (cell_later HX9.out (by simp))) (cell_alloc _ (cell_later HX9.out (by simp))))
                (ints_three f s z) (by decide) (by have := HFew.out; unfold maxLen; omega) (by have := HFew.out; omega) (by have hz := HB9.out.size; first | exact hz | (simp; omega)) _ rfl ?_
               intro g10 cap10 w10 ho10 hg10 hat10 hlt10
               have HG10 : Hid (World.grownBy _ w10 v9.ownBlock) := hg10
               have HO10 : Hid (OwnP w10 wc.heap.size (.slice (some ⟨g10, 0, none⟩) (q.length + 1) cap10) (q ++ [⟨f, s, z⟩])) := OwnP.snoc ho10
               have HB10 : Hid (Below wc.heap.size wc w10) := Below.grown (by first | exact HB9.out | exact HB9.out.alloc HB9.out.size _ | exact (HB9.out.alloc HB9.out.size _).alloc (by have := HB9.out.size; simp; omega) _) hg10 (by have hz := HB9.out.size; first | exact hz | (simp; omega)) (fun j hj => (World.ownsRow.lt HO9.out j hj).1)
               obtain ⟨y0, y1, y2, y3, y4⟩ := SC.out w10 HB10.out
               clear ho10 hg10 hat10 hlt10)
            | (go_simp; go_at_call 40; go_must (refine (ownPackets_here a8 cap8 q wc _ ?_ H8c.out (by have := HFew.out; omega) H8.out.2).mono ?_; (first | exact (Below.refl _ _).drew | exact ((Below.refl _ _).drew).alloc (Nat.le_refl _) _ | exact (((Below.refl _ _).drew).alloc (Nat.le_refl _) _).alloc (by simp) _); rintro e w9 ⟨v9, rfl, ho9, hx9, hb9, hk9⟩; obtain ⟨x0, x1, x2, x3, x4⟩ := SC.out w9 hb9; have HO9 : Hid (OwnP w9 wc.heap.size v9 q) := ho9; have HX9 : Hid (Below _ _ w9) := hx9; have HB9 : Hid (Below wc.heap.size wc w9) := hb9; have HOb9 : Hid (∀ j, v9.ownBlock = some j → _ ≤ j ∧ j < w9.heap.size) := hk9; clear ho9 hx9 hb9 hk9))
            | (go_simp; go_at_call 41; go_must (refine (HFit.out _ _ g10 cap10 ?_ ?_).mono ?_; (first | exact lies_one (by simp; done) (by simp; done) | exact lies_one (grown_cell HG10.out (by simp; done) (by intro hk; have hq := HOb9.out _ hk.symm; first | omega | (simp at hq; done) | (simp at hq; omega))) (grown_cell HG10.out (by simp; done) (by intro hk; have hq := HOb9.out _ hk.symm; first | omega | (simp at hq; done) | (simp at hq; omega))) | exact lies_one (grown_cell HG10.out (cell_later HX9.out (by simp)) (by intro hk; have hq := HOb9.out _ hk.symm; first | omega | (simp at hq; done) | (simp at hq; omega))) (grown_cell HG10.out (cell_later HX9.out (by simp)) (by intro hk; have hq := HOb9.out _ hk.symm; first | omega | (simp at hq; done) | (simp at hq; omega))) | exact lies_one (grown_cell HG10.out (cell_alloc _ (cell_later HX9.out (by simp))) (by intro hk; have hq := HOb9.out _ hk.symm; first | omega | (simp at hq; done) | (simp at hq; omega))) (grown_cell HG10.out (cell_alloc _ (cell_later HX9.out (by simp))) (by intro hk; have hq := HOb9.out _ hk.symm; first | omega | (simp at hq; done) | (simp at hq; omega)))); (first | exact HO10.out | exact HO10.out.alloc _); rintro e w11 ⟨rfl, hb11⟩; have HB11 : Hid (Below wc.heap.size wc w11) := (by first | exact HB10.out.trans (hb11.mono HB10.out.size) | exact (HB10.out.alloc HB10.out.size _).trans (hb11.mono (by have := HB10.out.size; simp; omega))); obtain ⟨z0, z1, z2, z3, z4⟩ := SC.out w11 HB11.out; clear hb11))
            | fail)
        all_goals (go_wp2_with fail; go_meet; exact ⟨rfl, rfl, HB11.out⟩)
      case rest =>
      obtain ⟨rfl, rfl, hbx⟩ := hcut
      have hse := HSeen.out.later hbx
      have HSe : Hid (Seen w0 wc g x z (b.take z s)) := hse
      have HOw : Hid (OwnP wc w0.heap.size (.slice a8 q.length cap8) q) := ownsRow_but HOwn.out (But.ofBelow (S := fun _ => False) hbx) (fun _ _ h => h)
      obtain ⟨x0, x1, x2, x3, x4⟩ := SC.out _ hbx
      clear t0 t1 t2 u0 u1 hse hbx
      cases r with
      | false =>
        have HNext : Hid (Gone w0 wc g x y z (b.take z s) (.slice a8 q.length cap8) q (k + 1)) := by
          have hno : ¬ s * 1000 ≤ b.lev z := of_decide_eq_false HR.out
          have hl := HLast.out
          have hg := HGn.out
          have hls := hg.seen.last
          have he := hg.ends
          exact ⟨HSe.out, HOw.out, hg.apart, hg.passed.wait hg.seen.ok.r0 z s hl hno, hg.ok, by omega, by have := hg.few; omega, hg.fits⟩
        go_wp2_with fail
        go_roundw
        case rel => exact ⟨k + 1, by omega, by go_num, _, _, by rw [HA.out]; exact HNext.out⟩
        case measure => simp [intOf]; omega
      | true =>
        go_wp2_with (at_builtin; refine wpList_append_lies _ rfl _ _ 62 rfl w0.heap.size 76 i0 (.agg #[.int .i64 0, .int .i64 0, .int .i64 0]) 3 24 Tryd.underlying62 hi hz0 hz1 hz2 rfl (by decide) (.slice a8 q.length cap8) q.length (cellsP q) rfl (HOw.out.alloc _) ⟨wc.heap.size, 0, none⟩ 1 1 [.int .i64 f, .int .i64 s, .int .i64 z] rfl rfl (news3 (by simp) (by simp) (by simp)) (ints_three f s z) (by decide) (by have := HFew.out; unfold maxLen; omega) (by have := HFew.out; omega) (by have := HSe.out.below.size; simp; omega) _ rfl ?_; intro g10 cap10 w10 ho10 hg10 hat10 hlt10)
        have HNext : Hid (Gone w0 w10 g x y z (b.take z s) (.slice (some ⟨g10, 0, none⟩) (q.length + 1) cap10) (q ++ [⟨f, s, z⟩]) (k + 1)) := by
          have hyes : s * 1000 ≤ b.lev z := of_decide_eq_true HR.out
          have hl := HLast.out
          have hg := HGn.out
          have hls := hg.seen.last
          have he := hg.ends
          have hal : Below wc.heap.size wc (wc.alloc (.cells #[.int .i64 f, .int .i64 s, .int .i64 z] 76)) := (Below.refl _ _).alloc (Nat.le_refl _) _
          have hsA := HSe.out.later hal
          have hbt : But (fun j => (Value.slice a8 q.length cap8).ownBlock = some j) (wc.alloc (.cells #[.int .i64 f, .int .i64 s, .int .i64 z] 76)) w10 := ⟨hg10.os, hg10.tape, hg10.output, hg10.size, fun j hj hs => hg10.block j hj (fun e => hs e.symm)⟩
          have hgne : g10 ≠ g := by
            rcases hat10 with h | h
            · intro e; rw [e] at h; exact hg.apart h
            · have := HSe.out.at_.lt; simp at h; omega
          refine ⟨⟨hsA.at_.but hbt (fun e => hg.apart e), hsA.ok, hsA.last, hsA.most, hsA.below.trans (hbt.below hsA.below.size (fun j hj => (World.ownsRow.lt HOw.out j hj).1))⟩, OwnP.snoc ho10, ?_, hg.passed.pass hg.seen.ok.r0 ⟨f, s, z⟩ hl hyes, (okPks_snoc q ⟨f, s, z⟩).2 ⟨hg.ok, by have := HFew.out; omega, HOk1.out, by show _ ≤ z; omega⟩, ?_, ?_, ?_⟩
          · intro e
            exact hgne (Option.some.inj e)
          · rw [List.length_append, List.length_singleton, ahead_snoc_end]
            exact Int.le_refl _
          · have := hg.few; simp; omega
          · rw [passes_is hg.passed hg.fits f s z hl]; exact HR.out
        clear ho10 hg10 hat10 hlt10
        go_wp2_with fail
        go_roundw
        case rel => exact ⟨k + 1, by omega, by go_num, _, _, by rw [HA.out]; exact HNext.out⟩
        case measure => simp [intOf]; omega
    · go_wp2_with fail
      go_ret
      exact ⟨rfl, HW.out.trans (hgn.seen.below.mono HW.out.size)⟩
end Go.Proofs.YtcldgpbimaoliaaDoor
