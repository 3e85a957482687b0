/- BucketActs: act by act. -/
import Derived.Test.YtcldgpbimaoliaaDoorActs1
namespace Go.Proofs.YtcldgpbimaoliaaDoor
open Go.RowKit

/-- Both buckets in memory, and the act at hand. -/
structure Duo (w0 : World) (g h c : Nat) (t n : Int) (b : Bk) (m : Rb) (w : World) : Prop where
  bk : BkAt w g b
  rb : RbAt w h m
  below : Below w0.heap.size w0 w
  a1 : w.cell? ⟨c, 1, none⟩ = some (.int .i64 t)
  a2 : w.cell? ⟨c, 2, none⟩ = some (.int .i64 n)
theorem Duo.later {w0 w w' : World} {g h c : Nat} {t n : Int} {b : Bk} {m : Rb} (d : Duo w0 g h c t n b m w) (hb : Below w.heap.size w w') : Duo w0 g h c t n b m w' :=
  ⟨d.bk.below hb, d.rb.below hb, d.below.trans (hb.mono d.below.size), cell_later hb d.a1, cell_later hb d.a2⟩
/-- The three blocks are apart, and new. -/
structure Apart (w0 : World) (g h c : Nat) : Prop where
  gh : g ≠ h
  cg : c ≠ g
  ch : c ≠ h
  g0 : w0.heap.size ≤ g
  h0 : w0.heap.size ≤ h
theorem Duo.one {w0 w w' : World} {g h c : Nat} {t n : Int} {b b' : Bk} {m : Rb} (d : Duo w0 g h c t n b m w) (ap : Apart w0 g h c) (hb : But (fun k => k = g) w w') (hk : BkAt w' g b') : Duo w0 g h c t n b' m w' :=
  ⟨hk, d.rb.but hb (fun e => ap.gh e.symm), d.below.trans (hb.one d.below.size ap.g0), by rw [hb.cell (p := ⟨c, 1, none⟩) (cell_lt d.a1) ap.cg]; exact d.a1, by rw [hb.cell (p := ⟨c, 2, none⟩) (cell_lt d.a2) ap.cg]; exact d.a2⟩
theorem Duo.two {w0 w w' : World} {g h c : Nat} {t n : Int} {b : Bk} {m m' : Rb} (d : Duo w0 g h c t n b m w) (ap : Apart w0 g h c) (hb : But (fun k => k = h) w w') (hk : RbAt w' h m') : Duo w0 g h c t n b m' w' :=
  ⟨d.bk.but hb (fun e => ap.gh e), hk, d.below.trans (hb.one d.below.size ap.h0), by rw [hb.cell (p := ⟨c, 1, none⟩) (cell_lt d.a1) ap.ch]; exact d.a1, by rw [hb.cell (p := ⟨c, 2, none⟩) (cell_lt d.a2) ap.ch]; exact d.a2⟩

theorem toList_take : ByteArray.toList ⟨#[116, 97, 107, 101]⟩ = [116, 97, 107, 101] := by kernel_rfl
theorem toList_when : ByteArray.toList ⟨#[119, 104, 101, 110]⟩ = [119, 104, 101, 110] := by kernel_rfl

set_option maxRecDepth 100000 in
set_option maxHeartbeats 4000000 in
theorem acts_main (a : Option Addr) (cap : Nat) (q : List Ac) (x y : Int) (w : World) (ad : Nat → Addr) (he : Errs9 w ad) (hl : LiesA w a q) (hn : q.length ≤ 100) (ho : okLine x y = true) :
    Calls Tryd.prog 14 #[.agg #[.int .i64 x, .int .i64 y], .slice a q.length cap] w fun e w' => e = .returned (.bool true) ∧ Below w.heap.size w w' := by
  have HO : Hid (okLine x y = true) := ho
  have hox := okLine_true ho
  have hb0 : Below w.heap.size w (w.alloc (.cells #[.int .i64 x, .int .i64 y] 54)) := (Below.refl _ _).alloc (Nat.le_refl _) _
  have HE : Hid (Errs9 (w.alloc (.cells #[.int .i64 x, .int .i64 y] 54)) ad) := he.below hb0
  have HL : Hid (LiesA (w.alloc (.cells #[.int .i64 x, .int .i64 y] 54)) a q) := hl.below hb0
  clear he ho hl
  go_enter Tryd.func14, Tryd.ntmps14
  go_wp2_with fail
  generalize hw0 : w.alloc (.cells #[.int .i64 x, .int .i64 y] 54) = w0 at *
  have HD : Hid (w0.cell? ⟨w.heap.size, 0, none⟩ = some (.int .i64 x) ∧ w0.cell? ⟨w.heap.size, 1, none⟩ = some (.int .i64 y)) := by
    constructor <;> (rw [← hw0]; simp)
  have HW : Hid (Below w.heap.size w w0) := hb0
  clear hw0 hb0
  refine (filled_any _ ad HE.out.four).mono ?_
  rintro e w1 ⟨rfl, hb⟩
  have HB1 : Hid (Below w0.heap.size w0 w1) := hb
  have c0 := cell_later hb HD.out.1
  have c1 := cell_later hb HD.out.2
  clear hb
  go_wp2_with fail
  refine (new_ok x y _ HO.out).mono ?_
  rintro e w2 ⟨g, rfl, hg, hk2, hb2⟩
  have HG : Hid (w0.heap.size ≤ g) := Nat.le_trans HB1.out.size hg
  have HB2 : Hid (Below w0.heap.size w0 w2) := HB1.out.trans (hb2.mono HB1.out.size)
  have HK2 : Hid (BkAt w2 g (bkOf (x, y))) := hk2
  have d0 := cell_later HB2.out HD.out.1
  have d1 := cell_later HB2.out HD.out.2
  clear hb2 c0 c1 hg hk2
  go_wp2_with fail
  refine (lineError_yes x y _ HO.out).mono ?_
  rintro e w3 ⟨rfl, hw3⟩
  have hb3 : Below w2.heap.size w2 w3 := by rw [hw3]; exact (Below.refl _ _).alloc (Nat.le_refl _) _
  have HB3 : Hid (Below w0.heap.size w0 w3) := HB2.out.trans (hb3.mono HB2.out.size)
  have HK3 : Hid (BkAt w3 g (bkOf (x, y))) := HK2.out.below hb3
  clear hw3 d0 d1 hb3
  have c0 := cell_later HB3.out HD.out.1
  have c1 := cell_later HB3.out HD.out.2
  go_wp2_with fail
  have HB4 : Hid (Below w0.heap.size w0 (w3.alloc (.cells #[.int .i64 x, .int .i64 y, .int .i64 (1000 * x), .int .i64 0, .int .i64 0] 88))) := HB3.out.alloc HB3.out.size _
  have HK4 : Hid (BkAt (w3.alloc (.cells #[.int .i64 x, .int .i64 y, .int .i64 (1000 * x), .int .i64 0, .int .i64 0] 88)) g (bkOf (x, y))) := HK3.out.below ((Below.refl _ _).alloc (Nat.le_refl _) _)
  have HM4 : Hid (RbAt (w3.alloc (.cells #[.int .i64 x, .int .i64 y, .int .i64 (1000 * x), .int .i64 0, .int .i64 0] 88)) w3.heap.size (rbOf (x, y))) := by constructor <;> simp [rbOf]
  have HGH : Hid (g < w3.heap.size ∧ w0.heap.size ≤ w3.heap.size) := ⟨HK3.out.lt, HB3.out.size⟩
  clear c0 c1
  generalize w3.alloc (.cells #[.int .i64 x, .int .i64 y, .int .i64 (1000 * x), .int .i64 0, .int .i64 0] 88) = w4 at *
  generalize w3.heap.size = h at *
  generalize hqn : q.length = N at *
  have Hn := (show Hid (q.length = N) from hqn)
  clear hqn
  go_loopw [10] (fun i wr => ∃ k : Nat, k ≤ N ∧ i = .int .i64 k ∧ ∃ b m, b.Ok ∧ RelB b m ∧ BkAt wr g b ∧ RbAt wr h m ∧ Below w0.heap.size w0 wr) (fun i _ => N - (intOf i).toNat)
  case atStart => exact ⟨0, Nat.zero_le _, rfl, _, _, bkOf_ok HO.out, relB_new _ HO.out, HK4.out, HM4.out, HB4.out⟩
  case round =>
    obtain ⟨k, hk, rfl, b, m, hok, hrel, hbk, hrb, hb⟩ := hrel
    have HOk : Hid b.Ok := hok
    have HRel : Hid (RelB b m) := hrel
    have HBR : Hid (Below w0.heap.size w0 wr) := hb
    by_cases hkn : k < N
    · obtain ⟨⟨s, t, n⟩, hp, -⟩ := get_some q k (by rw [Hn.out]; exact hkn)
      obtain ⟨b', off, rfl, -, hc⟩ := (HL.out.below hb).place (by rw [Hn.out]; omega)
      obtain ⟨c1, c2, c3⟩ := hc k _ hp
      simp only at c1 c2 c3
      have HAp : Hid (Apart w0 g h wr.heap.size) := ⟨by have := HGH.out.1; omega, by have := hbk.lt; omega, by have := hrb.lt; omega, HG.out, HGH.out.2⟩
      have hal : Below wr.heap.size wr (wr.alloc (.cells #[.string s, .int .i64 t, .int .i64 n] 90)) := (Below.refl _ _).alloc (Nat.le_refl _) _
      have HD0 : Hid (Duo w0 g h wr.heap.size t n b m (wr.alloc (.cells #[.string s, .int .i64 t, .int .i64 n] 90))) :=
        ⟨hbk.below hal, hrb.below hal, hb.trans (hal.mono hb.size), by simp, by simp⟩
      have HC0 : Hid ((wr.alloc (.cells #[.string s, .int .i64 t, .int .i64 n] 90)).cell? ⟨wr.heap.size, 0, none⟩ = some (.string s)) := by show _ = _; simp
      clear hc hp hok hrel hbk hrb hb hal
      go_wp2_with fail
      refine (rerror_any h b.last t n _ (by rw [← HRel.out.last]; exact HD0.out.rb.c4)).mono ?_
      rintro e wE ⟨rfl, rfl⟩
      clear c1 c2 c3 HBR
      generalize wr.alloc (.cells #[.string s, .int .i64 t, .int .i64 n] 90) = W at *
      generalize wr.heap.size = C at *
      have k0 := HC0.out
      have k1 := HD0.out.a1
      have k2 := HD0.out.a2
      by_cases hs1 : s.toList = [116, 97, 107, 101]
      · have hs1b : (s.toList == ByteArray.toList ⟨#[116, 97, 107, 101]⟩) = true := by rw [hs1, toList_take]; decide
        have hs1c : (s.toList == [116, 97, 107, 101]) = true := by rw [hs1]; decide
        clear hs1
        by_cases hask : askErr b.last t n = 0
        · obtain ⟨z, hz⟩ : ∃ z, decide (n * 1000 ≤ b.lev t) = z := ⟨_, rfl⟩
          have HZ : Hid (decide (n * 1000 ≤ b.lev t) = z) := hz
          have HAsk : Hid (askErr b.last t n = 0) := hask
          rw [hask]
          clear hz hask
          go_wp2_with fail
          refine (take_ok g b t n _ ad (HE.out.below HD0.out.below).four HD0.out.bk HOk.out HAsk.out).mono ?_
          rintro e w5 ⟨rfl, hk5, hb5⟩
          have HD5 : Hid (Duo w0 g h C t n (b.take t n) m w5) := HD0.out.one HAp.out hb5 hk5
          rw [HZ.out]
          clear k0 k1 k2 hk5 hb5
          go_wp2_with fail
          refine (coded_yes _ 0 _ (codeIs_nil _)).mono ?_
          rintro e w6 ⟨rfl, hb6⟩
          have HD6 : Hid (Duo w0 g h C t n (b.take t n) m w6) := HD5.out.later hb6
          have k1 := HD6.out.a1
          have k2 := HD6.out.a2
          clear hb6
          go_wp2_with fail
          refine (rtake_ok h b m t n _ HD6.out.rb HOk.out HRel.out HAsk.out).mono ?_
          rintro e w7 ⟨rfl, hk7, hb7⟩
          have HD7 : Hid (Duo w0 g h C t n (b.take t n) (m.take t n) w7) := HD6.out.two HAp.out hb7 hk7
          rw [HZ.out]
          clear k1 k2 hk7 hb7
          have HFin : Hid ((b.take t n).Ok ∧ RelB (b.take t n) (m.take t n)) := by
            obtain ⟨n0, n1, t0, t1, ht⟩ := askErr_ok.1 HAsk.out
            exact ⟨HOk.out.take ht t1 (by omega), HRel.out.take HOk.out ht n0⟩
          cases z
          all_goals
            go_wp2_with fail
            go_roundw
            case rel => exact ⟨k + 1, by omega, by go_num, _, _, HFin.out.1, HFin.out.2, HD7.out.bk, HD7.out.rb, HD7.out.below⟩
            case measure => simp [intOf]; omega
        · have HAsk : Hid (askErr b.last t n ≠ 0) := hask
          have h9 : askErr b.last t n ≤ 9 := by rcases askErr_num b.last t n with h | h | h <;> omega
          have HX : Hid (∀ w', Below w0.heap.size w0 w' → CodeIs w' (sentOf ad (askErr b.last t n)) ((askErr b.last t n : Nat) : Int) (-1)) := fun w' hb => codeIs_sentOf (HE.out.below hb) _ h9
          have HT : Hid (Calls Tryd.prog 48 #[.pointer (some ⟨g, 0, none⟩), .int .i64 t, .int .i64 n] W fun e w' => e = .returned (.tuple #[.bool false, sentOf ad (askErr b.last t n)]) ∧ w' = W) := take_err g b.last t n W ad (HE.out.below HD0.out.below).four HD0.out.bk.c3 hask
          have hE0 : 0 < ((askErr b.last t n : Nat) : Int) := by omega
          generalize ((askErr b.last t n : Nat) : Int) = E at *
          generalize sentOf ad (askErr b.last t n) = X at *
          have hE1 : (E == 0) = false := by simp; omega
          clear hask h9
          go_wp2_with fail
          refine HT.out.mono ?_
          rintro e w5 ⟨rfl, rfl⟩
          clear k0 k1 k2
          go_wp2_with fail
          refine (coded_yes _ E _ (HX.out _ HD0.out.below)).mono ?_
          rintro e w6 ⟨rfl, hb6⟩
          have HD6 : Hid (Duo w0 g h C t n b m w6) := HD0.out.later hb6
          clear hb6
          go_wp2_with fail
          go_roundw
          case rel => exact ⟨k + 1, by omega, by go_num, _, _, HOk.out, HRel.out, HD6.out.bk, HD6.out.rb, HD6.out.below⟩
          case measure => simp [intOf]; omega
      · have hs1c : (s.toList == [116, 97, 107, 101]) = false := by simpa using hs1
        have hs1b : (s.toList == ByteArray.toList ⟨#[116, 97, 107, 101]⟩) = false := by rw [toList_take]; exact hs1c
        by_cases hs2 : s.toList = [119, 104, 101, 110]
        · have hs2b : (s.toList == ByteArray.toList ⟨#[119, 104, 101, 110]⟩) = true := by rw [hs2, toList_when]; decide
          have hs2c : (s.toList == [119, 104, 101, 110]) = true := by rw [hs2]; decide
          clear hs1 hs2
          by_cases hask : askErr b.last t n = 0
          · have HAsk : Hid (askErr b.last t n = 0) := hask
            have HR1 : Hid (∀ w', Duo w0 g h C t n b m w' → Calls Tryd.prog 49 #[.pointer (some ⟨g, 0, none⟩), .int .i64 t, .int .i64 n] w' fun e w'' => e = .returned (whenVal ad (b.when t n)) ∧ Below w'.heap.size w' w'') := fun w' d => when_ok g b t n w' ad (HE.out.below d.below).four d.bk HOk.out HAsk.out
            have HR2 : Hid (∀ w', Duo w0 g h C t n b m w' → Calls Tryd.prog 53 #[.pointer (some ⟨h, 0, none⟩), .int .i64 t, .int .i64 n] w' fun e w'' => e = .returned (.int .i64 (tickOr (b.when t n))) ∧ Below w'.heap.size w' w'') := fun w' d => rwhen_ok h b m t n w' d.rb HOk.out HRel.out HAsk.out
            rw [hask]
            cases hwn : b.when t n with
            | none =>
              rw [hwn] at HR1 HR2
              have HX : Hid (∀ w', Below w0.heap.size w0 w' → CodeIs w' (.iface 98 (.pointer (some (ad 3)))) 4 (-1)) := fun w' hb => codeIs_sent (HE.out.below hb) 3 (by decide)
              change Hid (∀ w', Duo w0 g h C t n b m w' → Calls Tryd.prog 49 #[.pointer (some ⟨g, 0, none⟩), .int .i64 t, .int .i64 n] w' fun e w'' => e = .returned (.tuple #[.int .i64 0, .iface 98 (.pointer (some (ad 3)))]) ∧ Below w'.heap.size w' w'') at HR1
              change Hid (∀ w', Duo w0 g h C t n b m w' → Calls Tryd.prog 53 #[.pointer (some ⟨h, 0, none⟩), .int .i64 t, .int .i64 n] w' fun e w'' => e = .returned (.int .i64 (-1)) ∧ Below w'.heap.size w' w'') at HR2
              clear hask hwn
              go_wp2_with fail
              refine (HR1.out _ HD0.out).mono ?_
              rintro e w5 ⟨rfl, hb5⟩
              have HD5 : Hid (Duo w0 g h C t n b m w5) := HD0.out.later hb5
              clear k0 k1 k2 hb5
              have k1 := HD5.out.a1
              have k2 := HD5.out.a2
              go_wp2_with fail
              refine (HR2.out _ HD5.out).mono ?_
              rintro e w6 ⟨rfl, hb6⟩
              have HD6 : Hid (Duo w0 g h C t n b m w6) := HD5.out.later hb6
              clear k1 k2 hb6
              go_wp2_with fail
              refine (coded_yes _ 4 _ (HX.out _ HD6.out.below)).mono ?_
              rintro e w7 ⟨rfl, hb7⟩
              have HD7 : Hid (Duo w0 g h C t n b m w7) := HD6.out.later hb7
              clear hb7
              go_wp2_with fail
              go_roundw
              case rel => exact ⟨k + 1, by omega, by go_num, _, _, HOk.out, HRel.out, HD7.out.bk, HD7.out.rb, HD7.out.below⟩
              case measure => simp [intOf]; omega
            | some T =>
              rw [hwn] at HR1 HR2
              change Hid (∀ w', Duo w0 g h C t n b m w' → Calls Tryd.prog 49 #[.pointer (some ⟨g, 0, none⟩), .int .i64 t, .int .i64 n] w' fun e w'' => e = .returned (.tuple #[.int .i64 T, .nilIface]) ∧ Below w'.heap.size w' w'') at HR1
              change Hid (∀ w', Duo w0 g h C t n b m w' → Calls Tryd.prog 53 #[.pointer (some ⟨h, 0, none⟩), .int .i64 t, .int .i64 n] w' fun e w'' => e = .returned (.int .i64 T) ∧ Below w'.heap.size w' w'') at HR2
              have hT : 0 ≤ T := by
                obtain ⟨n0, n1, t0, t1, ht⟩ := askErr_ok.1 hask
                have := (Bk.when_some HOk.out t1 hwn).1
                omega
              have hT' : ¬ T < 0 := by omega
              clear hask hwn
              go_wp2_with fail
              refine (HR1.out _ HD0.out).mono ?_
              rintro e w5 ⟨rfl, hb5⟩
              have HD5 : Hid (Duo w0 g h C t n b m w5) := HD0.out.later hb5
              clear k0 k1 k2 hb5
              have k1 := HD5.out.a1
              have k2 := HD5.out.a2
              go_wp2_with fail
              refine (HR2.out _ HD5.out).mono ?_
              rintro e w6 ⟨rfl, hb6⟩
              have HD6 : Hid (Duo w0 g h C t n b m w6) := HD5.out.later hb6
              clear k1 k2 hb6
              go_wp2_with fail
              refine (coded_yes _ 0 _ (codeIs_nil _)).mono ?_
              rintro e w7 ⟨rfl, hb7⟩
              have HD7 : Hid (Duo w0 g h C t n b m w7) := HD6.out.later hb7
              clear hb7
              go_wp2_with fail
              go_roundw
              case rel => exact ⟨k + 1, by omega, by go_num, _, _, HOk.out, HRel.out, HD7.out.bk, HD7.out.rb, HD7.out.below⟩
              case measure => simp [intOf]; omega
          · have h9 : askErr b.last t n ≤ 9 := by rcases askErr_num b.last t n with h | h | h <;> omega
            have HX : Hid (∀ w', Below w0.heap.size w0 w' → CodeIs w' (sentOf ad (askErr b.last t n)) ((askErr b.last t n : Nat) : Int) (-1)) := fun w' hb => codeIs_sentOf (HE.out.below hb) _ h9
            have HT : Hid (Calls Tryd.prog 49 #[.pointer (some ⟨g, 0, none⟩), .int .i64 t, .int .i64 n] W fun e w' => e = .returned (.tuple #[.int .i64 0, sentOf ad (askErr b.last t n)]) ∧ w' = W) := when_err g b.last t n W ad (HE.out.below HD0.out.below).four HD0.out.bk.c3 hask
            have hE0 : 0 < ((askErr b.last t n : Nat) : Int) := by omega
            generalize ((askErr b.last t n : Nat) : Int) = E at *
            generalize sentOf ad (askErr b.last t n) = X at *
            have hE1 : (E == 0) = false := by simp; omega
            clear hask h9
            go_wp2_with fail
            refine HT.out.mono ?_
            rintro e w5 ⟨rfl, rfl⟩
            clear k0 k1 k2
            go_wp2_with fail
            refine (coded_yes _ E _ (HX.out _ HD0.out.below)).mono ?_
            rintro e w6 ⟨rfl, hb6⟩
            have HD6 : Hid (Duo w0 g h C t n b m w6) := HD0.out.later hb6
            clear hb6
            go_wp2_with fail
            go_roundw
            case rel => exact ⟨k + 1, by omega, by go_num, _, _, HOk.out, HRel.out, HD6.out.bk, HD6.out.rb, HD6.out.below⟩
            case measure => simp [intOf]; omega
        · have hs2c : (s.toList == [119, 104, 101, 110]) = false := by simpa using hs2
          have hs2b : (s.toList == ByteArray.toList ⟨#[119, 104, 101, 110]⟩) = false := by rw [toList_when]; exact hs2c
          clear hs1 hs2
          generalize ((askErr b.last t n : Nat) : Int) = E0 at *
          have h9 : tickErr b.last t ≤ 9 := by rcases tickErr_num b.last t with h | h | h <;> omega
          have HX : Hid (∀ w', Below w0.heap.size w0 w' → CodeIs w' (sentOf ad (tickErr b.last t)) ((tickErr b.last t : Nat) : Int) (-1)) := fun w' hb => codeIs_sentOf (HE.out.below hb) _ h9
          have HRE : Hid (∀ w', Duo w0 g h C t n b m w' → Calls Tryd.prog 51 #[.pointer (some ⟨h, 0, none⟩), .int .i64 t, .int .i64 1] w' fun e w'' => e = .returned (.int .i64 ((tickErr b.last t : Nat) : Int)) ∧ w'' = w') := fun w' d => by
            have := rerror_any h b.last t 1 w' (by rw [← HRel.out.last]; exact d.rb.c4)
            rwa [askErr_one] at this
          by_cases htk : tickErr b.last t = 0
          · have HT : Hid (∀ w', Duo w0 g h C t n b m w' → Calls Tryd.prog 50 #[.pointer (some ⟨g, 0, none⟩), .int .i64 t] w' fun e w'' => e = .returned (.tuple #[.int .i64 (b.lev t), .nilIface]) ∧ Below w'.heap.size w' w'') := fun w' d => has_ok g b t w' ad (HE.out.below d.below).four d.bk HOk.out htk
            have HRH : Hid (∀ w', Duo w0 g h C t n b m w' → Calls Tryd.prog 54 #[.pointer (some ⟨h, 0, none⟩), .int .i64 t] w' fun e w'' => e = .returned (.int .i64 (b.lev t)) ∧ Below w'.heap.size w' w'') := fun w' d => by
              obtain ⟨t0, t1, ht⟩ := tickErr_ok.1 htk
              have := rhasAt_ok h b m t w' d.rb HOk.out HRel.out ht t1
              rwa [HRel.out.hasAt HOk.out ht] at this
            rw [htk] at HX HRE
            clear htk h9 HX
            generalize b.lev t = V at *
            go_wp2_with fail
            refine (HT.out _ HD0.out).mono ?_
            rintro e w5 ⟨rfl, hb5⟩
            have HD5 : Hid (Duo w0 g h C t n b m w5) := HD0.out.later hb5
            clear k0 k1 k2 hb5
            have k1 := HD5.out.a1
            go_wp2_with fail
            refine (HRE.out _ HD5.out).mono ?_
            rintro e w6 ⟨rfl, rfl⟩
            go_wp2_with fail
            refine (coded_yes _ 0 _ (codeIs_nil _)).mono ?_
            rintro e w7 ⟨rfl, hb7⟩
            have HD7 : Hid (Duo w0 g h C t n b m w7) := HD5.out.later hb7
            clear hb7 k1
            have k1 := HD7.out.a1
            go_wp2_with fail
            refine (HRH.out _ HD7.out).mono ?_
            rintro e w8 ⟨rfl, hb8⟩
            have HD8 : Hid (Duo w0 g h C t n b m w8) := HD7.out.later hb8
            clear hb8 k1
            go_wp2_with fail
            go_roundw
            case rel => exact ⟨k + 1, by omega, by go_num, _, _, HOk.out, HRel.out, HD8.out.bk, HD8.out.rb, HD8.out.below⟩
            case measure => simp [intOf]; omega
          · have HT : Hid (Calls Tryd.prog 50 #[.pointer (some ⟨g, 0, none⟩), .int .i64 t] W fun e w' => e = .returned (.tuple #[.int .i64 0, sentOf ad (tickErr b.last t)]) ∧ w' = W) := has_err g b.last t W ad (HE.out.below HD0.out.below).four HD0.out.bk.c3 htk
            have hE0 : 0 < ((tickErr b.last t : Nat) : Int) := by omega
            generalize ((tickErr b.last t : Nat) : Int) = E at *
            generalize sentOf ad (tickErr b.last t) = X at *
            have hE1 : (E == 0) = false := by simp; omega
            have hE2 : decide (0 < E) = true := decide_eq_true hE0
            clear htk h9
            go_wp2_with fail
            refine HT.out.mono ?_
            rintro e w5 ⟨rfl, rfl⟩
            go_wp2_with fail
            refine (HRE.out _ HD0.out).mono ?_
            rintro e w6 ⟨rfl, rfl⟩
            clear k0 k1 k2
            go_wp2_with fail
            refine (coded_yes _ E _ (HX.out _ HD0.out.below)).mono ?_
            rintro e w7 ⟨rfl, hb7⟩
            have HD7 : Hid (Duo w0 g h C t n b m w7) := HD0.out.later hb7
            clear hb7
            go_wp2_with fail
            go_roundw
            case rel => exact ⟨k + 1, by omega, by go_num, _, _, HOk.out, HRel.out, HD7.out.bk, HD7.out.rb, HD7.out.below⟩
            case measure => simp [intOf]; omega
    · go_wp2_with fail
      go_ret
      exact ⟨rfl, HW.out.trans (HBR.out.mono HW.out.size)⟩
end Go.Proofs.YtcldgpbimaoliaaDoor
