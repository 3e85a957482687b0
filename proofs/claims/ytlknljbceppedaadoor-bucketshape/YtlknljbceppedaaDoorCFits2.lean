/- Walks: package bucket's checkBoth, Fits. -/
import Derived.Test.YtlknljbceppedaaDoorCFits1
namespace Go.Proofs.YtlknljbceppedaaDoor
open Go.RowKit

theorem checkBoth_ok (la : Option Addr) (lcap : Nat) (ls : List (Int × Int)) (pa : Option Addr) (cap : Nat) (ps : List Pk) (w : World) (hl : Lies w la ls) (hk : okCurve ls) (hp : LiesP w pa ps) (ho : OkPks ps) :
    Calls Tryd.prog 69 #[.slice la ls.length lcap, .slice pa ps.length cap] w fun e w' => e = .returned .nilIface ∧ Below w.heap.size w w' := by
  have HP : Hid (LiesP w pa ps ∧ OkPks ps) := ⟨hp, ho⟩
  have HL : Hid (Lies w la ls ∧ okCurve ls) := ⟨hl, hk⟩
  clear hl hk hp ho
  go_enter Tryd.func69, Tryd.ntmps69
  go_wp2_with fail
  refine (pcheck_ok pa cap ps _ HP.out.1 HP.out.2).mono ?_
  rintro e w1 ⟨rfl, hb⟩
  have HB : Hid (Below w.heap.size w w1) := hb
  clear hb
  go_wp2_with fail
  refine (check_ok la lcap ls _ (HL.out.1.below HB.out) HL.out.2).mono ?_
  rintro e w2 ⟨rfl, hb2⟩
  have HB2 : Hid (Below w.heap.size w w2) := HB.out.trans (hb2.mono HB.out.size)
  clear hb2
  go_wp2_with fail
  go_ret
  exact ⟨rfl, HB2.out⟩
/-- checkBoth tells Check's error. -/
theorem checkBoth_perr {R : TypeId → Value → World → Prop} (lv : Value) (pa : Option Addr) (cap n : Nat) (w : World)
    (hc : Calls Tryd.prog 43 #[.slice pa n cap] w fun e w' => ∃ ty p, e = .returned (.iface ty p) ∧ R ty p w') :
    Calls Tryd.prog 69 #[lv, .slice pa n cap] w fun e w' => ∃ ty p, e = .returned (.iface ty p) ∧ R ty p w' := by
  have HC : Hid (Calls Tryd.prog 43 #[.slice pa n cap] w fun e w' => ∃ ty p, e = .returned (.iface ty p) ∧ R ty p w') := hc
  clear hc
  go_enter Tryd.func69, Tryd.ntmps69
  go_wp2_with fail
  refine HC.out.mono ?_
  rintro e w1 ⟨ty, p, rfl, hR⟩
  have HR : Hid (R ty p w1) := hR
  clear hR
  go_wp2_with fail
  go_ret
  exact ⟨ty, p, rfl, HR.out⟩
/-- checkBoth tells the curve's error where the packets are right. -/
theorem checkBoth_lerr {R : TypeId → Value → World → Prop} (la : Option Addr) (lcap n : Nat) (pa : Option Addr) (cap : Nat) (ps : List Pk) (w : World) (hp : LiesP w pa ps) (ho : OkPks ps)
    (hc : ∀ w', Below w.heap.size w w' → Calls Tryd.prog 24 #[.slice la n lcap] w' fun e w'' => ∃ ty p, e = .returned (.iface ty p) ∧ R ty p w'') :
    Calls Tryd.prog 69 #[.slice la n lcap, .slice pa ps.length cap] w fun e w' => ∃ ty p, e = .returned (.iface ty p) ∧ R ty p w' := by
  have HP : Hid (LiesP w pa ps ∧ OkPks ps) := ⟨hp, ho⟩
  have HC : Hid (∀ w', Below w.heap.size w w' → Calls Tryd.prog 24 #[.slice la n lcap] w' fun e w'' => ∃ ty p, e = .returned (.iface ty p) ∧ R ty p w'') := hc
  clear hp ho hc
  go_enter Tryd.func69, Tryd.ntmps69
  go_wp2_with fail
  refine (pcheck_ok pa cap ps _ HP.out.1 HP.out.2).mono ?_
  rintro e w1 ⟨rfl, hb⟩
  have HB : Hid (Below w.heap.size w w1) := hb
  clear hb
  go_wp2_with fail
  refine (HC.out _ HB.out).mono ?_
  rintro e w2 ⟨ty, p, rfl, hR⟩
  have HR : Hid (R ty p w2) := hR
  clear hR
  go_wp2_with fail
  go_ret
  exact ⟨ty, p, rfl, HR.out⟩

/-- Fits tells checkBoth's error. -/
theorem fits_err {R : TypeId → Value → World → Prop} (la : Option Addr) (lcap m : Nat) (pa : Option Addr) (cap n : Nat) (w : World)
    (hc : Calls Tryd.prog 69 #[.slice la m lcap, .slice pa n cap] w fun e w' => ∃ ty p, e = .returned (.iface ty p) ∧ R ty p w') :
    Calls Tryd.prog 41 #[.slice la m lcap, .slice pa n cap] w fun e w' => ∃ ty p, e = .returned (.tuple #[.bool false, .iface ty p]) ∧ R ty p w' := by
  have HC : Hid (Calls Tryd.prog 69 #[.slice la m lcap, .slice pa n cap] w fun e w' => ∃ ty p, e = .returned (.iface ty p) ∧ R ty p w') := hc
  clear hc
  go_enter Tryd.func41, Tryd.ntmps41
  go_wp2_with fail
  refine HC.out.mono ?_
  rintro e w1 ⟨ty, p, rfl, hR⟩
  have HR : Hid (R ty p w1) := hR
  clear hR
  go_wp2_with fail
  go_ret2
  exact ⟨ty, p, rfl, HR.out⟩

set_option maxRecDepth 100000 in
set_option maxHeartbeats 1000000 in
theorem fits_ok (la : Option Addr) (lcap : Nat) (ls : List (Int × Int)) (pa : Option Addr) (cap : Nat) (ps : List Pk) (w : World) (hl : Lies w la ls) (hk : okCurve ls) (hlc : ls.length ≤ lcap) (hlm : lcap ≤ maxLen)
    (hp : LiesP w pa ps) (ho : OkPks ps) (hcap : ps.length ≤ cap) (hm : cap ≤ maxLen) :
    Calls Tryd.prog 41 #[.slice la ls.length lcap, .slice pa ps.length cap] w fun e w' => e = .returned (.tuple #[.bool (fitsB ls ps), .nilIface]) ∧ Below w.heap.size w w' := by
  have HP : Hid (LiesP w pa ps ∧ OkPks ps) := ⟨hp, ho⟩
  have HL : Hid (Lies w la ls ∧ okCurve ls ∧ ls.length ≤ lcap ∧ lcap ≤ maxLen) := ⟨hl, hk, hlc, hlm⟩
  have hn300 : ps.length ≤ 300 := ho.few
  have HM : Hid (cap ≤ maxLen) := hm
  have hcm : cap ≤ 9223372036854775807 := by unfold maxLen at hm; omega
  obtain ⟨R, hR⟩ : ∃ R, fitsB ls ps = R := ⟨_, rfl⟩
  rw [hR]
  have HSt : Hid (fitsB ls ps = R) := hR
  clear hl hk hlc hlm hp ho hm hR
  have Hn := (show Hid (ps.length ≤ cap) from hcap)
  obtain ⟨n, hn⟩ : ∃ n, ps.length = n := ⟨_, rfl⟩
  have HN : Hid (ps.length = n) := hn
  have HCB : Hid (Calls Tryd.prog 69 #[.slice la ls.length lcap, .slice pa n cap] w fun e w' => e = .returned .nilIface ∧ Below w.heap.size w w') := by
    have := checkBoth_ok la lcap ls pa cap ps w HL.out.1 HL.out.2.1 HP.out.1 HP.out.2
    rwa [hn] at this
  rw [hn] at hcap hn300 ⊢
  clear hn
  go_enter Tryd.func41, Tryd.ntmps41
  go_wp2_with fail
  refine HCB.out.mono ?_
  rintro e w1 ⟨rfl, hb1⟩
  have HB1 : Hid (Below w.heap.size w w1) := hb1
  clear hb1
  go_wp2_with fail
  go_loopw [18] (fun i wr => ∃ k : Nat, k ≤ n ∧ i = .int .i64 k ∧ fitsB ls (ps.drop k) = R ∧ Below w.heap.size w wr) (fun i _ => n - (intOf i).toNat)
  case atStart => exact ⟨0, Nat.zero_le _, rfl, by simpa using HSt.out, HB1.out⟩
  case round =>
    obtain ⟨k, hk, rfl, hst, hb⟩ := hrel
    have HB : Hid (Below w.heap.size w wr) := hb
    have HS : Hid (fitsB ls (ps.drop k) = R) := hst
    by_cases hkn : k < n
    · obtain ⟨p, hp, -⟩ := get_some ps k (by rw [HN.out]; exact hkn)
      obtain ⟨b, off, rfl, -, -⟩ := HP.out.1.place (by rw [HN.out]; omega)
      have hkc : k < cap := by omega
      have HStep : Hid (fitsB ls (ps.drop k) = (startB ls p.tick 0 (ps.drop k) && fitsB ls (ps.drop (k + 1)))) := fitsB_step ls ps k p hp
      have HSF : Hid (Calls Tryd.prog 72 #[.slice la ls.length lcap, .slice (some ⟨b, off + k * 3, none⟩) (n - k) (cap - k)] wr fun e w' => e = .returned (.tuple #[.bool (startB ls p.tick 0 (ps.drop k)), .nilIface]) ∧ Below wr.heap.size wr w') := by
        have := startFits_any la lcap ls b (off + k * 3) (cap - k) p.tick (ps.drop k) wr (HL.out.1.below hb) HL.out.2.1 HL.out.2.2.1 HL.out.2.2.2 ((HP.out.1.below hb).drop k) (HP.out.2.run k p hp) (fun q hq => by
          rw [List.getElem?_drop, Nat.add_zero, hp] at hq
          cases hq; rfl) (by simp; have := HN.out; omega) (by have := HM.out; omega)
        rw [List.length_drop, HN.out] at this
        exact this
      clear hst hb hp
      generalize startB ls p.tick 0 (ps.drop k) = V at *
      cases V with
      | true =>
        have HNext : Hid (fitsB ls (ps.drop (k + 1)) = R) := by
          show _ = _
          rw [← HS.out, HStep.out, Bool.true_and]
        go_wp2_with fail
        refine HSF.out.mono ?_
        rintro e w5 ⟨rfl, hb5⟩
        have HB5 : Hid (Below w.heap.size w w5) := HB.out.trans (hb5.mono HB.out.size)
        clear hb5
        go_wp2_with fail
        go_roundw
        case rel => exact ⟨k + 1, by omega, by go_num, HNext.out, HB5.out⟩
        case measure => simp [intOf]; omega
      | false =>
        have HNext : Hid (R = false) := by
          show _ = _
          rw [← HS.out, HStep.out, Bool.false_and]
        go_wp2_with fail
        refine HSF.out.mono ?_
        rintro e w5 ⟨rfl, hb5⟩
        have HB5 : Hid (Below w.heap.size w w5) := HB.out.trans (hb5.mono HB.out.size)
        clear hb5
        go_wp2_with fail
        go_ret2
        obtain rfl := HNext.out
        exact ⟨rfl, HB5.out⟩
    · have HNext : Hid (R = true) := by
        show _ = _
        rw [← HS.out, List.drop_eq_nil_of_le (by rw [HN.out]; omega)]
        rfl
      clear hst
      go_wp2
      go_ret2
      obtain rfl := HNext.out
      exact ⟨rfl, HB.out⟩
end Go.Proofs.YtlknljbceppedaaDoor
