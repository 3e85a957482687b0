/- Package rank's Run and Deadlines where something is wrong. -/
import Derived.Test.YtepnfioldbhffabDoorCRankRun
namespace Go.Proofs.YtepnfioldbhffabDoor
open Go.RowKit

theorem linkCheck_bad (a : Option Addr) (cap : Nat) (ps : List Pk) (per : Int) (w : World) (ad : Nat → Addr) (he : ErrsBO w ad) (hl : LiesP w a ps) (hcap : ps.length ≤ cap) (hm : cap ≤ maxLen) (hno : ¬ (OkPks ps ∧ 1 ≤ per ∧ per ≤ 1000)) :
    Calls Tryd.prog 52 #[.slice a ps.length cap, .int .i64 per] w fun e w' => ∃ ty v, e = .returned (.iface ty v) ∧ Below w.heap.size w w' := by
  rcases pks_split ps with ho | ho | ⟨h300, j, p, k, hj, hg, hbad⟩
  · refine (linkCheck_per a cap ps per w ad he hl ho ?_).mono ?_
    · rcases Int.lt_or_le per 1 with h | h
      · exact .inl h
      · refine .inr (Int.lt_of_not_ge fun h' => hno ⟨ho, h, h'⟩)
    · rintro e w' ⟨rfl, hb⟩
      exact ⟨_, _, rfl, hb⟩
  · refine linkCheck_err (R := fun _ _ w' => Below w.heap.size w w') a ps.length cap per w ((pcheck_long a ps.length cap w ad he (Nat.le_trans hcap hm) ho).mono ?_)
    rintro e w' ⟨rfl, rfl⟩
    exact ⟨_, _, rfl, Below.refl _ _⟩
  · refine linkCheck_err (R := fun _ _ w' => Below w.heap.size w w') a ps.length cap per w ((pcheck_bad a cap ps w ad he hl h300 j p hj hg k hbad).mono ?_)
    rintro e w' ⟨hb, B, rfl, -⟩
    exact ⟨_, _, rfl, hb⟩
theorem checkUpTo_no (a : Option Addr) (cap : Nat) (ns : List Int) (hi : Int) (w : World) (ad : Nat → Addr) (he : NumErrs w ad) (hl : LiesN w a ns) (hno : ¬ NumsOk 0 hi ns) :
    Calls Tryd.prog 57 #[.slice a ns.length cap, .int .i64 hi] w fun e w' => ∃ ty v, e = .returned (.iface ty v) ∧ Below w.heap.size w w' := by
  obtain ⟨c, hc⟩ := numsFault_is 0 hi ns
  have h0 : 0 < c := by
    rcases hc with ⟨rfl, -⟩ | ⟨rfl, -⟩ | ⟨-, h⟩
    · decide
    · decide
    · exact absurd h hno
  refine (checkUpTo_bad a cap ns hi w ad he hl c hc h0).mono ?_
  rintro e w' ⟨rfl, hb⟩
  cases c with
  | zero => omega
  | succ c => exact ⟨_, _, rfl, hb⟩
theorem rankRun_bad (a : Option Addr) (cap : Nat) (ps : List Pk) (per : Int) (na : Option Addr) (ncap : Nat) (ns : List Int) (w : World) (ad : Nat → Addr) (he : ErrsBO w ad) (he2 : NumErrs w ad) (hl : LiesP w a ps) (hcap : ps.length ≤ cap) (hm : cap ≤ maxLen) (hn : LiesN w na ns) (hno : ¬ (OkPks ps ∧ 1 ≤ per ∧ per ≤ 1000 ∧ NumsOk 0 100 ns)) :
    Calls Tryd.prog 35 #[.slice a ps.length cap, .int .i64 per, .slice na ns.length ncap] w fun e w' => ∃ ty v, e = .returned (.tuple #[.slice none 0 0, .iface ty v]) ∧ Below w.heap.size w w' := by
  by_cases hok : OkPks ps ∧ 1 ≤ per ∧ per ≤ 1000
  · refine rankRun_err2 (R := fun _ _ w' => Below w.heap.size w w') a _ cap per na _ ncap w (fun W hB => linkCheck_ok a cap ps per W (hl.below hB.below) hok.1 hok.2.1 hok.2.2) (fun W hB => (checkUpTo_no na ncap ns 100 W ad (he2.below hB.below) (hn.below hB.below) (fun h => hno ⟨hok.1, hok.2.1, hok.2.2, h⟩)).mono ?_)
    rintro e w' ⟨ty, v, rfl, hb⟩
    exact ⟨ty, v, rfl, hB.below.trans (hb.mono hB.below.size)⟩
  · refine rankRun_err1 (R := fun _ _ w' => Below w.heap.size w w') a _ cap per na _ ncap w (fun W hB => (linkCheck_bad a cap ps per W ad (he.below hB.below) (hl.below hB.below) hcap hm hok).mono ?_)
    rintro e w' ⟨ty, v, rfl, hb⟩
    exact ⟨ty, v, rfl, hB.below.trans (hb.mono hB.below.size)⟩
theorem rankDue_bad (a : Option Addr) (cap : Nat) (ps : List Pk) (per : Int) (na : Option Addr) (ncap : Nat) (ns : List Int) (w : World) (ad : Nat → Addr) (he : ErrsBO w ad) (he2 : NumErrs w ad) (hl : LiesP w a ps) (hcap : ps.length ≤ cap) (hm : cap ≤ maxLen) (hn : LiesN w na ns) (hno : ¬ (OkPks ps ∧ 1 ≤ per ∧ per ≤ 1000 ∧ NumsOk 0 1099511627776 ns)) :
    Calls Tryd.prog 34 #[.slice a ps.length cap, .int .i64 per, .slice na ns.length ncap] w fun e w' => ∃ ty v, e = .returned (.tuple #[.slice none 0 0, .iface ty v]) ∧ Below w.heap.size w w' := by
  by_cases hok : OkPks ps ∧ 1 ≤ per ∧ per ≤ 1000
  · refine rankDue_err2 (R := fun _ _ w' => Below w.heap.size w w') a _ cap per na _ ncap w (fun W hB => linkCheck_ok a cap ps per W (hl.below hB.below) hok.1 hok.2.1 hok.2.2) (fun W hB => (checkUpTo_no na ncap ns 1099511627776 W ad (he2.below hB.below) (hn.below hB.below) (fun h => hno ⟨hok.1, hok.2.1, hok.2.2, h⟩)).mono ?_)
    rintro e w' ⟨ty, v, rfl, hb⟩
    exact ⟨ty, v, rfl, hB.below.trans (hb.mono hB.below.size)⟩
  · refine rankDue_err1 (R := fun _ _ w' => Below w.heap.size w w') a _ cap per na _ ncap w (fun W hB => (linkCheck_bad a cap ps per W ad (he.below hB.below) (hl.below hB.below) hcap hm hok).mono ?_)
    rintro e w' ⟨ty, v, rfl, hb⟩
    exact ⟨ty, v, rfl, hB.below.trans (hb.mono hB.below.size)⟩
end Go.Proofs.YtepnfioldbhffabDoor
