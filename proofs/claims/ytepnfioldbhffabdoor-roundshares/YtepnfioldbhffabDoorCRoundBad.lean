/- Walks: package round's Run, where something is wrong. -/
import Derived.Test.YtepnfioldbhffabDoorCRound1
import Derived.Test.YtepnfioldbhffabDoorCRankBad
namespace Go.Proofs.YtepnfioldbhffabDoor
open Go.RowKit

theorem roundRun_bad (a : Option Addr) (cap : Nat) (ps : List Pk) (per : Int) (na : Option Addr) (ncap : Nat) (ns : List Int) (w : World) (ad : Nat → Addr) (he : ErrsBO w ad) (he2 : NumErrs w ad) (hl : LiesP w a ps) (hcap : ps.length ≤ cap) (hm : cap ≤ maxLen) (hn : LiesN w na ns) (hno : ¬ (OkPks ps ∧ 1 ≤ per ∧ per ≤ 1000 ∧ NumsOk 1 3000 ns)) :
    Calls Tryd.prog 42 #[.slice a ps.length cap, .int .i64 per, .slice na ns.length ncap] w fun e w' => ∃ ty v, e = .returned (.tuple #[.slice none 0 0, .iface ty v]) ∧ Below w.heap.size w w' := by
  by_cases hok : OkPks ps ∧ 1 ≤ per ∧ per ≤ 1000
  · refine roundRun_err2 (R := fun _ _ w' => Below w.heap.size w w') a _ cap per na _ ncap w (linkCheck_ok a cap ps per w hl hok.1 hok.2.1 hok.2.2) (fun W hb => ?_)
    obtain ⟨c, hc⟩ := numsFault_is 1 3000 ns
    have h0 : 0 < c := by
      rcases hc with ⟨rfl, -⟩ | ⟨rfl, -⟩ | ⟨-, h⟩
      · decide
      · decide
      · exact absurd ⟨hok.1, hok.2.1, hok.2.2, h⟩ hno
    refine (checkQuanta_bad na ncap ns W ad (he2.below hb) (hn.below hb) c hc h0).mono ?_
    rintro e w' ⟨rfl, rfl⟩
    cases c with
    | zero => omega
    | succ c => exact ⟨_, _, rfl, hb⟩
  · exact roundRun_err1 (R := fun _ _ w' => Below w.heap.size w w') a _ cap per na _ ncap w (linkCheck_bad a cap ps per w ad he hl hcap hm hok)
end Go.Proofs.YtepnfioldbhffabDoor
