/- Walks: package fair's check, where something is wrong. -/
import Derived.Test.YtolbmkniafkeaaaDoorCFair1
import Derived.Test.YtolbmkniafkeaaaDoorCRankBad
namespace Go.Proofs.YtolbmkniafkeaaaDoor
open Go.RowKit

theorem fairCheck_bad (a : Option Addr) (cap : Nat) (ps : List Pk) (per : Int) (na : Option Addr) (ncap : Nat) (ns : List Int) (w : World) (ad : Nat → Addr) (he : ErrsBO w ad) (he2 : NumErrs w ad) (hl : LiesP w a ps) (hcap : ps.length ≤ cap) (hm : cap ≤ maxLen) (hn : LiesN w na ns) (hno : ¬ (OkPks ps ∧ 1 ≤ per ∧ per ≤ 1000 ∧ WtsAll ns)) :
    Calls Tryd.prog 41 #[.slice a ps.length cap, .int .i64 per, .slice na ns.length ncap] w fun e w' => ∃ ty v, e = .returned (.iface ty v) ∧ Below w.heap.size w w' := by
  by_cases hok : OkPks ps ∧ 1 ≤ per ∧ per ≤ 1000
  · refine fairCheck_err2 (R := fun _ _ w' => Below w.heap.size w w') a _ cap per na _ ncap w (linkCheck_ok a cap ps per w hl hok.1 hok.2.1 hok.2.2) (fun W hb => ?_)
    obtain ⟨c, hc⟩ := wtsFault_is ns
    have h0 : 0 < c := by
      rcases hc with ⟨rfl, -⟩ | ⟨rfl, -⟩ | ⟨-, h⟩
      · decide
      · decide
      · exact absurd ⟨hok.1, hok.2.1, hok.2.2, h⟩ hno
    refine (checkWeights_bad na ncap ns W ad (he2.below hb) (hn.below hb) c hc h0).mono ?_
    rintro e w' ⟨rfl, rfl⟩
    cases c with
    | zero => omega
    | succ c => exact ⟨_, _, rfl, hb⟩
  · exact fairCheck_err1 (R := fun _ _ w' => Below w.heap.size w w') a _ cap per na _ ncap w (linkCheck_bad a cap ps per w ad he hl hcap hm hok)
end Go.Proofs.YtolbmkniafkeaaaDoor
