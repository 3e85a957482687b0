/- Packets that are not right: the first that is amiss; the errors of Check, and the document's answer's. -/
import Derived.Test.YtolbmkniafkeaaaDoorCPkts4
import Derived.Test.YtolbmkniafkeaaaDoorCAllErrs
namespace Go.Proofs.YtolbmkniafkeaaaDoor
open Go.RowKit

theorem Errs9.bo {w : World} {ad : Nat → Addr} (h : Errs9 w ad) : ErrsBO w ad := ⟨h.c1, h.c4⟩

/-- What is wrong with packets, by the document: a number and a place. -/
def PksFault (ps : List Pk) (c p : Int) : Prop :=
  (300 < ps.length ∧ c = 2 ∧ p = -1) ∨
  (ps.length ≤ 300 ∧ ∃ (j : Nat) (q : Pk) (k : Nat), ps[j]? = some q ∧ goodTo ps j ∧ PkBad ps j q k ∧ c = k + 1 ∧ p = j) ∨
  (OkPks ps ∧ c = 0 ∧ p = -1)
theorem pksFault_is (ps : List Pk) : ∃ c p, PksFault ps c p := by
  rcases pks_split ps with h | h | ⟨h, j, q, k, h1, h2, h3⟩
  · exact ⟨0, -1, .inr (.inr ⟨h, rfl, rfl⟩)⟩
  · exact ⟨2, -1, .inl ⟨h, rfl, rfl⟩⟩
  · exact ⟨k + 1, j, .inr (.inl ⟨h, j, q, k, h1, h2, h3, rfl, rfl⟩)⟩
theorem PksFault.num {ps : List Pk} {c p : Int} (h : PksFault ps c p) : c = 0 ∧ p = -1 ∧ OkPks ps ∨ 0 < c := by
  rcases h with ⟨_, h, _⟩ | ⟨_, j, q, k, _, _, _, h, _⟩ | ⟨h, h1, h2⟩
  · exact .inr (by omega)
  · exact .inr (by omega)
  · exact .inl ⟨h1, h2, h⟩

theorem pfault_is (a : Option Addr) (cap : Nat) (ps : List Pk) (w : World) (hl : LiesP w a ps) (hcap : ps.length ≤ cap) (hm : cap ≤ maxLen) (c p : Int) (h : PksFault ps c p) :
    Calls Tryd.prog 14 #[.slice a ps.length cap] w fun e w' => e = .returned (.agg #[.int .i64 c, .int .i64 p]) ∧ Below w.heap.size w w' := by
  rcases h with ⟨h, rfl, rfl⟩ | ⟨h, j, q, k, h1, h2, h3, rfl, rfl⟩ | ⟨h, rfl, rfl⟩
  · exact pfault_long a ps.length cap w (Nat.le_trans hcap hm) h
  · have hjl : j ≤ ps.length := by
      rcases Nat.lt_or_ge j ps.length with h' | h'
      · omega
      · simp [List.getElem?_eq_none h'] at h1
    exact pfault_all a cap ps w hl h j hjl h2 _ _ (.inr ⟨q, k, h1, h3, rfl, rfl⟩)
  · exact pfault_all a cap ps w hl h.few ps.length (Nat.le_refl _) (fun i q _ hq => h.each i q hq) 0 (-1) (.inl ⟨rfl, rfl, rfl⟩)

theorem pcheck_is (a : Option Addr) (cap : Nat) (ps : List Pk) (w : World) (ad : Nat → Addr) (he : Errs9 w ad) (hl : LiesP w a ps) (hcap : ps.length ≤ cap) (hm : cap ≤ maxLen) (c p : Int) (h : PksFault ps c p) :
    Calls Tryd.prog 46 #[.slice a ps.length cap] w fun e w' => ∃ E, e = .returned E ∧ ErrIs w' E c p ∧ Below w.heap.size w w' := by
  rcases h with ⟨h, rfl, rfl⟩ | ⟨h, j, q, k, h1, h2, h3, rfl, rfl⟩ | ⟨h, rfl, rfl⟩
  · refine (pcheck_long a ps.length cap w ad he.bo (Nat.le_trans hcap hm) h).mono ?_
    rintro e w' ⟨rfl, rfl⟩
    exact ⟨_, rfl, errIs_sent he 1 (by decide), Below.refl _ _⟩
  · refine (pcheck_bad a cap ps w ad he.bo hl h j q h1 h2 k h3).mono ?_
    rintro e w' ⟨hb, B, rfl, -, -, c0, c1⟩
    have hk9 : k < 9 := by rcases h3 with ⟨-, rfl⟩ | ⟨-, -, rfl⟩ <;> omega
    exact ⟨_, rfl, ⟨codeIs_fault (he.below hb) k hk9 j B c0 c1, fun h => by omega, fun _ => ⟨_, _, rfl⟩⟩, hb⟩
  · refine (pcheck_ok a cap ps w hl h).mono ?_
    rintro e w' ⟨rfl, hb⟩
    exact ⟨_, rfl, errIs_nil _, hb⟩
end Go.Proofs.YtolbmkniafkeaaaDoor
