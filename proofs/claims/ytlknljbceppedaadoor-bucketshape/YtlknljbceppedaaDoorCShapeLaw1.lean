/- Shape and Fits as the laws call them: over own copies. -/
import Derived.Test.YtlknljbceppedaaDoorCAllShapes
import Derived.Test.YtlknljbceppedaaDoorCSamePkts
import Derived.Test.YtlknljbceppedaaDoorCFilled
import Derived.Test.YtlknljbceppedaaDoorCWhen1
namespace Go.Proofs.YtlknljbceppedaaDoor
open Go.RowKit

theorem foldl_none (l : List Pk) : l.foldl (fun (s : Option Sh) p => s.bind fun s => shStep s p) none = none := by
  induction l with
  | nil => rfl
  | cons a r ih => exact ih
theorem shape_stuck {ls : List (Int × Int)} {ps : List Pk} {j : Nat} {p : Pk} {s : Sh} (h1 : ps[j]? = some p) (h2 : shape ls (ps.take j) = some s) (h3 : shStep s p = none) : shape ls ps = none := by
  have e : ps = ps.take j ++ p :: ps.drop (j + 1) := by rw [← drop_cons h1, List.take_append_drop]
  have h2' : (ps.take j).foldl (fun (s : Option Sh) p => s.bind fun s => shStep s p) (some ⟨ls.map bkOf, 0, []⟩) = some s := h2
  rw [e]
  unfold shape
  rw [List.foldl_append, h2', List.foldl_cons]
  show List.foldl _ (shStep s p) _ = none
  rw [h3]
  exact foldl_none _

theorem shape_yes (la : Option Addr) (lcap : Nat) (ls : List (Int × Int)) (pa : Option Addr) (cap : Nat) (ps : List Pk) (s : Sh) (w : World) (ad : Nat → Addr) (he : Errs4 w ad) (hl : Lies w la ls) (hk : okCurve ls) (hp : LiesP w pa ps) (ho : OkPks ps) (hs : shape ls ps = some s) :
    Calls Tryd.prog 39 #[.slice la ls.length lcap, .slice pa ps.length cap] w fun e w' => ∃ D, e = .returned (.tuple #[.slice (some ⟨D, 0, none⟩) s.out.length s.out.length, .nilIface]) ∧ LiesP w' (some ⟨D, 0, none⟩) s.out ∧ Below w.heap.size w w' := by
  refine (shape_any la lcap ls pa cap ps w ad he hl hk hp ho).mono ?_
  rintro e w' ⟨hb, ⟨s', D, h1, h2, h3, h4⟩ | ⟨j, p, s', F, h1, h2, h3, -⟩⟩
  · obtain rfl : s = s' := Option.some.inj (hs.symm.trans h1)
    have hlen := (shape_good hk ps s ho hs).len
    exact ⟨D, by rw [hlen]; exact h2, h4, hb⟩
  · rw [shape_stuck h1 h2 h3] at hs; cases hs

theorem errs4_two {w : World} {ad : Nat → Addr} (h : Errs4 w ad) : Errs2 w (ad 1) (ad 2) := ⟨h.c1, h.c2⟩

theorem checkBoth_bad (la : Option Addr) (lcap : Nat) (ls : List (Int × Int)) (pa : Option Addr) (cap : Nat) (ps : List Pk) (w : World) (ad : Nat → Addr) (he : Errs4 w ad) (hl : Lies w la ls) (hlc : ls.length ≤ lcap) (hlm : lcap ≤ maxLen) (hp : LiesP w pa ps) (hcap : ps.length ≤ cap) (hm : cap ≤ maxLen) (hno : ¬ (OkPks ps ∧ okCurve ls)) :
    Calls Tryd.prog 69 #[.slice la ls.length lcap, .slice pa ps.length cap] w fun e w' => ∃ ty p, e = .returned (.iface ty p) ∧ Below w.heap.size w w' := by
  rcases pks_split ps with ho | ho | ⟨h300, j, p, k, hj, hg, hbad⟩
  · have hk : ¬ okCurve ls := fun h => hno ⟨ho, h⟩
    refine (checkBoth_lerr (R := fun _ _ w' => Below w.heap.size w w') la lcap ls.length pa cap ps w hp ho (fun w' hb => ?_))
    rcases check_any la lcap ls w' _ _ (errs4_two (he.below hb)) (hl.below hb) hlc hlm with ⟨h, -⟩ | ⟨-, h⟩
    · exact absurd h hk
    · refine h.mono ?_
      rintro e w'' ⟨ty, p, rfl, hb'⟩
      exact ⟨ty, p, rfl, hb.trans (hb'.mono hb.size)⟩
  · refine checkBoth_perr (R := fun _ _ w' => Below w.heap.size w w') _ pa cap ps.length w ((pcheck_long pa ps.length cap w ad he.bo (Nat.le_trans hcap hm) ho).mono ?_)
    rintro e w' ⟨rfl, rfl⟩
    exact ⟨_, _, rfl, Below.refl _ _⟩
  · refine checkBoth_perr (R := fun _ _ w' => Below w.heap.size w w') _ pa cap ps.length w ((pcheck_bad pa cap ps w ad he.bo hp h300 j p hj hg k hbad).mono ?_)
    rintro e w' ⟨hb, B, rfl, -⟩
    exact ⟨_, _, rfl, hb⟩

theorem shape_no (la : Option Addr) (lcap : Nat) (ls : List (Int × Int)) (pa : Option Addr) (cap : Nat) (ps : List Pk) (w : World) (ad : Nat → Addr) (he : Errs4 w ad) (hl : Lies w la ls) (hlc : ls.length ≤ lcap) (hlm : lcap ≤ maxLen) (hp : LiesP w pa ps) (hcap : ps.length ≤ cap) (hm : cap ≤ maxLen) (hno : ¬ (OkPks ps ∧ okCurve ls) ∨ shape ls ps = none) :
    Calls Tryd.prog 39 #[.slice la ls.length lcap, .slice pa ps.length cap] w fun e w' => ∃ ty p, e = .returned (.tuple #[.slice none 0 0, .iface ty p]) ∧ Below w.heap.size w w' := by
  by_cases hok : OkPks ps ∧ okCurve ls
  · have hs : shape ls ps = none := by rcases hno with h | h; exact absurd hok h; exact h
    refine (shape_any la lcap ls pa cap ps w ad he hl hok.2 hp hok.1).mono ?_
    rintro e w' ⟨hb, ⟨s', D, h1, -⟩ | ⟨j, p, s', F, h1, h2, h3, rfl, -⟩⟩
    · rw [hs] at h1; cases h1
    · exact ⟨_, _, rfl, hb⟩
  · exact shape_err (R := fun _ _ w' => Below w.heap.size w w') la lcap ls.length pa cap ps.length w (checkBoth_bad la lcap ls pa cap ps w ad he hl hlc hlm hp hcap hm hok)

theorem ownLines_at (a : Option Addr) (cap : Nat) (ls : List (Int × Int)) (w0 w : World) (hB : Below w0.heap.size w0 w) (hl : Lies w0 a ls) (hn : ls.length ≤ 1000) (ha : a = none → ls = [] ∧ cap = 0) :
    Calls Tryd.prog 21 #[.slice a ls.length cap] w fun e w' => ∃ a' cap', e = .returned (.slice a' ls.length cap') ∧ Lies w' a' ls ∧ ls.length ≤ cap' ∧ cap' ≤ maxLen ∧ Below w.heap.size w w' ∧ Below w0.heap.size w0 w' := by
  refine (ownLines_from a cap ls w0 w hB hl hn ha).mono ?_
  rintro e w' ⟨v, rfl, ho, hb, hb0⟩
  obtain ⟨a', cap', rfl, h1, h2, h3⟩ := ho.open
  exact ⟨a', cap', rfl, h3, h1, h2, hb, hb0⟩

/-- What fits is what leaves at once. -/
theorem fits_same {ls : List (Int × Int)} {ps : List Pk} {s : Sh} (hk : okCurve ls) (ho : OkPks ps) (hs : shape ls ps = some s) : fitsB ls ps = sameB s.out ps := by
  have hg := shape_good hk ps s ho hs
  cases hf : fitsB ls ps with
  | true =>
    obtain ⟨s', h1, h2⟩ := shape_once hk ps ho hf
    obtain rfl : s = s' := Option.some.inj (hs.symm.trans h1)
    exact ((sameB_iff _ _).2 h2).symm
  | false =>
    cases hsm : sameB s.out ps with
    | false => rfl
    | true =>
      have := (sameB_iff _ _).1 hsm
      have h := hg.fits
      rw [this, hf] at h
      cases h
end Go.Proofs.YtlknljbceppedaaDoor
