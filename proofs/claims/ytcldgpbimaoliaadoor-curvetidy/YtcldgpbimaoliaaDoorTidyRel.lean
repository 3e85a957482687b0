/- CurveTidy: what the program's Sum tells, and the document's answer. -/
import Derived.Test.YtcldgpbimaoliaaDoorSumOf
import Derived.Test.YtcldgpbimaoliaaDoorPlainLeast
import Derived.Test.YtcldgpbimaoliaaDoorSame1
import Derived.Test.YtcldgpbimaoliaaDoorAt2
namespace Go.Proofs.YtcldgpbimaoliaaDoor
open Go.RowKit

/-- What is left of lines. -/
def TidyIs (P L : List (Int × Int)) : Prop := ∃ l, l.Perm P ∧ SortedL l ∧ L = (lowT [] l).reverse
theorem kept_tidy {P L R : List (Int × Int)} (h : KeptTo P P.length R) (ht : TidyIs P L) : R = L := by
  obtain ⟨l, hp, hs, rfl⟩ := ht
  exact kept_low h hp hs
theorem tidyIs_len {P L : List (Int × Int)} (ht : TidyIs P L) : L.length ≤ P.length := by
  obtain ⟨l, hp, hs, rfl⟩ := ht
  rw [List.length_reverse]
  exact low_len hp
/-- What two curves are together: an error's number, and lines. -/
def SumRel (la lb : List (Int × Int)) (code : Int) (L : List (Int × Int)) : Prop :=
  (¬ okAll (eachL la lb) ∧ code = 2 ∧ L = []) ∨
  (okAll (eachL la lb) ∧ ∃ R, TidyIs (eachL la lb) R ∧ ((6 < R.length ∧ code = 3 ∧ L = []) ∨ (R.length ≤ 6 ∧ code = 0 ∧ L = R)))
theorem sumRel_len {la lb L : List (Int × Int)} {code : Int} (h : SumRel la lb code L) : L.length ≤ 6 := by
  rcases h with ⟨-, -, rfl⟩ | ⟨-, R, -, ⟨-, -, rfl⟩ | ⟨h, -, rfl⟩⟩
  · exact Nat.zero_le _
  · exact Nat.zero_le _
  · exact h
theorem sumRel_num {la lb L : List (Int × Int)} {code : Int} (h : SumRel la lb code L) : code = 2 ∨ code = 3 ∨ code = 0 := by
  rcases h with ⟨-, h, -⟩ | ⟨-, R, -, ⟨-, h, -⟩ | ⟨-, h, -⟩⟩
  · exact .inl h
  · exact .inr (.inl h)
  · exact .inr (.inr h)

/-- The program's Sum on two curves. -/
theorem sum_is (a1 a2 : Option Addr) (cap1 cap2 : Nat) (la lb : List (Int × Int)) (w : World) (ad : Nat → Addr) (he : Errs9 w ad) (h1 : Lies w a1 la) (h2 : Lies w a2 lb) (k1 : okCurve la) (k2 : okCurve lb) :
    Calls Tryd.prog 28 #[.slice a1 la.length cap1, .slice a2 lb.length cap2] w fun e w' => ∃ v E code L, e = .returned (.tuple #[v, E]) ∧ CodeIs w' E code (-1) ∧ OwnL w' w.heap.size v L ∧ SumRel la lb code L ∧ Below w.heap.size w w' := by
  rcases firstBad (eachL la lb) with h | ⟨j, hj, hn, hb⟩
  · refine (sum_ok a1 a2 cap1 cap2 la lb w (ad 2) he.two.shape h1 h2 k1 k2 h).mono ?_
    rintro e w' ⟨ls', hp, hs, hb, ⟨h6, rfl⟩ | ⟨h6, v, rfl, ho⟩⟩
    · exact ⟨_, _, 3, [], rfl, codeIs_sent (he.below hb) 2 (by decide), World.ownsRow_nil _ _ _ _, .inr ⟨h, _, ⟨ls', hp, hs, rfl⟩, .inl ⟨by rw [List.length_reverse]; exact h6, rfl, rfl⟩⟩, hb⟩
    · exact ⟨v, _, 0, _, rfl, codeIs_nil w', ho, .inr ⟨h, _, ⟨ls', hp, hs, rfl⟩, .inr ⟨by rw [List.length_reverse]; exact h6, rfl, rfl⟩⟩, hb⟩
  · refine (sum_bound a1 a2 cap1 cap2 la lb w (ad 1) he.two.bound h1 h2 k1 k2 j hj hn hb).mono ?_
    rintro e w' ⟨rfl, hbw⟩
    refine ⟨_, _, 2, [], rfl, codeIs_sent (he.below hbw) 1 (by decide), World.ownsRow_nil _ _ _ _, .inl ⟨fun hok => ?_, rfl, rfl⟩, hbw⟩
    obtain ⟨⟨x, y⟩, hp, hm⟩ := get_some _ j hj
    have := hb x y hp
    rw [hok _ hm] at this
    cases this
/-- The document's answer is the program's. -/
theorem sumOf_is {la lb L : List (Int × Int)} {code : Int} {w w' : World} {e : Ending} (h : SumOfIs la lb w w' e) (hr : SumRel la lb code L) : ∃ v, e = .returned (.tuple #[v, .int .i64 code]) ∧ OwnL w' w.heap.size v L ∧ Below w.heap.size w w' := by
  obtain ⟨hb, ⟨hn, rfl⟩ | ⟨hok, R, hk, h⟩⟩ := h
  · rcases hr with ⟨-, rfl, rfl⟩ | ⟨h, -⟩
    · exact ⟨_, rfl, World.ownsRow_nil _ _ _ _, hb⟩
    · exact absurd h hn
  · rcases hr with ⟨h, -⟩ | ⟨-, R', ht, h'⟩
    · exact absurd hok h
    · obtain rfl := kept_tidy hk ht
      rcases h with ⟨h6, rfl⟩ | ⟨h6, v, rfl, ho⟩
      · rcases h' with ⟨-, rfl, rfl⟩ | ⟨h6', -⟩
        · exact ⟨_, rfl, World.ownsRow_nil _ _ _ _, hb⟩
        · omega
      · rcases h' with ⟨h6', -⟩ | ⟨-, rfl, rfl⟩
        · omega
        · exact ⟨v, rfl, ho, hb⟩
/-- Tidy and Sum tell the errors of Check. -/
theorem tidy_fault (a : Option Addr) (cap : Nat) (ls : List (Int × Int)) (w : World) (ad : Nat → Addr) (he : Errs9 w ad) (hl : Lies w a ls) (hcap : ls.length ≤ cap) (hm : cap ≤ maxLen) (c p : Int) (h : FaultIs ls c p) (hc : c ≠ 0) :
    Calls Tryd.prog 27 #[.slice a ls.length cap] w fun e w' => ∃ ty q, e = .returned (.tuple #[.slice none 0 0, .iface ty q]) ∧ CodeIs w' (.iface ty q) c p ∧ Below w.heap.size w w' := by
  refine tidy_err (R := fun ty q w' => CodeIs w' (.iface ty q) c p ∧ Below w.heap.size w w') a ls.length cap w ((check_is a cap ls w ad he hl hcap hm c p h).mono ?_)
  rintro e w' ⟨E, rfl, hE, hb⟩
  obtain ⟨ty, q, rfl⟩ := hE.some_ hc
  exact ⟨ty, q, rfl, hE.code, hb⟩
theorem sum_fault1 (a : Option Addr) (cap : Nat) (ls : List (Int × Int)) (v2 : Value) (w : World) (ad : Nat → Addr) (he : Errs9 w ad) (hl : Lies w a ls) (hcap : ls.length ≤ cap) (hm : cap ≤ maxLen) (c p : Int) (h : FaultIs ls c p) (hc : c ≠ 0) :
    Calls Tryd.prog 28 #[.slice a ls.length cap, v2] w fun e w' => ∃ ty q, e = .returned (.tuple #[.slice none 0 0, .iface ty q]) ∧ CodeIs w' (.iface ty q) c p ∧ Below w.heap.size w w' := by
  refine sum_err1 (R := fun ty q w' => CodeIs w' (.iface ty q) c p ∧ Below w.heap.size w w') a ls.length cap v2 w ((check_is a cap ls w ad he hl hcap hm c p h).mono ?_)
  rintro e w' ⟨E, rfl, hE, hb⟩
  obtain ⟨ty, q, rfl⟩ := hE.some_ hc
  exact ⟨ty, q, rfl, hE.code, hb⟩
theorem sum_fault2 (a1 : Option Addr) (cap1 : Nat) (la : List (Int × Int)) (a : Option Addr) (cap : Nat) (ls : List (Int × Int)) (w : World) (ad : Nat → Addr) (he : Errs9 w ad) (h1 : Lies w a1 la) (k1 : okCurve la) (hl : Lies w a ls) (hcap : ls.length ≤ cap) (hm : cap ≤ maxLen) (c p : Int) (h : FaultIs ls c p) (hc : c ≠ 0) :
    Calls Tryd.prog 28 #[.slice a1 la.length cap1, .slice a ls.length cap] w fun e w' => ∃ ty q, e = .returned (.tuple #[.slice none 0 0, .iface ty q]) ∧ CodeIs w' (.iface ty q) c p ∧ Below w.heap.size w w' := by
  refine sum_err2 (R := fun ty q w' => CodeIs w' (.iface ty q) c p ∧ Below w.heap.size w w') a1 cap1 la a ls.length cap w h1 k1 fun w1 hw1 => (check_is a cap ls w1 ad (he.below hw1) (hl.below hw1) hcap hm c p h).mono ?_
  rintro e w' ⟨E, rfl, hE, hb⟩
  obtain ⟨ty, q, rfl⟩ := hE.some_ hc
  exact ⟨ty, q, rfl, hE.code, hw1.trans (hb.mono hw1.size)⟩
/-- Two blocks of two cells, one behind the other. -/
structure Four (n : Nat) (w : World) (x y x' y' : Value) : Prop where
  c0 : w.cell? ⟨n, 0, none⟩ = some x
  c1 : w.cell? ⟨n, 1, none⟩ = some y
  d0 : w.cell? ⟨n + 1, 0, none⟩ = some x'
  d1 : w.cell? ⟨n + 1, 1, none⟩ = some y'
  f0 : w.frozen? ⟨n + 1, 0, none⟩ = false
  f1 : w.frozen? ⟨n + 1, 1, none⟩ = false
theorem four_new (w : World) (x y : Value) (t : TypeId) : Four w.heap.size ((w.alloc (.cells #[x, y] t)).alloc (.cells #[x, y] t)) x y x y := by
  have e : (w.alloc (.cells #[x, y] t)).heap.size = w.heap.size + 1 := by simp
  have h1 := two_new w x y t
  have h2 := two_new (w.alloc (.cells #[x, y] t)) x y t
  have h3 := h1.later ((Below.refl _ _).alloc (Nat.le_refl _) (.cells #[x, y] t))
  obtain ⟨a, b, c, d⟩ := h2
  rw [e] at a b c d
  exact ⟨h3.c0, h3.c1, a, b, c, d⟩
theorem Four.later {n : Nat} {w w' : World} {x y x' y' : Value} (h : Four n w x y x' y') (hb : Below w.heap.size w w') : Four n w' x y x' y' :=
  have l := cell_lt h.d0
  ⟨cell_later hb h.c0, cell_later hb h.c1, cell_later hb h.d0, cell_later hb h.d1, by rw [hb.frozen (p := ⟨n + 1, 0, none⟩) l]; exact h.f0, by rw [hb.frozen (p := ⟨n + 1, 1, none⟩) l]; exact h.f1⟩
theorem two_set {w : World} {n : Nat} {x y u v : Value} (h0 : w.cell? ⟨n, 0, none⟩ = some x) (h1 : w.cell? ⟨n, 1, none⟩ = some y) :
    ((w.setCell ⟨n, 0, none⟩ u).setCell ⟨n, 1, none⟩ v).cell? ⟨n, 0, none⟩ = some u ∧ ((w.setCell ⟨n, 0, none⟩ u).setCell ⟨n, 1, none⟩ v).cell? ⟨n, 1, none⟩ = some v := by
  have hne : (⟨n, 1, none⟩ : Addr) ≠ ⟨n, 0, none⟩ := fun e => by cases e
  refine ⟨by rw [World.cell?_setCell_other (h := hne)]; exact World.cell?_setCell_same _ _ _ h0, World.cell?_setCell_same _ _ _ (u := y) ?_⟩
  rw [World.cell?_setCell_other (h := fun e => hne e.symm)]; exact h1
end Go.Proofs.YtcldgpbimaoliaaDoor
