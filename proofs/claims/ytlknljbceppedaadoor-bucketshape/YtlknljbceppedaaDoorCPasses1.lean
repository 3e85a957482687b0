/- BucketPasses: the ways on which nothing is asked; what its walk wants. -/
import Derived.Test.YtlknljbceppedaaDoorCWhen2
import Derived.Test.YtlknljbceppedaaDoorCFits2
import Derived.Test.YtlknljbceppedaaDoorCSamePkts
import Derived.Deep.AppendLies
import Derived.Deep.RegionHeldLaw
import Derived.Deep.Cut
namespace Go.Proofs.YtlknljbceppedaaDoor
open Go.RowKit

theorem cell_alloc {w : World} {a : Addr} {v : Value} (o : Obj) (h : w.cell? a = some v) : (w.alloc o).cell? a = some v := by
  rw [World.cell?_alloc_some w a o (by rw [h]; rfl)]; exact h
theorem news3 {w : World} {g : Nat} {x y z : Int} (h0 : w.cell? ⟨g, 0, none⟩ = some (.int .i64 x)) (h1 : w.cell? ⟨g, 1, none⟩ = some (.int .i64 y)) (h2 : w.cell? ⟨g, 2, none⟩ = some (.int .i64 z)) :
    ∀ j u, [Value.int .i64 x, .int .i64 y, .int .i64 z][j]? = some u → w.cell? ((⟨g, 0, none⟩ : Addr).add j) = some u := by
  intro j u h
  match j, h with
  | 0, h => simp at h; subst h; simpa [Addr.add] using h0
  | 1, h => simp at h; subst h; simpa [Addr.add] using h1
  | 2, h => simp at h; subst h; simpa [Addr.add] using h2
  | j + 3, h => simp at h
theorem ints_three (x y z : Int) : ∀ u ∈ [Value.int .i64 x, .int .i64 y, .int .i64 z], u.oneCell' = true := by
  intro u hu
  simp at hu
  rcases hu with rfl | rfl | rfl <;> rfl
theorem lies_one {w : World} {g : Nat} {x y : Int} (h0 : w.cell? ⟨g, 0, none⟩ = some (.int .i64 x)) (h1 : w.cell? ⟨g, 1, none⟩ = some (.int .i64 y)) : Lies w (some ⟨g, 0, none⟩) [(x, y)] := by
  refine .inr ⟨_, _, rfl, cell_lt h0, fun i x' y' hi => ?_⟩
  cases i with
  | zero => simp at hi; obtain ⟨rfl, rfl⟩ := hi; exact ⟨by simpa using h0, by simpa using h1⟩
  | succ i => simp at hi
theorem OwnP.snoc {w : World} {B : Nat} {v : Value} {q : List Pk} {x y z : Int} (h : w.ownsRow B 76 3 v (q.length + 1) (cellsP q ++ [.int .i64 x, .int .i64 y, .int .i64 z])) : OwnP w B v (q ++ [⟨x, y, z⟩]) := by
  unfold OwnP
  rw [cellsP_append, List.length_append]
  exact h
theorem ownsRow_but {S : Nat → Prop} {w w' : World} {base : Nat} {e : TypeId} {size : Nat} {v : Value} {n : Nat} {xs : List Value} (h : w.ownsRow base e size v n xs) (hb : But S w w') (hs : ∀ k, v.ownBlock = some k → ¬ S k) : w'.ownsRow base e size v n xs := by
  have hlt := World.ownsRow.lt h
  obtain ⟨h1, h2 | ⟨g, cap, cur, rfl, hB, hg, r⟩⟩ := h
  · exact ⟨h1, .inl h2⟩
  · exact ⟨h1, .inr ⟨g, cap, cur, rfl, hB, by rw [hb.block g (hlt g rfl).2 (hs g rfl)]; exact hg, r⟩⟩

set_option maxRecDepth 100000 in
set_option maxHeartbeats 1000000 in
theorem passes_line (a : Option Addr) (m cap : Nat) (x y : Int) (w : World) (ad : Nat → Addr) (he : Errs4 w ad) (ho : okLine x y = false) :
    Calls Tryd.prog 12 #[.agg #[.int .i64 x, .int .i64 y], .slice a m cap] w fun e w' => e = .returned (.bool true) ∧ Below w.heap.size w w' := by
  have HO : Hid (okLine x y = false) := ho
  have hb0 : Below w.heap.size w (w.alloc (.cells #[.int .i64 x, .int .i64 y] 54)) := (Below.refl _ _).alloc (Nat.le_refl _) _
  have HE : Hid (Errs4 (w.alloc (.cells #[.int .i64 x, .int .i64 y] 54)) ad) := he.below hb0
  clear ho he
  go_enter Tryd.func12, Tryd.ntmps12
  go_wp2_with fail
  refine (filled_any _ ad HE.out).mono ?_
  rintro e w1 ⟨rfl, hb⟩
  have HB : Hid (Below w.heap.size w w1) := hb0.trans (hb.mono hb0.size)
  have c0 : w1.cell? ⟨w.heap.size, 0, none⟩ = some (.int .i64 x) := cell_later hb (by simp)
  have c1 : w1.cell? ⟨w.heap.size, 1, none⟩ = some (.int .i64 y) := cell_later hb (by simp)
  clear hb hb0
  go_wp2_with fail
  refine (lineError_no x y _ HO.out).mono ?_
  rintro e w2 ⟨rfl, rfl⟩
  go_wp2_with fail
  go_ret
  exact ⟨rfl, HB.out.alloc HB.out.size _⟩

set_option maxRecDepth 100000 in
set_option maxHeartbeats 1000000 in
theorem passes_many (a : Option Addr) (m cap : Nat) (x y : Int) (w : World) (ad : Nat → Addr) (he : Errs4 w ad) (ho : okLine x y = true) (h1 : ¬ (m : Int) ≤ 60) (h2 : m ≠ 301) :
    Calls Tryd.prog 12 #[.agg #[.int .i64 x, .int .i64 y], .slice a m cap] w fun e w' => e = .returned (.bool true) ∧ Below w.heap.size w w' := by
  have HO : Hid (okLine x y = true) := ho
  have hb0 : Below w.heap.size w (w.alloc (.cells #[.int .i64 x, .int .i64 y] 54)) := (Below.refl _ _).alloc (Nat.le_refl _) _
  have HE : Hid (Errs4 (w.alloc (.cells #[.int .i64 x, .int .i64 y] 54)) ad) := he.below hb0
  have HF : Hid (∀ w', Calls Tryd.prog 38 #[.slice a m cap, .int .i64 60] w' fun e w'' => e = .returned (.bool false) ∧ w'' = w') := fun w' => fitPkts_no a m cap 60 w' h1 h2
  clear ho he h1 h2
  go_enter Tryd.func12, Tryd.ntmps12
  go_wp2_with fail
  refine (filled_any _ ad HE.out).mono ?_
  rintro e w1 ⟨rfl, hb⟩
  have HB : Hid (Below w.heap.size w w1) := hb0.trans (hb.mono hb0.size)
  have c0 : w1.cell? ⟨w.heap.size, 0, none⟩ = some (.int .i64 x) := cell_later hb (by simp)
  have c1 : w1.cell? ⟨w.heap.size, 1, none⟩ = some (.int .i64 y) := cell_later hb (by simp)
  clear hb hb0
  go_wp2_with fail
  refine (lineError_yes x y _ HO.out).mono ?_
  rintro e w2 ⟨rfl, hw2⟩
  have HB2 : Hid (Below w.heap.size w w2) := by show Below _ _ _; rw [hw2]; exact HB.out.alloc HB.out.size _
  clear hw2
  go_wp2_with fail
  refine (HF.out _).mono ?_
  rintro e w3 ⟨rfl, rfl⟩
  go_wp2_with fail
  go_ret
  exact ⟨rfl, HB2.out⟩

set_option maxRecDepth 100000 in
set_option maxHeartbeats 1000000 in
theorem passes_bad (a : Option Addr) (n cap : Nat) (x y c d : Int) (w : World) (ad : Nat → Addr) (he : Errs4 w ad) (ho : okLine x y = true) (hm : n ≤ maxLen) (hn : n ≤ 60 ∨ n = 301) (hc : 0 < c)
    (hf : ∀ w', Below w.heap.size w w' → Calls Tryd.prog 42 #[.slice a n cap] w' fun e w'' => e = .returned (.agg #[.int .i64 c, .int .i64 d]) ∧ Below w'.heap.size w' w'') :
    Calls Tryd.prog 12 #[.agg #[.int .i64 x, .int .i64 y], .slice a n cap] w fun e w' => e = .returned (.bool true) ∧ Below w.heap.size w w' := by
  have HO : Hid (okLine x y = true) := ho
  have hb0 : Below w.heap.size w (w.alloc (.cells #[.int .i64 x, .int .i64 y] 54)) := (Below.refl _ _).alloc (Nat.le_refl _) _
  have HE : Hid (Errs4 (w.alloc (.cells #[.int .i64 x, .int .i64 y] 54)) ad) := he.below hb0
  have HF : Hid (∀ w', Calls Tryd.prog 38 #[.slice a n cap, .int .i64 60] w' fun e w'' => e = .returned (.bool true) ∧ w'' = w') := fun w' => fitPkts_yes a n cap 60 w' hm (by omega)
  have HPF : Hid (∀ w', Below w.heap.size w w' → Calls Tryd.prog 42 #[.slice a n cap] w' fun e w'' => e = .returned (.agg #[.int .i64 c, .int .i64 d]) ∧ Below w'.heap.size w' w'') := hf
  have hfd := field_code
  have hcd : decide (0 < c) = true := decide_eq_true hc
  clear ho he hf
  go_enter Tryd.func12, Tryd.ntmps12
  go_wp2_with fail
  refine (filled_any _ ad HE.out).mono ?_
  rintro e w1 ⟨rfl, hb⟩
  have HB : Hid (Below w.heap.size w w1) := hb0.trans (hb.mono hb0.size)
  have c0 : w1.cell? ⟨w.heap.size, 0, none⟩ = some (.int .i64 x) := cell_later hb (by simp)
  have c1 : w1.cell? ⟨w.heap.size, 1, none⟩ = some (.int .i64 y) := cell_later hb (by simp)
  clear hb hb0
  go_wp2_with fail
  refine (lineError_yes x y _ HO.out).mono ?_
  rintro e w2 ⟨rfl, hw2⟩
  have HB2 : Hid (Below w.heap.size w w2) := by show Below _ _ _; rw [hw2]; exact HB.out.alloc HB.out.size _
  clear hw2
  go_wp2_with fail
  refine (HF.out _).mono ?_
  rintro e w3 ⟨rfl, rfl⟩
  go_wp2_with fail
  refine (HPF.out _ HB2.out).mono ?_
  rintro e w4 ⟨rfl, hb4⟩
  have HB4 : Hid (Below w.heap.size w w4) := HB2.out.trans (hb4.mono HB2.out.size)
  clear hb4
  go_wp2_with fail
  go_ret
  exact ⟨rfl, HB4.out⟩
end Go.Proofs.YtlknljbceppedaaDoor
