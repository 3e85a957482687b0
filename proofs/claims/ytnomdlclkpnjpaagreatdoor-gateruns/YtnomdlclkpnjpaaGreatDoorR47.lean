/- Own facts, put together: no statement of its own. -/
import Derived.Test.YtnomdlclkpnjpaaGreatDoorR46
import Derived.Test.YtnomdlclkpnjpaaGreatDoorR19
import Derived.Test.YtnomdlclkpnjpaaGreatDoorR16
namespace Go.Proofs.YtnomdlclkpnjpaaGreatDoor
open Go.RowKit
theorem nums_ints (xs : List Nat) : nums xs = ints (asInts xs) := by simp [nums, ints, asInts]
theorem Slides.of_own {w : World} {B e : Nat} {v : Value} {xs : List Nat} (h : w.ownsRow B e 1 v xs.length (ints (asInts xs))) : Slides w B v (fun k => v.ownBlock = some k) xs := by
 have hh := h
 obtain ⟨hlen, ⟨rfl, h0⟩ | ⟨g, cap', cur, rfl, hBg, hgc, hn, hmx, hcz, ht⟩⟩ := h
 ·
  have hx : xs = [] := List.length_eq_zero_iff.1 h0
  subst hx
  obtain ⟨ao, b, off, cap, h1, h2, h3, h4⟩ := (Slides.nil w B).made
  exact ⟨⟨ao, b, off, cap, h1, h2, h3, fun h => (h4 h).elim⟩, fun k hk => by cases hk⟩
 ·
  have hglt : g < w.heap.size := lt_of_block hgc
  refine ⟨⟨_, g, 0, cap', rfl, ⟨hn, fun _ => rfl, fun _ => hglt, by rw [nums_length, Nat.mul_one], fun j u hu => ?_, fun j hj => ?_⟩, hmx, fun _ => rfl⟩, fun i hi => ?_⟩
  ·
   rw [nums_ints] at hu
   have hl := (List.getElem?_eq_some_iff.1 hu).1
   rw [ints_length, asInts_length] at hl
   rw [Nat.zero_add, hh.cellAt _ (by omega)]
   exact hu
  ·
   have hjc : xs.length + j < cur.size := by omega
   rw [show 0 + xs.length * 1 + j = xs.length + j by omega]
   exact ⟨by rw [cell_of_row w g _ cur e (0, 0) hgc, Array.getElem?_eq_getElem hjc]; rfl, frozen_of_row w g _ cur e hgc⟩
  ·
   have e : g = i := Option.some.inj hi
   subst e
   exact ⟨hBg, hglt⟩
theorem Slides.cells {w : World} {B : Nat} {v : Value} {F : Nat → Prop} {xs : List Nat} (h : Slides w B v F xs) : ∃ ao cap, v = .slice ao xs.length cap ∧ xs.length ≤ cap ∧ cap ≤ maxLen ∧ (ao = none → xs = [] ∧ cap = 0) ∧ LiesN w ao (asInts xs) ∧ ∀ ad, ao = some ad → ∀ (j k : Nat), xs[j]? = some k → w.cell? ⟨ad.block, ad.off + j, none⟩ = some (.int .i64 (k : Int)) := by
 obtain ⟨ao, b, off, cap, rfl, hc, hm, hB⟩ := h.made
 have hle := hc.le
 have key : ∀ (j k : Nat), xs[j]? = some k → ao = some ⟨b, off, none⟩ ∧ w.cell? ⟨b, off + j, none⟩ = some (.int .i64 (k : Int)) := fun j k hj => by
  have hl := (List.getElem?_eq_some_iff.1 hj).1
  refine ⟨hc.addr (by omega), hc.olds j _ ?_⟩
  simp [nums, hj]
 refine ⟨ao, cap, rfl, hle, hm, fun e => ?_, ?_, fun ad had j k hj => ?_⟩
 ·
  have h0 : cap = 0 := by
   rcases Nat.eq_zero_or_pos cap with h0 | h0
   · exact h0
   · rw [hc.addr h0] at e; cases e
  exact ⟨List.length_eq_zero_iff.1 (by omega), h0⟩
 ·
  cases xs with
  | nil => exact .inl rfl
  | cons k r =>
   refine .inr ⟨b, off, (key 0 k rfl).1, hc.lt (by simp at hle; omega), fun i x hx => ?_⟩
   simp only [asInts, List.getElem?_map] at hx
   cases hi : (k :: r)[i]? with
   | none => rw [hi] at hx; cases hx
   | some z =>
    rw [hi] at hx
    have e : (z : Int) = x := by simpa using hx
    rw [← e]
    exact (key i z hi).2
 ·
  obtain ⟨e1, e2⟩ := key j k hj
  rw [e1] at had
  cases had
  exact e2
theorem run_append_copy {P : Program} (w : World) (t ty e : TypeId) (i : TypeInfo) (z : Value) (ht : P.underlying t = some (.slice e)) (hi : P.info? e = some i) (hz : i.zero = some z) (hsize : i.size = 1) (hby : i.bytes = 8) (hzs : z.cells.size = 1)
  (na : Option Addr) (ncap : Nat) (ns : List Int) (hl : LiesN w na ns) (hna : na = none → ns = [] ∧ ncap = 0) (hn : ns.length ≤ 1000) :
  ∃ v w', (Builtin.append_ #[t, t] ty #[.slice none 0 0, .slice na ns.length ncap]).run P w = .ok v w' ∧ w'.ownsRow w.heap.size e 1 v ns.length (ints ns) ∧ Below w.heap.size w w' := by
 cases na with
 | none =>
  obtain ⟨rfl, rfl⟩ := hna rfl
  exact ⟨_, w, run_append_owned_none (P := P) w w.heap.size t ty e i 1 ht hi (.slice none 0 0) 0 [] (World.ownsRow_nil _ _ _ _), World.ownsRow_nil _ _ _ _, Below.refl _ _⟩
 | some ad =>
  have hnews : ∀ j u, (ints ns)[j]? = some u → w.cell? (ad.add j) = some u := by
   intro j u hu
   rcases hl with rfl | ⟨b, off, e', -, hc⟩
   · simp [ints] at hu
   ·
    cases e'
    rw [Addr.add_lit]
    simp only [ints, List.getElem?_map] at hu
    cases hx : ns[j]? with
    | none => rw [hx] at hu; cases hu
    | some x =>
     rw [hx] at hu
     rw [hc j x hx]
     simpa using hu
  obtain ⟨v', w', hrun, h1, h2, h3⟩ := run_append_own (P := P) w w.heap.size t ty e i z 1 8 ht hi hz hsize hby hzs (by decide) (.slice none 0 0) 0 [] (World.ownsRow_nil _ _ _ _) ad ns.length ncap (ints ns) (by rw [ints_length, Nat.mul_one]) hnews (ints_one _) (by unfold maxLen; omega) (by omega) (Nat.le_refl _)
  rw [Nat.zero_add, List.nil_append] at h1
  exact ⟨v', w', hrun, h1, (Below.refl _ _).grown h2 (Nat.le_refl _) (fun k hk => by cases hk)⟩
theorem wpList_append_copy {P : Program} (w : World) {ops : Array Oper} {rest : List Oper} {o : Oper} {a : Act} {Q : Exit → Act → World → Prop} (hgd : o.guard = none) (s x : Operand) (t : TypeId)
  (ho : o.op = .call { callee := .builtin .append, args := #[s, x], argTypes := #[t, t] })
  (e : TypeId) (i : TypeInfo) (z : Value) (ht : P.underlying t = some (.slice e)) (hi : P.info? e = some i) (hz : i.zero = some z) (hsize : i.size = 1) (hby : i.bytes = 8) (hzs : z.cells.size = 1)
  (na : Option Addr) (ncap n : Nat) (ns : List Int) (hnn : ns.length = n) (hs : a.eval s = .slice none 0 0) (hx : a.eval x = .slice na n ncap) (hl : LiesN w na ns) (hna : na = none → ns = [] ∧ ncap = 0) (hn : n ≤ 1000)
  (hK : ∀ v w', w'.ownsRow w.heap.size e 1 v n (ints ns) ∧ Below w.heap.size w w' → wpList P ops Q rest (a.put o.dst v) w') : wpList P ops Q (o :: rest) a w := by
 subst hnn
 refine wpList_plain hgd fun K hK' => ?_
 obtain ⟨v, w', hrun, g1, g2⟩ := run_append_copy (P := P) w t o.type e i z ht hi hz hsize hby hzs na ncap ns hl hna hn
 unfold Oper.wp
 simp [execOp, ho, resolve, invoke, builtin, hs, hx, hrun, Result.andThen]
 exact hK' _ _ (hK v w' ⟨g1, g2⟩)
theorem roMem_new (w : World) (n : Nat) (t u : TypeId) : RoMem w (((w.alloc (.cells (madeCells #[.bool false] n) t)).alloc (.cells (madeCells #[.bool false] n) t)).alloc (.cells (madeCells #[.int .i64 0] 8) u)) w.heap.size (w.heap.size + 1) (w.heap.size + 2) n (.slice none 0 0) [] 0 (fun _ => 0) (.slice none 0 0) (fun _ => False) [] := by
 have s1 : (w.alloc (.cells (madeCells #[.bool false] n) t)).heap.size = w.heap.size + 1 := by simp
 have s2 : ((w.alloc (.cells (madeCells #[.bool false] n) t)).alloc (.cells (madeCells #[.bool false] n) t)).heap.size = w.heap.size + 2 := by simp
 have b1 : Below w.heap.size w (w.alloc (.cells (madeCells #[.bool false] n) t)) := (Below.refl _ _).alloc (Nat.le_refl _) _
 have b2 : Below w.heap.size w ((w.alloc (.cells (madeCells #[.bool false] n) t)).alloc (.cells (madeCells #[.bool false] n) t)) := b1.alloc b1.size _
 have b3 := b2.alloc b2.size (.cells (madeCells #[.int .i64 0] 8) u)
 have d0 := done_made w n t
 have c0 := came_made (w.alloc (.cells (madeCells #[.bool false] n) t)) n t
 have k0 := cred_made ((w.alloc (.cells (madeCells #[.bool false] n) t)).alloc (.cells (madeCells #[.bool false] n) t)) u
 rw [s1] at c0
 rw [s2] at k0
 have x1 : Below (w.alloc (.cells (madeCells #[.bool false] n) t)).heap.size (w.alloc (.cells (madeCells #[.bool false] n) t)) ((w.alloc (.cells (madeCells #[.bool false] n) t)).alloc (.cells (madeCells #[.bool false] n) t)) := (Below.refl _ _).alloc (Nat.le_refl _) _
 have x2 : Below ((w.alloc (.cells (madeCells #[.bool false] n) t)).alloc (.cells (madeCells #[.bool false] n) t)).heap.size ((w.alloc (.cells (madeCells #[.bool false] n) t)).alloc (.cells (madeCells #[.bool false] n) t)) (((w.alloc (.cells (madeCells #[.bool false] n) t)).alloc (.cells (madeCells #[.bool false] n) t)).alloc (.cells (madeCells #[.int .i64 0] 8) u)) := (Below.refl _ _).alloc (Nat.le_refl _) _
 have d1 := d0.of_block (x1.block _ d0.lt) x1.size
 exact ⟨World.ownsRow_nil _ _ _ _, d1.of_block (x2.block _ d1.lt) x2.size, c0.of_block (x2.block _ c0.lt) x2.size, k0, Slides.nil _ _, ⟨by omega, by omega, by omega⟩, ⟨(fun e => by cases e), (fun e => by cases e), (fun e => by cases e)⟩, ⟨id, id, id, fun _ h => h.elim⟩, ⟨Nat.le_refl _, by omega, by omega⟩, b3⟩
end Go.Proofs.YtnomdlclkpnjpaaGreatDoor
