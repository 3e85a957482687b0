/- A map of numbers in memory: what it tells at each key; what a look, a store and an emptying do. -/
import Derived.Test.YtolbmkniafkeaaaDoorCFrame
import Derived.Test.YtolbmkniafkeaaaDoorCAllRounds
import Derived.Maps.OwnOps
import Derived.Maps.Views
import Derived.Maps.OwnSet
namespace Go.Proofs.YtolbmkniafkeaaaDoor
open Go.Maps (Keyed)
open Go.WideElems (Fit)

/-- Is it no number of a flow? -/
def noFlow : Lit → Bool
  | .int .i64 x => !(decide (0 ≤ x) && decide (x < 8))
  | _ => true
def flowAt : Lit → Nat
  | .int _ x => x.toNat
  | _ => 0
theorem noFlow_of {y : Lit} (h : noFlow y = false) : ∃ x : Nat, x < 8 ∧ y = .int .i64 (x : Int) := by
  cases y with
  | int q x =>
    cases q <;> simp only [noFlow] at h <;> try cases h
    have h1 : 0 ≤ x ∧ x < 8 := by simpa using h
    exact ⟨x.toNat, by omega, by rw [Int.toNat_of_nonneg h1.1]⟩
  | _ => cases h
theorem noFlow_not {x : Nat} (h : x < 8) : noFlow (.int .i64 (x : Int)) = false := by simp [noFlow]; omega
theorem few_below : ∀ (n : Nat) (l : List Nat), l.Nodup → (∀ x, x ∈ l → x < n) → l.length ≤ n
  | 0, [], _, _ => Nat.le_refl _
  | 0, a :: l, _, h => absurd (h a (List.mem_cons_self ..)) (Nat.not_lt_zero _)
  | n + 1, l, hn, h => by
    by_cases hm : n ∈ l
    · have := few_below n (l.erase n) (hn.erase n) (fun x hx => by
        have h1 := hn.mem_erase_iff.1 hx
        have := h x h1.2
        omega)
      rw [List.length_erase_of_mem hm] at this
      omega
    · have := few_below n l hn (fun x hx => by
        have h1 := h x hx
        have : x ≠ n := fun e => hm (by rw [← e]; exact hx)
        omega)
      omega
/-- As many as there are flows, at most. -/
theorem keys_few {H : Type} {es : List (Lit × DataW H)} (h1 : es.Pairwise fun p q => p.1 ≠ q.1) (h2 : es.any (fun p => noFlow p.1) = false) : es.length ≤ 8 := by
  have h3 : ∀ p, p ∈ es → ∃ x : Nat, x < 8 ∧ p.1 = .int .i64 (x : Int) := fun p hp => noFlow_of (by simpa using List.any_eq_false.1 h2 p hp)
  have hn : (es.map fun p => flowAt p.1).Nodup := by
    refine List.pairwise_map.2 (List.pairwise_iff_getElem.2 fun i j hi hj hij e => List.pairwise_iff_getElem.1 h1 i j hi hj hij ?_)
    obtain ⟨x, -, hx⟩ := h3 _ (List.getElem_mem hi)
    obtain ⟨y, -, hy⟩ := h3 _ (List.getElem_mem hj)
    rw [hx, hy] at e ⊢
    have : x = y := by simpa [flowAt] using e
    rw [this]
  have := few_below 8 _ hn (fun a ha => by
    obtain ⟨p, hp, rfl⟩ := List.mem_map.1 ha
    obtain ⟨x, hx, e⟩ := h3 p hp
    rw [e]
    simpa [flowAt] using hx)
  simpa using this

/-- Block b is a map whose keys are flows' numbers, and that tells f. -/
def Tells (P : Program) (k e : TypeId) (w : World) (b : Nat) (f : Nat → Int) : Prop :=
  ∃ es : List (Lit × DataW Unit), w.ownsMap P k (plainElem P e) b 8 (.map es) ∧ es.any (fun p => noFlow p.1) = false ∧ ∀ x : Nat, (DataW.map es).atKey (.int .i64 (x : Int)) (.lit (.int .i64 0)) = .lit (.int .i64 (f x))
section
variable {P : Program} {k e t : TypeId} {w w' : World} {b : Nat} {f : Nat → Int}
theorem tells_made (w : World) (P : Program) (k e : TypeId) : Tells P k e (w.alloc (.map #[] 0)) w.heap.size fun _ => 0 :=
  ⟨[], (World.ownsMap_made w P k _).mono (Nat.zero_le _), rfl, fun _ => rfl⟩
theorem Tells.lt (h : Tells P k e w b f) : b < w.heap.size := by
  obtain ⟨D, h1, -, -⟩ := h
  exact h1.lt
theorem Tells.but {S : Nat → Prop} (h : Tells P k e w b f) (hb : But S w w') (hs : ¬ S b) : Tells P k e w' b f := by
  have hlt := h.lt
  obtain ⟨D, ⟨es, clock, g1, g2, g3, g4⟩, h2, h3⟩ := h
  exact ⟨D, ⟨es, clock, (hb.block b hlt hs).trans g1, g2, g3, g4⟩, h2, h3⟩
/-- A look. -/
theorem Tells.look (h : Tells P k e w b f) (K : Keyed P k) (ht : P.underlying t = some (.map k e)) (he : P.underlying e = some (.int .i64)) (hz : (zeroValue e).run P w = .ok (.int .i64 0) w) {x : Nat} (hkey : keyOf P k (.int .i64 (x : Int)) = some (.int .i64 (x : Int))) :
    (Instr.lookup t (.map (some b)) (.int .i64 (x : Int)) false).run P w = .ok (.int .i64 (f x)) w := by
  obtain ⟨es, h1, h2, h3⟩ := h
  obtain ⟨c, hrun, hat, -⟩ := h1.lookup_int K ht he hz hkey
  rw [h3 x] at hat
  injection hat with hat
  injection hat with _ hat
  rw [hrun, hat]
/-- A store. -/
theorem Tells.store (h : Tells P k e w b f) (K : Keyed P k) (ht : P.underlying t = some (.map k e)) (he : P.underlying e = some (.int .i64)) {x : Nat} (hx8 : x < 8) (hkey : keyOf P k (.int .i64 (x : Int)) = some (.int .i64 (x : Int))) {v : Int} (hv : (Lit.int .i64 v).wf = true) :
    ∃ w', (Instr.mapUpdate t (.map (some b)) (.int .i64 (x : Int)) (.int .i64 v)).run P w = .ok () w' ∧ Tells P k e w' b (put1 f x v) ∧ w.grownBy w' (some b) := by
  obtain ⟨es, h1, h2, h3⟩ := h
  obtain ⟨w', hrun, g1, g2⟩ := h1.update K ht (by decide) hkey (plainElem_int he hv)
  have e1 : (DataW.map es).put (.int .i64 (x : Int)) (.lit (.int .i64 v)) = .map (DataW.insert (.int .i64 (x : Int), .lit (.int .i64 v)) (es.filter fun p => !p.1.sameKey (.int .i64 (x : Int)))) := rfl
  have hk : (DataW.insert (.int .i64 (x : Int), .lit (.int .i64 v)) (es.filter fun p => !p.1.sameKey (.int .i64 (x : Int)))).any (fun p => noFlow p.1) = false := by
    rw [Maps.any_insert, noFlow_not hx8, Bool.false_or]
    exact List.any_eq_false.2 fun p hp => List.any_eq_false.1 h2 p (List.mem_filter.1 hp).1
  have ht2 := g1.tidy K
  rw [e1] at g1 ht2
  refine ⟨w', hrun, ⟨_, ?_, hk, fun y => ?_⟩, g2⟩
  · obtain ⟨es', he', hp⟩ := ht2
    injection he' with he'
    rw [← he'] at hp
    have hl := keys_few hp hk
    obtain ⟨ms, clock, k1, k2, k3, k4⟩ := g1
    refine ⟨ms, clock, k1, k2, ?_, k4⟩
    injection k4 with k4
    rw [k4, length_sorted] at hl
    simpa using hl
  · rw [← e1]
    by_cases hy : y = x
    · subst hy
      rw [put1_same]
      exact Maps.atKey_put_same (k := .int .i64 (y : Int)) ⟨es, rfl⟩ trivial _ _
    · rw [put1_other _ _ hy, Maps.atKey_put_other (fun e => hy (by injection e with _ e; omega))]
      exact h3 y
/-- All is taken out. -/
theorem Tells.cleared (h : Tells P k e w b f) (ht : P.underlying t = some (.map k e)) (ty : TypeId) :
    ∃ w', (Builtin.clear_ #[t] ty #[.map (some b)]).run P w = .ok (.tuple #[]) w' ∧ Tells P k e w' b (fun _ => 0) ∧ w.grownBy w' (some b) := by
  obtain ⟨D, ⟨es, clock, g1, g2, g3, g4⟩, h2, h3⟩ := h
  refine ⟨ChangeMaps.setBlock w b (.map #[] clock), ?_, ⟨[], ⟨#[], clock, ChangeMaps.heap_setBlock_same g1 _, ⟨by simp, MapKept.stamped_empty _, by simp⟩, Nat.zero_le _, rfl⟩, rfl, fun _ => rfl⟩, ⟨rfl, rfl, rfl, by simp [ChangeMaps.setBlock], fun i _ hi => ChangeMaps.heap_setBlock_other g1 _ (fun e => hi (by rw [e]))⟩⟩
  simp [Builtin.clear_, run_underlying ht, MapKept.run_getObj_map g1, MapKept.run_setObj_map _ g1, Result.andThen, ChangeMaps.setBlock]
end

/-- An emptying, at the operation. -/
theorem wpList_clear_tells {P : Program} (w : World) {ops : Array Oper} {rest : List Oper} {o : Oper} {a : Act} {Q : Exit → Act → World → Prop} (hg : o.guard = none) (m : Operand) (t : TypeId) (hop : o.op = Op.call { callee := Callee.builtin Builtin.clear, args := #[m], argTypes := #[t] })
    (k e : TypeId) (ht : P.underlying t = some (.map k e)) (b : Nat) (f : Nat → Int) (hm : a.eval m = .map (some b)) (h : Tells P k e w b f)
    (hK : ∀ w', Tells P k e w' b (fun _ => 0) → w.grownBy w' (some b) → wpList P ops Q rest (a.put o.dst (.tuple #[])) w') : wpList P ops Q (o :: rest) a w := by
  refine wpList_plain hg fun K' hK' => ?_
  obtain ⟨w', hrun, r1, r2⟩ := h.cleared ht o.type
  unfold Oper.wp
  simp [execOp, hop, resolve, invoke, builtin, hm, hrun, Result.andThen]
  exact hK' _ _ (hK w' r1 r2)
theorem wpList_look_tells {P : Program} (w : World) {ops : Array Oper} {rest : List Oper} {o : Oper} {a : Act} {Q : Exit → Act → World → Prop} (hg : o.guard = none) (m x : Operand) (t : TypeId) (hop : o.op = Op.lookup t m x false)
    (k e : TypeId) (K : Keyed P k) (ht : P.underlying t = some (.map k e)) (he : P.underlying e = some (.int .i64)) (hz : (zeroValue e).run P w = .ok (.int .i64 0) w) (b : Nat) (f : Nat → Int) (hm : a.eval m = .map (some b)) (h : Tells P k e w b f) (y : Nat) (hx : a.eval x = .int .i64 (y : Int)) (hkey : keyOf P k (.int .i64 (y : Int)) = some (.int .i64 (y : Int)))
    (hK : wpList P ops Q rest (a.put o.dst (.int .i64 (f y))) w) : wpList P ops Q (o :: rest) a w := by
  refine wpList_plain hg fun K' hK' => ?_
  unfold Oper.wp
  simp [execOp, hop, hm, hx, h.look K ht he hz hkey, Result.andThen]
  exact hK' _ _ hK
theorem wpList_store_tells {P : Program} (w : World) {ops : Array Oper} {rest : List Oper} {o : Oper} {a : Act} {Q : Exit → Act → World → Prop} (hg : o.guard = none) (m x v : Operand) (t : TypeId) (hop : o.op = Op.mapUpdate t m x v)
    (k e : TypeId) (K : Keyed P k) (ht : P.underlying t = some (.map k e)) (he : P.underlying e = some (.int .i64)) (b : Nat) (f : Nat → Int) (hm : a.eval m = .map (some b)) (h : Tells P k e w b f) (y : Nat) (hy8 : y < 8) (hx : a.eval x = .int .i64 (y : Int)) (hkey : keyOf P k (.int .i64 (y : Int)) = some (.int .i64 (y : Int))) (u : Int) (hv : a.eval v = .int .i64 u) (hu : (Lit.int .i64 u).wf = true)
    (hK : ∀ w', Tells P k e w' b (put1 f y u) → w.grownBy w' (some b) → wpList P ops Q rest (a.put o.dst undef) w') : wpList P ops Q (o :: rest) a w := by
  refine wpList_plain hg fun K' hK' => ?_
  obtain ⟨w', hrun, r1, r2⟩ := h.store K ht he hy8 hkey hu
  unfold Oper.wp
  simp [execOp, hop, hm, hx, hv, hrun, Result.andThen]
  exact hK' _ _ (hK w' r1 r2)
end Go.Proofs.YtolbmkniafkeaaaDoor
