/- What tidying leaves: rates fall, bursts rise, the least one at any tick is the same. -/
import Derived.Test.YtcldgpbimaoliaaDoorTidySum
import Derived.Test.YtcldgpbimaoliaaDoorPlainRises
namespace Go.Proofs.YtcldgpbimaoliaaDoor

/-- A stack, its top first: rates rise below, bursts fall. -/
def StackOk (T : List (Int × Int)) : Prop := T.Pairwise fun a b => a.2 < b.2 ∧ b.1 < a.1
/-- x comes behind all lines of a stack, as the order says. -/
def Behind (x : Int × Int) (T : List (Int × Int)) : Prop := ∀ s, s ∈ T → x.2 < s.2 ∨ (x.2 = s.2 ∧ x.1 ≤ s.1)

theorem popT_suffix (x : Int × Int) (T : List (Int × Int)) : ∃ pre, T = pre ++ popT x T := by
  induction T with
  | nil => exact ⟨[], rfl⟩
  | cons t r ih =>
    unfold popT
    split
    · obtain ⟨pre, h⟩ := ih; exact ⟨t :: pre, by rw [List.cons_append, ← h]⟩
    · exact ⟨[], rfl⟩
theorem popT_top (x : Int × Int) (T : List (Int × Int)) : popT x T = [] ∨ ∃ t r, popT x T = t :: r ∧ coveredT x (t :: r) = false := by
  induction T with
  | nil => exact .inl rfl
  | cons t r ih =>
    unfold popT
    split
    · exact ih
    · next h => exact .inr ⟨t, r, rfl, by simpa using h⟩
theorem covered_first {x t : Int × Int} {r : List (Int × Int)} (h : coveredT x (t :: r) = false) : t.1 < x.1 := by
  match r, h with
  | [], h => have := of_decide_eq_false h; omega
  | u :: r, h =>
    have h' : (decide (x.1 ≤ t.1) || decide ((x.1 - t.1) * (u.2 - t.2) ≤ (t.1 - u.1) * (t.2 - x.2))) = false := h
    rw [Bool.or_eq_false_iff] at h'
    have := of_decide_eq_false h'.1
    omega
theorem stack_push {x : Int × Int} {T : List (Int × Int)} (hT : StackOk T) (hx : Behind x T) : StackOk (x :: popT x T) := by
  obtain ⟨pre, hp⟩ := popT_suffix x T
  have hs : StackOk (popT x T) := by have h := hT; unfold StackOk at h; rw [hp, List.pairwise_append] at h; exact h.2.1
  refine List.pairwise_cons.2 ⟨fun s hs' => ?_, hs⟩
  rcases popT_top x T with h | ⟨t, r, h, hc⟩
  · rw [h] at hs'; cases hs'
  · have ht := covered_first hc
    rw [h] at hs hs'
    have hxt := hx t (popT_sub x T t (by rw [h]; exact List.mem_cons_self ..))
    have hpw := List.pairwise_cons.1 hs
    rcases List.mem_cons.1 hs' with rfl | hr
    · omega
    · have := hpw.1 s hr
      omega
theorem stack_low (l : List (Int × Int)) : ∀ T, StackOk T → (∀ x, x ∈ l → Behind x T) → l.Pairwise (fun a b => b.2 < a.2 ∨ (b.2 = a.2 ∧ b.1 ≤ a.1)) → StackOk (lowT T l) := by
  induction l with
  | nil => intro T h _ _; exact h
  | cons x r ih =>
    intro T hT hb hs
    have hpc := List.pairwise_cons.1 hs
    refine ih _ (stack_push hT (hb x (List.mem_cons_self ..))) (fun y hy s hs' => ?_) hpc.2
    rcases List.mem_cons.1 hs' with rfl | hs'
    · exact hpc.1 y hy
    · exact hb y (List.mem_cons_of_mem _ hy) s (popT_sub x T s hs')
theorem sorted_pairwise {l : List (Int × Int)} (h : SortedL l) : l.Pairwise (fun a b => b.2 < a.2 ∨ (b.2 = a.2 ∧ b.1 ≤ a.1)) := by
  rw [List.pairwise_iff_getElem]
  intro i j hi hj hij
  exact h i j _ _ hij (by simp [hi]) (by simp [hj])
theorem stack_of_sorted {l : List (Int × Int)} (h : SortedL l) : StackOk (lowT [] l) :=
  stack_low l [] List.Pairwise.nil (fun _ _ s hs => by cases hs) (sorted_pairwise h)

/-- A line's thousandths at a tick. -/
def high (t : Int) (p : Int × Int) : Int := 1000 * p.1 + p.2 * t
theorem lineAt_high (t : Int) (p : Int × Int) : lineAt t p.1 p.2 = high t p / 1000 := by unfold lineAt high; omega
/-- One that is covered is nowhere below both. -/
theorem covered_low {x t u : Int × Int} {n : Int} (hxt : x.2 ≤ t.2) (htu : t.2 < u.2) (hc : (x.1 - t.1) * (u.2 - t.2) ≤ (t.1 - u.1) * (t.2 - x.2)) : high n x ≤ high n t ∨ high n u ≤ high n t := by
  unfold high
  by_cases h : 1000 * x.1 + x.2 * n ≤ 1000 * t.1 + t.2 * n
  · exact .inl h
  · refine .inr ?_
    have e1 : (t.2 - x.2) * n = t.2 * n - x.2 * n := Int.sub_mul ..
    have e2 : (u.2 - t.2) * n = u.2 * n - t.2 * n := Int.sub_mul ..
    have h1 : (t.2 - x.2) * n < 1000 * (x.1 - t.1) := by omega
    have h2 : (u.2 - t.2) * ((t.2 - x.2) * n) < (u.2 - t.2) * (1000 * (x.1 - t.1)) := Int.mul_lt_mul_of_pos_left h1 (by omega)
    have e3 : (u.2 - t.2) * (1000 * (x.1 - t.1)) = 1000 * ((x.1 - t.1) * (u.2 - t.2)) := by rw [Int.mul_left_comm, Int.mul_comm (u.2 - t.2)]
    have e4 : (u.2 - t.2) * ((t.2 - x.2) * n) = (t.2 - x.2) * ((u.2 - t.2) * n) := by rw [Int.mul_left_comm]
    have h3 : (t.2 - x.2) * ((u.2 - t.2) * n) < (t.2 - x.2) * (1000 * (t.1 - u.1)) := by
      rw [← e4]
      have e5 : (t.2 - x.2) * (1000 * (t.1 - u.1)) = 1000 * ((t.1 - u.1) * (t.2 - x.2)) := by rw [Int.mul_left_comm, Int.mul_comm (t.2 - x.2)]
      omega
    have h4 : (u.2 - t.2) * n < 1000 * (t.1 - u.1) := by
      rcases (show (u.2 - t.2) * n < 1000 * (t.1 - u.1) ∨ 1000 * (t.1 - u.1) ≤ (u.2 - t.2) * n by omega) with h | h
      · exact h
      · have := Int.mul_le_mul_of_nonneg_left h (show 0 ≤ t.2 - x.2 by omega)
        omega
    omega
theorem low_line {x t : Int × Int} {n : Int} (hn : 0 ≤ n) (h1 : x.1 ≤ t.1) (h2 : x.2 ≤ t.2) : high n x ≤ high n t := by
  unfold high
  have := Int.mul_le_mul_of_nonneg_right h2 hn
  omega
/-- What is dropped is nowhere below all that stays. -/
theorem pop_dom {x : Int × Int} {n : Int} (hn : 0 ≤ n) (T : List (Int × Int)) : StackOk T → Behind x T → ∀ s, s ∈ T → ∃ s', s' ∈ x :: popT x T ∧ high n s' ≤ high n s := by
  induction T with
  | nil => intro _ _ s hs; cases hs
  | cons t r ih =>
    intro hT hx s hs
    have hpc := List.pairwise_cons.1 hT
    have hx' : Behind x r := fun y hy => hx y (List.mem_cons_of_mem _ hy)
    unfold popT
    split
    · next hc =>
      rcases List.mem_cons.1 hs with rfl | hs
      · have hxs := hx s (List.mem_cons_self ..)
        match r, hc, ih, hpc, hx' with
        | [], hc, _, _, _ =>
          have := of_decide_eq_true hc
          exact ⟨x, List.mem_cons_self .., low_line hn this (by omega)⟩
        | u :: r, hc, ih, hpc, hx' =>
          have hc' : (decide (x.1 ≤ s.1) || decide ((x.1 - s.1) * (u.2 - s.2) ≤ (s.1 - u.1) * (s.2 - x.2))) = true := hc
          rw [Bool.or_eq_true] at hc'
          have hsu := hpc.1 u (List.mem_cons_self ..)
          rcases hc' with h | h
          · exact ⟨x, List.mem_cons_self .., low_line hn (of_decide_eq_true h) (by omega)⟩
          · rcases covered_low (n := n) (by omega) hsu.1 (of_decide_eq_true h) with h | h
            · exact ⟨x, List.mem_cons_self .., h⟩
            · obtain ⟨s', h1, h2⟩ := ih hpc.2 hx' u (List.mem_cons_self ..)
              exact ⟨s', h1, Int.le_trans h2 h⟩
      · exact ih hpc.2 hx' s hs
    · exact ⟨s, List.mem_cons_of_mem _ hs, Int.le_refl _⟩
theorem low_dom {n : Int} (hn : 0 ≤ n) (l : List (Int × Int)) : ∀ T, StackOk T → (∀ x, x ∈ l → Behind x T) → l.Pairwise (fun a b => b.2 < a.2 ∨ (b.2 = a.2 ∧ b.1 ≤ a.1)) → ∀ s, s ∈ T ∨ s ∈ l → ∃ s', s' ∈ lowT T l ∧ high n s' ≤ high n s := by
  induction l with
  | nil => intro T _ _ _ s hs; rcases hs with hs | hs; exact ⟨s, hs, Int.le_refl _⟩; cases hs
  | cons x r ih =>
    intro T hT hb hs s hsm
    have hpc := List.pairwise_cons.1 hs
    have hx := hb x (List.mem_cons_self ..)
    have h := ih (x :: popT x T) (stack_push hT hx) (fun y hy s hs' => by
      rcases List.mem_cons.1 hs' with rfl | hs'
      · exact hpc.1 y hy
      · exact hb y (List.mem_cons_of_mem _ hy) s (popT_sub x T s hs')) hpc.2
    rcases hsm with hsm | hsm
    · obtain ⟨s1, h1, h2⟩ := pop_dom hn T hT hx s hsm
      obtain ⟨s2, h3, h4⟩ := h s1 (.inl h1)
      exact ⟨s2, h3, Int.le_trans h4 h2⟩
    · rcases List.mem_cons.1 hsm with rfl | hsm
      · exact h s (.inl (List.mem_cons_self ..))
      · exact h s (.inr hsm)
theorem dom_sorted {n : Int} (hn : 0 ≤ n) {l : List (Int × Int)} (h : SortedL l) (s : Int × Int) (hs : s ∈ l) : ∃ s', s' ∈ lowT [] l ∧ high n s' ≤ high n s :=
  low_dom hn l [] List.Pairwise.nil (fun _ _ s hs => by cases hs) (sorted_pairwise h) s (.inr hs)
theorem low_nonempty {l : List (Int × Int)} (h : SortedL l) (h1 : 1 ≤ l.length) : 1 ≤ (lowT [] l).length := by
  cases l with
  | nil => simp at h1
  | cons s r =>
    obtain ⟨s', hs', _⟩ := dom_sorted (n := 0) (Int.le_refl _) h s (List.mem_cons_self ..)
    exact List.length_pos_of_mem hs'
theorem curveAt_low {n : Int} (hn : 0 ≤ n) {l ls : List (Int × Int)} (hp : l.Perm ls) (h : SortedL l) (h1 : 1 ≤ ls.length) : curveAt n (lowT [] l).reverse = curveAt n ls := by
  have hl1 : 1 ≤ l.length := by rw [hp.length_eq]; exact h1
  apply Int.le_antisymm
  · obtain ⟨p, hpm, he⟩ := curveAt_is n ls h1
    obtain ⟨s', hs', hh⟩ := dom_sorted hn h p (hp.mem_iff.2 hpm)
    have := curveAt_le n (lowT [] l).reverse s' (List.mem_reverse.2 hs')
    rw [he]
    rw [lineAt_high] at this ⊢
    omega
  · obtain ⟨p, hpm, he⟩ := curveAt_is n (lowT [] l).reverse (by rw [List.length_reverse]; exact low_nonempty h hl1)
    rw [he]
    have hpl : p ∈ l := by
      rcases lowT_sub l [] p (List.mem_reverse.1 hpm) with h | h
      · cases h
      · exact h
    exact curveAt_le n ls p (hp.mem_iff.1 hpl)
theorem okAll_low {l ls : List (Int × Int)} (hp : l.Perm ls) (h : okAll ls) : okAll (lowT [] l).reverse := fun p hpm => by
  rcases lowT_sub l [] p (List.mem_reverse.1 hpm) with h' | h'
  · cases h'
  · exact h p (hp.mem_iff.1 h')
theorem low_len {l ls : List (Int × Int)} (hp : l.Perm ls) : (lowT [] l).length ≤ ls.length := by
  have := lowT_len l []
  rw [hp.length_eq] at this
  simpa using this
/-- Neighbours of what is left. -/
theorem low_next {l : List (Int × Int)} (h : SortedL l) {i j : Nat} {p q : Int × Int} (hij : i < j) (hp : (lowT [] l).reverse[i]? = some p) (hq : (lowT [] l).reverse[j]? = some q) : q.2 < p.2 ∧ p.1 < q.1 := by
  have hs := stack_of_sorted h
  unfold StackOk at hs
  rw [← List.reverse_reverse (lowT [] l), List.pairwise_reverse, List.pairwise_iff_getElem] at hs
  have hjl : j < (lowT [] l).reverse.length := by
    rcases Nat.lt_or_ge j (lowT [] l).reverse.length with h | h
    · exact h
    · simp [List.getElem?_eq_none h] at hq
  have := hs i j (by omega) hjl hij
  rw [List.getElem?_eq_getElem (by omega)] at hp hq
  injection hp with hp
  injection hq with hq
  rw [← hp, ← hq]
  exact this
/-- Two together. -/
theorem eachL_mem {la lb : List (Int × Int)} {p : Int × Int} : p ∈ eachL la lb ↔ ∃ x y, x ∈ la ∧ y ∈ lb ∧ p = (x.1 + y.1, x.2 + y.2) := by
  simp only [eachL, rowL, List.mem_flatMap, List.mem_map]
  constructor
  · rintro ⟨x, hx, y, hy, rfl⟩; exact ⟨x, y, hx, hy, rfl⟩
  · rintro ⟨x, y, hx, hy, rfl⟩; exact ⟨x, hx, y, hy, rfl⟩
theorem curveAt_each {n : Int} {la lb : List (Int × Int)} (h1 : 1 ≤ la.length) (h2 : 1 ≤ lb.length) : curveAt n la + curveAt n lb ≤ curveAt n (eachL la lb) ∧ curveAt n (eachL la lb) ≤ curveAt n la + curveAt n lb + 1 := by
  constructor
  · obtain ⟨p, hp, he⟩ := curveAt_is n (eachL la lb) (eachL_pos h1 h2)
    obtain ⟨x, y, hx, hy, rfl⟩ := eachL_mem.1 hp
    have a1 := curveAt_le n la x hx
    have a2 := curveAt_le n lb y hy
    rw [he]
    unfold lineAt at *
    simp only [Int.add_mul]
    omega
  · obtain ⟨x, hx, e1⟩ := curveAt_is n la h1
    obtain ⟨y, hy, e2⟩ := curveAt_is n lb h2
    have := curveAt_le n (eachL la lb) _ (eachL_mem.2 ⟨x, y, hx, hy, rfl⟩)
    rw [e1, e2]
    unfold lineAt at *
    simp only [Int.add_mul] at this
    omega
end Go.Proofs.YtcldgpbimaoliaaDoor
