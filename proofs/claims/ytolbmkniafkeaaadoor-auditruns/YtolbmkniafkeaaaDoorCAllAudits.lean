/- Own facts, put together: no statement of its own. -/
import Derived.Test.YtolbmkniafkeaaaDoorCAllPlain

/- Plain facts: what a link may do; whatever the order, it is busy at the same ticks, after KLEINROCK. No Go text is named here. -/
namespace Go.Proofs.YtolbmkniafkeaaaDoor

/-- A link that is never idle while one waits: each that is sent was not sent ahead, and has come. -/
def Conv (per : Int) (ps : List Pk) (l : List Sn) : Prop := ∀ (k : Nat) x, l[k]? = some x → ∃ t b, Tick ps (l.take k) t ∧ Undone ps.length (l.take k) b ∧ tickOf ps b ≤ t ∧ x = ⟨(b : Nat), t, t + per * bytesOf ps b⟩
/-- Flows keep their turns. -/
def Turns (ps : List Pk) (l : List Sn) : Prop := ∀ (k : Nat) x, l[k]? = some x → ∀ j, j < x.num.toNat → flowOf ps j = flowOf ps x.num.toNat → ¬ Undone ps.length (l.take k) j
section
variable {per : Int} {ps : List Pk} {l : List Sn} {keys : List Int}
theorem Sched.conv (h : Sched per ps keys l) : Conv per ps l := fun k x hx => by
  obtain ⟨t, b, h1, h2, e⟩ := h k x hx
  exact ⟨t, b, h1, h2.undone, h2.came, e⟩
theorem Sched.turns (ho : OkPks ps) (hk : ∀ i j, i < j → j < ps.length → flowOf ps i = flowOf ps j → keys.getD i 0 ≤ keys.getD j 0) (h : Sched per ps keys l) : Turns ps l := fun k x hx j hj hf hu => by
  obtain ⟨t, b, h1, h2, e⟩ := h k x hx
  have eb : x.num.toNat = b := by rw [e]; simp
  rw [eb] at hj hf
  have hb := h2.undone.1
  have c := ticks_le ho (Nat.le_of_lt hj) hb
  have c1 := h2.least j hu (by have := h2.came; omega)
  have c2 := hk j b hj hb hf
  omega

theorem sum_one : ∀ L : List Nat, sumOf (fun _ => 1) L = L.length
  | [] => rfl
  | a :: L => by
    have := sum_one L
    simp only [sumOf, List.length_cons]
    omega
theorem few_of {A B : List Nat} (hA : A.Nodup) (h : ∀ a, a ∈ A → a ∈ B) : A.length ≤ B.length := by
  have := sumOf_le (f := fun _ => 1) (fun _ => by omega) A B hA h
  rw [sum_one, sum_one] at this
  omega
theorem same_of {f : Nat → Int} (hf : ∀ i, 0 ≤ f i) {A B : List Nat} (hA : A.Nodup) (hB : B.Nodup) (h : ∀ a, a ∈ A ↔ a ∈ B) : sumOf f A = sumOf f B := by
  have h1 := sumOf_le hf A B hA fun a => (h a).1
  have h2 := sumOf_le hf B A hB fun a => (h a).2
  omega
/-- As many as there are: all of them. -/
theorem all_of {A : List Nat} {k : Nat} (hA : A.Nodup) (hl : A.length = k) (h : ∀ a, a ∈ A → a < k) (j : Nat) : j ∈ A ↔ j < k := by
  refine ⟨h j, fun hj => ?_⟩
  by_cases hm : j ∈ A
  · exact hm
  · have := few_of (A := j :: A) (B := List.range k) (List.nodup_cons.2 ⟨hm, hA⟩) fun a ha => by
      rcases List.mem_cons.1 ha with e | ha
      · rw [e]; exact List.mem_range.2 hj
      · exact List.mem_range.2 (h a ha)
    rw [List.length_cons, List.length_range, hl] at this
    omega
theorem nums_take1 {k : Nat} {x : Sn} (h : l[k]? = some x) : numsOf (l.take (k + 1)) = numsOf (l.take k) ++ [x.num.toNat] := by
  rw [List.take_add_one, h]
  simp [numsOf]
theorem lastFin_take {k : Nat} {x : Sn} (h : l[k]? = some x) : lastFin (l.take (k + 1)) = x.fin := by
  rw [List.take_add_one, h]
  exact lastFin_snoc _ _
/-- The numbers of what was sent. -/
theorem Conv.nums (h : Conv per ps l) : ∀ k, k ≤ l.length → (numsOf (l.take k)).Nodup ∧ (numsOf (l.take k)).length = k ∧ (∀ j, j ∈ numsOf (l.take k) → j < ps.length) ∧ ∀ j : Nat, j ∈ numsOf (l.take k) ↔ ∃ x, x ∈ l.take k ∧ x.num = j
  | 0, _ => ⟨List.nodup_nil, rfl, (fun j hj => by simp [numsOf] at hj), fun j => by simp [numsOf]⟩
  | k + 1, hk => by
    obtain ⟨i1, i2, i3, i4⟩ := Conv.nums h k (by omega)
    have hx : l[k]? = some l[k] := List.getElem?_eq_getElem (by omega)
    obtain ⟨t, b, -, hu, -, e⟩ := h k _ hx
    have eb : (l[k]).num.toNat = b := by rw [e]; simp
    have hb : b ∉ numsOf (l.take k) := fun hm => by
      obtain ⟨x, hx1, hx2⟩ := (i4 b).1 hm
      exact hu.2 x hx1 hx2
    rw [nums_take1 hx, eb]
    refine ⟨?_, by simp [i2], fun j hj => ?_, fun j => ?_⟩
    · refine List.nodup_append.2 ⟨i1, List.nodup_cons.2 ⟨by simp, List.nodup_nil⟩, fun a ha c hc e => ?_⟩
      rw [List.mem_singleton] at hc
      exact hb (by rw [← hc, ← e]; exact ha)
    · rcases List.mem_append.1 hj with hj | hj
      · exact i3 j hj
      · rw [List.mem_singleton] at hj; rw [hj]; exact hu.1
    · rw [List.mem_append, List.mem_singleton, i4, List.take_add_one, hx]
      simp only [Option.toList_some, List.mem_append, List.mem_singleton]
      constructor
      · rintro (⟨x, h1, h2⟩ | rfl)
        · exact ⟨x, .inl h1, h2⟩
        · exact ⟨_, .inr rfl, by rw [e]⟩
      · rintro ⟨x, h1 | rfl, h2⟩
        · exact .inl ⟨x, h1, h2⟩
        · right
          rw [e] at h2
          simp only at h2
          omega
theorem Conv.undone (h : Conv per ps l) {k : Nat} (hk : k ≤ l.length) (j : Nat) : Undone ps.length (l.take k) j ↔ j < ps.length ∧ j ∉ numsOf (l.take k) := by
  obtain ⟨-, -, -, i4⟩ := h.nums k hk
  rw [i4]
  exact ⟨fun hu => ⟨hu.1, fun ⟨x, h1, h2⟩ => hu.2 x h1 h2⟩, fun hu => ⟨hu.1, fun x h1 h2 => hu.2 ⟨x, h1, h2⟩⟩⟩
theorem bytes_low (ho : OkPks ps) (hper : 1 ≤ per) (i : Nat) : 0 ≤ per * bytesOf ps i := by
  refine Int.mul_nonneg (by omega) ?_
  cases hx : ps[i]? with
  | none => simp [bytesOf, hx]
  | some p =>
    obtain ⟨-, -, s1, -, -, -⟩ := okPk_true (ho.each _ _ hx).1
    rw [bytesOf_get hx]
    omega
/-- Ticks go on. -/
theorem Conv.step (ho : OkPks ps) (hper : 1 ≤ per) (h : Conv per ps l) {k : Nat} {x : Sn} (hx : l[k]? = some x) : lastFin (l.take k) ≤ x.beg ∧ x.beg ≤ x.fin ∧ lastFin (l.take (k + 1)) = x.fin ∧ tickOf ps x.num.toNat ≤ x.beg ∧ x.fin = x.beg + per * bytesOf ps x.num.toNat ∧ x.num.toNat < ps.length := by
  obtain ⟨t, b, ht, hu, hc, e⟩ := h k x hx
  have eb : x.num.toNat = b := by rw [e]; simp
  have := bytes_low ho hper b
  rw [lastFin_take hx, eb, e]
  refine ⟨?_, by simp only; omega, rfl, hc, rfl, hu.1⟩
  rcases ht with ⟨rfl, -⟩ | ⟨h0, i, hi, rfl, -⟩
  · exact Int.le_refl _
  · exact Int.le_of_lt (h0 i hi)
theorem Conv.mono (ho : OkPks ps) (hper : 1 ≤ per) (h : Conv per ps l) {m : Nat} : ∀ d, m + d ≤ l.length → lastFin (l.take m) ≤ lastFin (l.take (m + d))
  | 0, _ => Int.le_refl _
  | d + 1, hd => by
    have ih := Conv.mono ho hper h (m := m) d (by omega)
    have hx : l[m + d]? = some l[m + d] := List.getElem?_eq_getElem (by omega)
    obtain ⟨s1, s2, s3, -⟩ := h.step ho hper hx
    rw [← Nat.add_assoc, s3]
    omega
theorem lto_mono (ho : OkPks ps) (hper : 1 ≤ per) {m : Nat} : ∀ d, lto per ps m ≤ lto per ps (m + d)
  | 0 => Int.le_refl _
  | d + 1 => by
    have ih := lto_mono ho hper (m := m) d
    have := bytes_low ho hper (m + d)
    rw [← Nat.add_assoc]
    simp only [lto]
    omega
/-- Where the link was idle all that came ahead are sent: the first k. -/
theorem Conv.idles (ho : OkPks ps) (hper : 1 ≤ per) (h : Conv per ps l) {k : Nat} {x : Sn} (hx : l[k]? = some x) (hi : lastFin (l.take k) < x.beg) : (∀ j, j ∈ numsOf (l.take k) ↔ j < k) ∧ x.beg = tickOf ps k := by
  have hk := lt_of_get hx
  obtain ⟨n1, n2, n3, n4⟩ := h.nums k (by omega)
  obtain ⟨t, b, ht, hu, hc, e⟩ := h k x hx
  have et : x.beg = t := by rw [e]
  rw [et] at hi ⊢
  rcases ht with ⟨rfl, -⟩ | ⟨h0, i, hui, rfl, hmin⟩
  · omega
  · have sep : ∀ j i, j ∈ numsOf (l.take k) → Undone ps.length (l.take k) i → j < i := fun j i hj hi' => by
      obtain ⟨y, hy1, hy2⟩ := (n4 j).1 hj
      obtain ⟨m, hm⟩ := List.mem_iff_getElem?.1 hy1
      rw [List.getElem?_take] at hm
      have hmk : m < k := by
        rcases Nat.lt_or_ge m k with h' | h'
        · exact h'
        · rw [if_neg (by omega)] at hm; cases hm
      rw [if_pos hmk] at hm
      obtain ⟨s1, s2, s3, s4, -, -⟩ := h.step ho hper hm
      have ey : y.num.toNat = j := by rw [hy2]; simp
      rw [ey] at s4
      have mono := h.mono ho hper (m := m + 1) (k - (m + 1)) (by omega)
      rw [show m + 1 + (k - (m + 1)) = k by omega, s3] at mono
      have := h0 i hi'
      rcases Nat.lt_or_ge j i with h' | h'
      · exact h'
      · have := ticks_le ho h' (n3 j hj)
        omega
    have all : ∀ j, j ∈ numsOf (l.take k) ↔ j < k := by
      refine all_of n1 n2 fun j hj => ?_
      rcases Nat.lt_or_ge j k with h' | h'
      · exact h'
      · have hlen := few_of (A := List.range (j + 1)) (B := numsOf (l.take k)) List.nodup_range fun a ha => by
          have ha := List.mem_range.1 ha
          by_cases hm : a ∈ numsOf (l.take k)
          · exact hm
          · have := sep j a hj ((h.undone (by omega) a).2 ⟨by have := n3 j hj; omega, hm⟩)
            omega
        rw [List.length_range, n2] at hlen
        omega
    refine ⟨all, ?_⟩
    have hik : k ≤ i := by
      rcases Nat.lt_or_ge i k with h' | h'
      · exact absurd ((all i).2 h') ((h.undone (by omega) i).1 hui).2
      · exact h'
    have hkn : k < ps.length := by have := hui.1; omega
    have h1 := hmin k ((h.undone (by omega) k).2 ⟨hkn, fun hm => by have := (all k).1 hm; omega⟩)
    have h2 := ticks_le ho hik hui.1
    omega

/-- Bytes' ticks of the first k in number, and of those that were sent first. -/
def workOf (per : Int) (ps : List Pk) (L : List Nat) : Int := sumOf (fun i => per * bytesOf ps i) L
theorem workOf_snoc (per : Int) (ps : List Pk) (L : List Nat) (b : Nat) : workOf per ps (L ++ [b]) = workOf per ps L + per * bytesOf ps b := by
  unfold workOf
  rw [sumOf_append]
  simp [sumOf]
theorem lto_work (per : Int) (ps : List Pk) (k : Nat) : lto per ps (k + 1) - workOf per ps (List.range (k + 1)) = max (lto per ps k) (tickOf ps k) - workOf per ps (List.range k) := by
  rw [List.range_succ, workOf_snoc, lto]
  omega
/-- What is lost by then to idle ticks. -/
def lostAt (per : Int) (ps : List Pk) (l : List Sn) (k : Nat) : Int := lastFin (l.take k) - workOf per ps (numsOf (l.take k))
theorem Conv.lost (ho : OkPks ps) (hper : 1 ≤ per) (h : Conv per ps l) {k : Nat} {x : Sn} (hx : l[k]? = some x) : lostAt per ps l (k + 1) = lostAt per ps l k + (x.beg - lastFin (l.take k)) := by
  obtain ⟨-, -, s3, -, s5, -⟩ := h.step ho hper hx
  unfold lostAt
  rw [s3, nums_take1 hx, workOf_snoc]
  omega
theorem Conv.lost_mono (ho : OkPks ps) (hper : 1 ≤ per) (h : Conv per ps l) {m : Nat} : ∀ d, m + d ≤ l.length → lostAt per ps l m ≤ lostAt per ps l (m + d)
  | 0, _ => Int.le_refl _
  | d + 1, hd => by
    have ih := Conv.lost_mono ho hper h (m := m) d (by omega)
    have hx : l[m + d]? = some l[m + d] := List.getElem?_eq_getElem (by omega)
    have := (h.step ho hper hx).1
    rw [← Nat.add_assoc, h.lost ho hper hx]
    omega
/-- One step beside the link that sends in order. -/
structure Beside (per : Int) (ps : List Pk) (l : List Sn) (k : Nat) (x : Sn) : Prop where
  same : lastFin (l.take k) < x.beg ↔ lto per ps k < tickOf ps k
  idle : lastFin (l.take k) < x.beg → lastFin (l.take k) = lto per ps k ∧ x.beg = tickOf ps k
theorem Conv.beside_one (ho : OkPks ps) (hper : 1 ≤ per) (h : Conv per ps l) {k : Nat} {x : Sn} (hx : l[k]? = some x) (hl : lostAt per ps l k = lto per ps k - workOf per ps (List.range k)) (hb : ∀ (m : Nat) y, m < k → l[m]? = some y → Beside per ps l m y) : Beside per ps l k x := by
  have hk := lt_of_get hx
  obtain ⟨n1, n2, n3, n4⟩ := h.nums k (by omega)
  have hnn := bytes_low ho hper
  obtain ⟨s1, -, -, -, -, s6⟩ := h.step ho hper hx
  have eqw : (∀ j, j ∈ numsOf (l.take k) ↔ j < k) → lastFin (l.take k) = lto per ps k := fun hall => by
    have := same_of (f := fun i => per * bytesOf ps i) hnn n1 (List.nodup_range (n := k)) fun a => by rw [hall, List.mem_range]
    unfold lostAt workOf at hl
    omega
  have idle : lastFin (l.take k) < x.beg → lastFin (l.take k) = lto per ps k ∧ x.beg = tickOf ps k := fun hi => by
    obtain ⟨hall, hbeg⟩ := h.idles ho hper hx hi
    exact ⟨eqw hall, hbeg⟩
  refine ⟨⟨fun hi => ?_, fun hi => ?_⟩, idle⟩
  · obtain ⟨i1, i2⟩ := idle hi
    omega
  · rcases Int.lt_or_le (lastFin (l.take k)) x.beg with h' | h'
    · exact h'
    · exfalso
      have small : ∀ m, m ≤ k → ∀ c, c ∈ numsOf (l.take m) → c < k := by
        intro m
        induction m with
        | zero => intro _ c hc; simp [numsOf] at hc
        | succ m ih =>
          intro hm c hc
          have hy : l[m]? = some l[m] := List.getElem?_eq_getElem (by omega)
          rw [nums_take1 hy] at hc
          rcases List.mem_append.1 hc with hc | hc
          · exact ih (by omega) c hc
          · rw [List.mem_singleton] at hc
            rcases Nat.lt_or_ge c k with h3 | h3
            · exact h3
            · exfalso
              obtain ⟨t1, -, -, t4, -, t6⟩ := h.step ho hper hy
              rw [← hc] at t4 t6
              have c1 := ticks_le ho h3 t6
              rcases Int.lt_or_le (lastFin (l.take m)) (l[m]).beg with h4 | h4
              · obtain ⟨-, e2⟩ := (hb m _ (by omega) hy).idle h4
                have c2 := lto_mono ho hper (m := m + 1) (k - (m + 1))
                rw [show m + 1 + (k - (m + 1)) = k by omega] at c2
                have c3 := hnn m
                have c4 : tickOf ps m ≤ lto per ps (m + 1) := by simp only [lto]; omega
                omega
              · have c2 := h.lost_mono ho hper (m := m) (k - m) (by omega)
                rw [show m + (k - m) = k by omega, hl] at c2
                obtain ⟨q1, -, -, -⟩ := h.nums m (by omega)
                have c3 : workOf per ps (numsOf (l.take m)) ≤ workOf per ps (List.range k) := sumOf_le hnn _ _ q1 fun a ha => List.mem_range.2 (ih (by omega) a ha)
                unfold lostAt at c2
                omega
      have hall := all_of n1 n2 (small k (Nat.le_refl _))
      have eT := eqw hall
      obtain ⟨t, b, ht, hu, hc, e⟩ := h k x hx
      have et : x.beg = t := by rw [e]
      have hbk : k ≤ b := by
        rcases Nat.lt_or_ge b k with h3 | h3
        · exact absurd ((hall b).2 h3) ((h.undone (by omega) b).1 hu).2
        · exact h3
      have := ticks_le ho hbk hu.1
      omega
theorem Conv.beside (ho : OkPks ps) (hper : 1 ≤ per) (h : Conv per ps l) : ∀ k, k ≤ l.length → lostAt per ps l k = lto per ps k - workOf per ps (List.range k) ∧ ∀ (m : Nat) y, m < k → l[m]? = some y → Beside per ps l m y
  | 0, _ => ⟨rfl, fun m y hm => absurd hm (Nat.not_lt_zero _)⟩
  | k + 1, hk => by
    obtain ⟨i1, i2⟩ := Conv.beside ho hper h k (by omega)
    have hx : l[k]? = some l[k] := List.getElem?_eq_getElem (by omega)
    have hb := h.beside_one ho hper hx i1 i2
    refine ⟨?_, fun m y hm hy => ?_⟩
    · rw [h.lost ho hper hx, i1]
      have e := lto_work per ps k
      obtain ⟨s1, -⟩ := h.step ho hper hx
      by_cases hi : lastFin (l.take k) < (l[k]).beg
      · obtain ⟨e1, e2⟩ := hb.idle hi
        have := hb.same.1 hi
        omega
      · have : ¬ lto per ps k < tickOf ps k := fun h' => hi (hb.same.2 h')
        omega
    · rcases Nat.lt_or_ge m k with h' | h'
      · exact i2 m y h' hy
      · obtain rfl : m = k := by omega
        rw [hx] at hy
        obtain rfl := Option.some.inj hy
        exact hb
/-- KLEINROCK: busy at the same ticks as the link that sends in order. -/
theorem Conv.busy (ho : OkPks ps) (hper : 1 ≤ per) (h : Conv per ps l) (hl : l.length = ps.length) : busyL l = busyL (lindAll per ps ps.length) := by
  have key : ∀ k, k ≤ l.length → k = 0 ∨ ∃ r s, busyL (l.take k) = r ++ [(s, lastFin (l.take k))] ∧ busyL (lindAll per ps k) = r ++ [(s, lto per ps k)] := by
    intro k
    induction k with
    | zero => intro _; exact .inl rfl
    | succ k ih =>
      intro hk
      right
      have hx : l[k]? = some l[k] := List.getElem?_eq_getElem (by omega)
      have hb := (h.beside ho hper (k + 1) hk).2 k _ (by omega) hx
      obtain ⟨s1, s2, s3, s4, s5, s6⟩ := h.step ho hper hx
      have hg : (lindAll per ps (k + 1))[k]? = some (lind per ps k) := lindAll_get (by omega)
      have ef : busyL (lindAll per ps (k + 1)) = busyStep (busyL (lindAll per ps k)) (lind per ps k) := by
        have := busyL_take hg
        rw [lindAll_take (Nat.le_refl _), lindAll_take (by omega)] at this
        exact this
      rw [busyL_take hx, ef, s3]
      have ebeg : (lind per ps k).beg = max (lto per ps k) (tickOf ps k) := rfl
      have efin : (lind per ps k).fin = lto per ps (k + 1) := rfl
      have hnn := bytes_low ho hper k
      have hup : lto per ps k ≤ lto per ps (k + 1) := lto_mono ho hper 1
      rcases ih (by omega) with rfl | ⟨r, s, e1, e2⟩
      · refine ⟨[], (l[0]).beg, rfl, ?_⟩
        have e0 : busyL (lindAll per ps 0) = [] := rfl
        rw [e0, busyStep_nil, ebeg, efin, List.nil_append]
        have et : (l[0]).beg = max (lto per ps 0) (tickOf ps 0) := by
          by_cases hi : lastFin (l.take 0) < (l[0]).beg
          · obtain ⟨i1, i2⟩ := hb.idle hi
            have := hb.same.1 hi
            omega
          · have h3 : ¬ lto per ps 0 < tickOf ps 0 := fun h' => hi (hb.same.2 h')
            have h4 : lastFin (l.take 0) = lto per ps 0 := rfl
            omega
        rw [et]
      · rw [e1, e2]
        by_cases hi : lastFin (l.take k) < (l[k]).beg
        · obtain ⟨i1, i2⟩ := hb.idle hi
          have i3 := hb.same.1 hi
          rw [busyStep_far _ _ _ _ hi, busyStep_far _ _ _ _ (by rw [ebeg]; omega), ebeg, efin, i1, i2]
          refine ⟨r ++ [(s, lto per ps k)], tickOf ps k, rfl, ?_⟩
          rw [show max (lto per ps k) (tickOf ps k) = tickOf ps k by omega]
        · have h3 : ¬ lto per ps k < tickOf ps k := fun h' => hi (hb.same.2 h')
          rw [busyStep_near _ _ _ _ hi, busyStep_near _ _ _ _ (by rw [ebeg]; omega), efin]
          refine ⟨r, s, ?_, ?_⟩
          · rw [show max (lastFin (l.take k)) (l[k]).fin = (l[k]).fin by omega]
          · rw [show max (lto per ps k) (lto per ps (k + 1)) = lto per ps (k + 1) by omega]
  rcases key l.length (Nat.le_refl _) with e | ⟨r, s, e1, e2⟩
  · have h1 : l = [] := List.length_eq_zero_iff.1 e
    rw [h1, ← hl, h1]
    rfl
  · obtain ⟨n1, n2, n3, -⟩ := h.nums l.length (Nat.le_refl _)
    have hall := all_of n1 n2 (by rw [hl]; rw [hl] at n3; exact n3)
    have hw := same_of (f := fun i => per * bytesOf ps i) (bytes_low ho hper) n1 (List.nodup_range (n := l.length)) fun a => by rw [hall, List.mem_range]
    have hb := (h.beside ho hper l.length (Nat.le_refl _)).1
    unfold lostAt workOf at hb
    rw [List.take_length] at e1 hb hw
    rw [e1, ← hl, e2]
    rw [show lastFin l = lto per ps l.length by omega]
/-- What is asked of one that is sent behind those. -/
structure MayOne (per : Int) (ps : List Pk) (out : List Sn) (x : Sn) : Prop where
  num : ∃ k : Nat, x.num = k ∧ k < ps.length ∧ isDone out k = false
  old : tickOf ps x.num.toNat ≤ x.beg ∧ lastFin out ≤ x.beg
  shape : x.fin = x.beg + per * bytesOf ps x.num.toNat
  idle : lastFin out < x.beg → ∀ i, i < ps.length → isDone out i = false → x.beg ≤ tickOf ps i
  turn : ∀ i, i < x.num.toNat → flowOf ps i = flowOf ps x.num.toNat → isDone out i = true
theorem Conv.may (ho : OkPks ps) (hper : 1 ≤ per) (h : Conv per ps l) (ht : Turns ps l) {k : Nat} {x : Sn} (hx : l[k]? = some x) : MayOne per ps (l.take k) x := by
  obtain ⟨s1, -, -, s4, s5, s6⟩ := h.step ho hper hx
  obtain ⟨t, b, h1, h2, -, e⟩ := h k x hx
  have et : x.beg = t := by rw [e]
  refine ⟨⟨b, by rw [e], undone_iff.1 h2⟩, ⟨s4, s1⟩, s5, fun hi i hin hd => ?_, fun i hi hf => ?_⟩
  · rw [et] at hi ⊢
    rcases h1 with ⟨rfl, -⟩ | ⟨-, j, -, rfl, hm⟩
    · omega
    · exact hm i (undone_iff.2 ⟨hin, hd⟩)
  · have := ht k x hx i hi hf
    cases hd : isDone (l.take k) i with
    | true => rfl
    | false => exact absurd (undone_iff.2 ⟨by omega, hd⟩) this
theorem Conv.all (h : Conv per ps l) (hl : l.length = ps.length) {j : Nat} (hj : j < ps.length) : isDone l j = true := by
  obtain ⟨n1, n2, n3, n4⟩ := h.nums l.length (Nat.le_refl _)
  have hm := (all_of n1 n2 (fun i hi => by have := n3 i hi; omega) j).2 (by omega)
  obtain ⟨x, x1, x2⟩ := (n4 j).1 hm
  cases hd : isDone l j with
  | true => rfl
  | false => exact absurd x2 (isDone_false.1 hd x (List.mem_of_mem_take x1))
theorem rank_turns (ho : OkPks ps) {ns : List Int} (h : Sched per ps (rankKeys ps ns) l) : Turns ps l := by
  refine h.turns ho fun i j hij hj hf => ?_
  have e : ∀ k, k < ps.length → (rankKeys ps ns).getD k 0 = ofFlow ps ns k := fun k hk => by simp [rankKeys, List.getD, hk]
  rw [e i (by omega), e j hj]
  unfold ofFlow
  rw [hf]
  exact Int.le_refl _
theorem due_turns (ho : OkPks ps) {ns : List Int} (h : Sched per ps (dueKeys ps ns) l) : Turns ps l := by
  refine h.turns ho fun i j hij hj hf => ?_
  have e : ∀ k, k < ps.length → (dueKeys ps ns).getD k 0 = tickOf ps k + ofFlow ps ns k := fun k hk => by simp [dueKeys, List.getD, hk]
  rw [e i (by omega), e j hj]
  have := ticks_le ho (Nat.le_of_lt hij) hj
  unfold ofFlow
  rw [hf]
  omega
/-- In order. -/
theorem lind_may (ho : OkPks ps) : Conv per ps (lindAll per ps ps.length) ∧ Turns ps (lindAll per ps ps.length) := by
  have h := lind_sched (per := per) ho [] (fun _ => rfl)
  exact ⟨h.conv, h.turns ho fun _ _ _ _ _ => Int.le_refl _⟩
end
end Go.Proofs.YtolbmkniafkeaaaDoor

/- Plain facts: is it what a link may do? What is wrong with one that is sent, by the error's number. No Go text is named here. -/
namespace Go.Proofs.YtolbmkniafkeaaaDoor

section
variable (per : Int) (ps : List Pk) (out : List Sn) (x : Sn)
/-- The link is idle though one has come that was not sent. -/
def IdlesAt : Prop := lastFin out < x.beg ∧ ∃ i, i < ps.length ∧ isDone out i = false ∧ tickOf ps i < x.beg
/-- One of its flow is ahead of it, and was not sent. -/
def OutOfTurn (k : Nat) : Prop := ∃ i, i < k ∧ isDone out i = false ∧ flowOf ps i = flowOf ps k
/-- What is wrong with one that is sent behind those; 0: nothing. -/
def SentIs (c : Int) : Prop :=
  (c = 4 ∧ (x.num < 0 ∨ (ps.length : Int) ≤ x.num)) ∨ ∃ k : Nat, x.num = k ∧ k < ps.length ∧ ((c = 4 ∧ isDone out k = true) ∨ (isDone out k = false ∧
    ((c = 5 ∧ (x.beg < tickOf ps k ∨ x.beg < lastFin out)) ∨ (tickOf ps k ≤ x.beg ∧ lastFin out ≤ x.beg ∧
      ((c = 3 ∧ x.fin - x.beg ≠ per * bytesOf ps k) ∨ (x.fin - x.beg = per * bytesOf ps k ∧
        ((c = 7 ∧ IdlesAt ps out x) ∨ (¬ IdlesAt ps out x ∧ ((c = 8 ∧ OutOfTurn ps out k) ∨ (c = 0 ∧ ¬ OutOfTurn ps out k))))))))))
theorem sentIs_is : ∃ c, SentIs per ps out x c := by
  by_cases h1 : x.num < 0 ∨ (ps.length : Int) ≤ x.num
  · exact ⟨4, .inl ⟨rfl, h1⟩⟩
  · obtain ⟨k, hk⟩ : ∃ k : Nat, x.num = k := ⟨x.num.toNat, by omega⟩
    have hkl : k < ps.length := by omega
    cases h2 : isDone out k with
    | true => exact ⟨4, .inr ⟨k, hk, hkl, .inl ⟨rfl, h2⟩⟩⟩
    | false =>
      by_cases h3 : x.beg < tickOf ps k ∨ x.beg < lastFin out
      · exact ⟨5, .inr ⟨k, hk, hkl, .inr ⟨h2, .inl ⟨rfl, h3⟩⟩⟩⟩
      · have h3' : tickOf ps k ≤ x.beg ∧ lastFin out ≤ x.beg := by omega
        by_cases h4 : x.fin - x.beg = per * bytesOf ps k
        · by_cases h5 : IdlesAt ps out x
          · exact ⟨7, .inr ⟨k, hk, hkl, .inr ⟨h2, .inr ⟨h3'.1, h3'.2, .inr ⟨h4, .inl ⟨rfl, h5⟩⟩⟩⟩⟩⟩
          · by_cases h6 : OutOfTurn ps out k
            · exact ⟨8, .inr ⟨k, hk, hkl, .inr ⟨h2, .inr ⟨h3'.1, h3'.2, .inr ⟨h4, .inr ⟨h5, .inl ⟨rfl, h6⟩⟩⟩⟩⟩⟩⟩
            · exact ⟨0, .inr ⟨k, hk, hkl, .inr ⟨h2, .inr ⟨h3'.1, h3'.2, .inr ⟨h4, .inr ⟨h5, .inr ⟨rfl, h6⟩⟩⟩⟩⟩⟩⟩
        · exact ⟨3, .inr ⟨k, hk, hkl, .inr ⟨h2, .inr ⟨h3'.1, h3'.2, .inl ⟨rfl, h4⟩⟩⟩⟩⟩
variable {per ps out x}
theorem SentIs.may (h : SentIs per ps out x 0) : MayOne per ps out x := by
  rcases h with ⟨h, -⟩ | ⟨k, hk, hkl, ⟨h, -⟩ | ⟨hd, ⟨h, -⟩ | ⟨h1, h2, ⟨h, -⟩ | ⟨h3, ⟨h, -⟩ | ⟨h4, ⟨h, -⟩ | ⟨-, h5⟩⟩⟩⟩⟩⟩
  · omega
  · omega
  · omega
  · omega
  · omega
  · omega
  · refine ⟨⟨k, hk, hkl, hd⟩, by rw [hk, Int.toNat_natCast]; exact ⟨h1, h2⟩, by rw [hk, Int.toNat_natCast]; omega, fun hi i hil hid => ?_, fun i hi hf => ?_⟩
    · rcases Int.lt_or_le (tickOf ps i) x.beg with h' | h'
      · exact absurd ⟨hi, i, hil, hid, h'⟩ h4
      · exact h'
    · rw [hk, Int.toNat_natCast] at hi hf
      cases hdi : isDone out i with
      | true => rfl
      | false => exact absurd ⟨i, hi, hdi, hf⟩ h5
theorem MayOne.is (h : MayOne per ps out x) : SentIs per ps out x 0 := by
  obtain ⟨k, hk, hkl, hd⟩ := h.num
  have e : x.num.toNat = k := by rw [hk]; simp
  have h1 := h.old
  have h2 := h.shape
  rw [e] at h1 h2
  refine .inr ⟨k, hk, hkl, .inr ⟨hd, .inr ⟨h1.1, h1.2, .inr ⟨by omega, .inr ⟨fun hi => ?_, .inr ⟨rfl, fun ht => ?_⟩⟩⟩⟩⟩⟩
  · obtain ⟨g1, i, g2, g3, g4⟩ := hi
    have := h.idle g1 i g2 g3
    omega
  · obtain ⟨i, g1, g2, g3⟩ := ht
    have := h.turn i (by rw [e]; exact g1) (by rw [e]; exact g3)
    rw [g2] at this
    cases this
theorem SentIs.range {c : Int} (h : SentIs per ps out x c) : 0 ≤ c ∧ c ≤ 8 := by
  rcases h with ⟨h, -⟩ | ⟨k, -, -, ⟨h, -⟩ | ⟨-, ⟨h, -⟩ | ⟨-, -, ⟨h, -⟩ | ⟨-, ⟨h, -⟩ | ⟨-, ⟨h, -⟩ | ⟨h, -⟩⟩⟩⟩⟩⟩ <;> omega
/-- There is but one answer. -/
theorem SentIs.same {c d : Int} (h : SentIs per ps out x c) (h' : SentIs per ps out x d) : c = d := by
  rcases h with ⟨rfl, h1⟩ | ⟨k, hk, hkl, hr⟩
  · rcases h' with ⟨rfl, -⟩ | ⟨k', hk', hkl', -⟩
    · rfl
    · omega
  · rcases h' with ⟨rfl, h1⟩ | ⟨k', hk', hkl', hr'⟩
    · omega
    · obtain rfl : k = k' := by omega
      rcases hr with ⟨rfl, a⟩ | ⟨a, hr⟩
      · rcases hr' with ⟨rfl, -⟩ | ⟨b, -⟩
        · rfl
        · rw [a] at b; cases b
      · rcases hr' with ⟨-, b⟩ | ⟨-, hr'⟩
        · rw [a] at b; cases b
        · rcases hr with ⟨rfl, a1⟩ | ⟨a1, a2, hr⟩
          · rcases hr' with ⟨rfl, -⟩ | ⟨b1, b2, -⟩
            · rfl
            · omega
          · rcases hr' with ⟨-, b1⟩ | ⟨-, -, hr'⟩
            · omega
            · rcases hr with ⟨rfl, a3⟩ | ⟨a3, hr⟩
              · rcases hr' with ⟨rfl, -⟩ | ⟨b3, -⟩
                · rfl
                · exact absurd b3 a3
              · rcases hr' with ⟨-, b3⟩ | ⟨-, hr'⟩
                · exact absurd a3 b3
                · rcases hr with ⟨rfl, a4⟩ | ⟨a4, hr⟩
                  · rcases hr' with ⟨rfl, -⟩ | ⟨b4, -⟩
                    · rfl
                    · exact absurd a4 b4
                  · rcases hr' with ⟨-, b4⟩ | ⟨-, hr'⟩
                    · exact absurd b4 a4
                    · rcases hr with ⟨rfl, a5⟩ | ⟨rfl, a5⟩
                      · rcases hr' with ⟨rfl, -⟩ | ⟨-, b5⟩
                        · rfl
                        · exact absurd a5 b5
                      · rcases hr' with ⟨-, b5⟩ | ⟨rfl, -⟩
                        · exact absurd b5 a5
                        · rfl
end

/-- What is wrong with what was sent, by the error's number and place, where packets and ticks are right. -/
def AuditIs (per : Int) (ps : List Pk) (l : List Sn) (c p : Int) : Prop :=
  (∃ (i : Nat) (x : Sn), l[i]? = some x ∧ SentIs per ps (l.take i) x c ∧ 0 < c ∧ p = i ∧ ∀ (j : Nat) y, j < i → l[j]? = some y → MayOne per ps (l.take j) y) ∨
    ((∀ (j : Nat) y, l[j]? = some y → MayOne per ps (l.take j) y) ∧ p = -1 ∧ ((c = 4 ∧ ∃ i, i < ps.length ∧ isDone l i = false) ∨ (c = 0 ∧ ∀ i, i < ps.length → isDone l i = true)))
theorem auditIs_is (per : Int) (ps : List Pk) (l : List Sn) : ∃ c p, AuditIs per ps l c p := by
  have key : ∀ k, k ≤ l.length → (∀ (j : Nat) y, j < k → l[j]? = some y → MayOne per ps (l.take j) y) ∨ ∃ c p, AuditIs per ps l c p := by
    intro k
    induction k with
    | zero => intro _; exact .inl fun j y h => absurd h (Nat.not_lt_zero _)
    | succ k ih =>
      intro hk
      rcases ih (by omega) with h | h
      · have e : l[k]? = some l[k] := List.getElem?_eq_getElem (by omega)
        obtain ⟨c, hc⟩ := sentIs_is per ps (l.take k) l[k]
        rcases Int.lt_or_le 0 c with h0 | h0
        · exact .inr ⟨c, k, .inl ⟨k, _, e, hc, h0, rfl, h⟩⟩
        · have hr := hc.range
          have : c = 0 := by omega
          subst this
          refine .inl fun j y hj hy => ?_
          rcases Nat.lt_or_ge j k with h' | h'
          · exact h j y h' hy
          · obtain rfl : j = k := by omega
            rw [e] at hy
            obtain rfl := Option.some.inj hy
            exact hc.may
      · exact .inr h
  rcases key l.length (Nat.le_refl _) with h | h
  · have hall : ∀ (j : Nat) y, l[j]? = some y → MayOne per ps (l.take j) y := fun j y hy => h j y (lt_of_get hy) hy
    by_cases hd : ∃ i, i < ps.length ∧ isDone l i = false
    · exact ⟨4, -1, .inr ⟨hall, rfl, .inl ⟨rfl, hd⟩⟩⟩
    · refine ⟨0, -1, .inr ⟨hall, rfl, .inr ⟨rfl, fun i hi => ?_⟩⟩⟩
      cases e : isDone l i with
      | true => rfl
      | false => exact absurd ⟨i, hi, e⟩ hd
  · exact h
/-- What a link does is what a link may do. -/
theorem Conv.audit {per : Int} {ps : List Pk} {l : List Sn} (ho : OkPks ps) (hper : 1 ≤ per) (h : Conv per ps l) (ht : Turns ps l) (hl : l.length = ps.length) : AuditIs per ps l 0 (-1) :=
  .inr ⟨fun _ _ hy => h.may ho hper ht hy, rfl, .inr ⟨rfl, fun _ hi => h.all hl hi⟩⟩
/-- The first one that is wrong tells. -/
theorem AuditIs.first {per : Int} {ps : List Pk} {l : List Sn} {c p d : Int} (h : AuditIs per ps l c p) {i : Nat} {x : Sn} (hx : l[i]? = some x) (hs : SentIs per ps (l.take i) x d) (h0 : 0 < d) (hall : ∀ (j : Nat) y, j < i → l[j]? = some y → MayOne per ps (l.take j) y) : c = d ∧ p = i := by
  rcases h with ⟨i', x', hx', hs', h0', rfl, hall'⟩ | ⟨hall', -, -⟩
  · rcases Nat.lt_trichotomy i i' with h | h | h
    · have := (hall' i x h hx).is.same hs
      omega
    · subst h
      rw [hx] at hx'
      obtain rfl := Option.some.inj hx'
      exact ⟨hs'.same hs, rfl⟩
    · have := (hall i' x' h hx').is.same hs'
      omega
  · have := (hall' i x hx).is.same hs
    omega
/-- Where none is wrong, all or not all were sent. -/
theorem AuditIs.last {per : Int} {ps : List Pk} {l : List Sn} {c p : Int} (h : AuditIs per ps l c p) (hall : ∀ (j : Nat) y, l[j]? = some y → MayOne per ps (l.take j) y) : p = -1 ∧ ((c = 4 ∧ ∃ i, i < ps.length ∧ isDone l i = false) ∨ (c = 0 ∧ ∀ i, i < ps.length → isDone l i = true)) := by
  rcases h with ⟨i', x', hx', hs', h0', -, -⟩ | ⟨-, h1, h2⟩
  · have := (hall i' x' hx').is.same hs'
    omega
  · exact ⟨h1, h2⟩
end Go.Proofs.YtolbmkniafkeaaaDoor
