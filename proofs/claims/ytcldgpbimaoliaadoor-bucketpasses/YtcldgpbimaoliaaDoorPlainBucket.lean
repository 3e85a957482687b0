/- Plain facts on buckets: no Go text is named here. A bucket counts in thousandths: what it has at most, what it gets in a tick, what it has at its last tick. -/
import Derived.Test.YtcldgpbimaoliaaDoorPlainRises
namespace Go.Proofs.YtcldgpbimaoliaaDoor

structure Bk where
  most : Int
  rate : Int
  has : Int
  last : Int

structure Bk.Ok (b : Bk) : Prop where
  m0 : 1000 ≤ b.most
  m1 : b.most ≤ 20000000
  r0 : 0 ≤ b.rate
  r1 : b.rate ≤ 100000
  h0 : 0 ≤ b.has
  h1 : b.has ≤ b.most
  l0 : 0 ≤ b.last
  l1 : b.last ≤ 1099511627776

/-- What it has at a tick. -/
def Bk.lev (b : Bk) (t : Int) : Int := min b.most (b.has + b.rate * (t - b.last))
/-- The bucket behind an asking at tick t for n bytes. -/
def Bk.take (b : Bk) (t n : Int) : Bk := if n * 1000 ≤ b.lev t then ⟨b.most, b.rate, b.lev t - n * 1000, t⟩ else ⟨b.most, b.rate, b.lev t, t⟩
/-- The first tick from t on at which it has n bytes. -/
def Bk.when (b : Bk) (t n : Int) : Option Int :=
  if n * 1000 ≤ b.lev t then some t
  else if b.most < n * 1000 ∨ b.rate = 0 then none
  else if 1099511627776 - t < (n * 1000 - b.lev t + b.rate - 1) / b.rate then none
  else some (t + (n * 1000 - b.lev t + b.rate - 1) / b.rate)
/-- What is asked amiss: an error's number. -/
def tickErr (last t : Int) : Nat := if 0 ≤ t ∧ t ≤ 1099511627776 then (if t < last then 5 else 0) else 2
def askErr (last t n : Int) : Nat := if 1 ≤ n ∧ n ≤ 1500 then tickErr last t else 2
theorem tickErr_ok {last t : Int} : tickErr last t = 0 ↔ 0 ≤ t ∧ t ≤ 1099511627776 ∧ last ≤ t := by unfold tickErr; split <;> (try split) <;> simp <;> omega
theorem askErr_ok {last t n : Int} : askErr last t n = 0 ↔ 1 ≤ n ∧ n ≤ 1500 ∧ 0 ≤ t ∧ t ≤ 1099511627776 ∧ last ≤ t := by unfold askErr; split <;> simp [tickErr_ok] <;> omega
/-- The bucket of a line. -/
def bkOf (p : Int × Int) : Bk := ⟨p.1 * 1000, p.2, p.1 * 1000, 0⟩

theorem bkOf_ok {p : Int × Int} (h : okLine p.1 p.2 = true) : (bkOf p).Ok := by
  obtain ⟨a, b, c, d⟩ := okLine_true h
  constructor <;> simp [bkOf] <;> omega

theorem mul_split (r a b c : Int) : r * (a - c) = r * (b - c) + r * (a - b) := by
  simp only [Int.mul_sub]; omega
theorem Bk.Ok.grow {b : Bk} (h : b.Ok) {t : Int} (ht : b.last ≤ t) (t1 : t ≤ 1099511627776) : 0 ≤ b.rate * (t - b.last) ∧ b.rate * (t - b.last) ≤ 109951162777600000 :=
  mul_bd h.r0 h.r1 (by omega) (by have := h.l0; omega)
theorem Bk.Ok.lev_bd {b : Bk} (h : b.Ok) {t : Int} (ht : b.last ≤ t) : 0 ≤ b.lev t ∧ b.lev t ≤ b.most := by
  have := Int.mul_nonneg h.r0 (show 0 ≤ t - b.last by omega)
  have := h.h0; have := h.h1; have := h.m0
  unfold Bk.lev; omega
theorem Bk.lev_mono {b : Bk} (h : 0 ≤ b.rate) {s t : Int} (hs : s ≤ t) : b.lev s ≤ b.lev t := by
  have := mul_split b.rate t s b.last
  have := Int.mul_nonneg h (show 0 ≤ t - s by omega)
  unfold Bk.lev; omega
theorem Bk.Ok.take {b : Bk} (h : b.Ok) {t n : Int} (ht : b.last ≤ t) (t1 : t ≤ 1099511627776) (hn : 0 ≤ n) : (b.take t n).Ok := by
  have := h.lev_bd ht
  have := h.l0
  unfold Bk.take
  split <;> exact ⟨h.m0, h.m1, h.r0, h.r1, by simp; omega, by simp; omega, by simp; omega, by simp; omega⟩
theorem Bk.take_last (b : Bk) (t n : Int) : (b.take t n).last = t := by unfold Bk.take; split <;> rfl
theorem Bk.take_most (b : Bk) (t n : Int) : (b.take t n).most = b.most := by unfold Bk.take; split <;> rfl
theorem Bk.take_rate (b : Bk) (t n : Int) : (b.take t n).rate = b.rate := by unfold Bk.take; split <;> rfl

/-- Division up. -/
theorem div_up {r x : Int} (hr : 0 < r) : x ≤ r * ((x + r - 1) / r) ∧ r * ((x + r - 1) / r) < x + r := by
  have h1 := Int.mul_ediv_add_emod (x + r - 1) r
  have h2 := Int.emod_nonneg (x + r - 1) (show r ≠ 0 by omega)
  have h3 := Int.emod_lt_of_pos (x + r - 1) hr
  omega

theorem Bk.when_some {b : Bk} (h : b.Ok) {t n T : Int} (t1 : t ≤ 1099511627776) (e : b.when t n = some T) :
    t ≤ T ∧ T ≤ 1099511627776 ∧ n * 1000 ≤ b.lev T ∧ ∀ s, t ≤ s → s < T → b.lev s < n * 1000 := by
  unfold Bk.when at e
  split at e
  · rename_i h1
    cases e
    exact ⟨Int.le_refl _, t1, h1, fun s h2 h3 => by omega⟩
  · rename_i h1
    split at e
    · cases e
    · rename_i h2
      split at e
      · cases e
      · rename_i h3
        have hr : 0 < b.rate := by have := h.r0; omega
        have hd := div_up (r := b.rate) (x := n * 1000 - b.lev t) hr
        have hm : ¬ b.most < n * 1000 := fun h => h2 (.inl h)
        generalize hk : (n * 1000 - b.lev t + b.rate - 1) / b.rate = k at e h3 hd
        cases e
        have hk0 : 0 < k := by
          by_cases h0 : 0 < k
          · exact h0
          · have := Int.mul_le_mul_of_nonneg_left (show k ≤ 0 by omega) h.r0
            simp at this; omega
        have hlt : b.lev t = b.has + b.rate * (t - b.last) := by unfold Bk.lev at h1 ⊢; omega
        have hT := mul_split b.rate (t + k) t b.last
        rw [show t + k - t = k by omega] at hT
        refine ⟨by omega, by omega, ?_, fun s h4 h5 => ?_⟩
        · unfold Bk.lev; omega
        · have hS := mul_split b.rate s t b.last
          have h6 : b.rate * (s - t) ≤ b.rate * (k - 1) := Int.mul_le_mul_of_nonneg_left (by omega) h.r0
          have h7 : b.rate * (k - 1) = b.rate * k - b.rate := by simp [Int.mul_sub]
          unfold Bk.lev; omega
theorem Bk.when_none {b : Bk} (h : b.Ok) {t n : Int} (e : b.when t n = none) :
    ∀ s, t ≤ s → s ≤ 1099511627776 → b.lev s < n * 1000 := by
  intro s hs s1
  unfold Bk.when at e
  split at e
  · cases e
  · rename_i h1
    split at e
    · rename_i h2
      rcases h2 with h2 | h2
      · unfold Bk.lev; omega
      · have := h.h1
        unfold Bk.lev at h1 ⊢; rw [h2] at h1 ⊢; omega
    · rename_i h2
      split at e
      · rename_i h3
        have hr : 0 < b.rate := by have := h.r0; omega
        have hd := div_up (r := b.rate) (x := n * 1000 - b.lev t) hr
        have hm : ¬ b.most < n * 1000 := fun h => h2 (.inl h)
        generalize hk : (n * 1000 - b.lev t + b.rate - 1) / b.rate = k at e h3 hd
        have hlt : b.lev t = b.has + b.rate * (t - b.last) := by unfold Bk.lev at h1 ⊢; omega
        have hS := mul_split b.rate s t b.last
        have h6 : b.rate * (s - t) ≤ b.rate * (k - 1) := Int.mul_le_mul_of_nonneg_left (by omega) h.r0
        have h7 : b.rate * (k - 1) = b.rate * k - b.rate := by simp [Int.mul_sub]
        unfold Bk.lev; omega
      · cases e
end Go.Proofs.YtcldgpbimaoliaaDoor
