/- Own facts, put together: no statement of its own. -/
import Derived.Test.YtibhkijaafdkoaaGreatDoorK07
import Derived.Test.YtibhkijaafdkoaaGreatDoorK01
import Derived.Test.YtibhkijaafdkoaaGreatDoorChecked
import Derived.WalkKit
import Derived.WalkSpells
import Derived.WalkLawsBesides
import Derived.BigQuiet
import Derived.LaidEql
import Derived.Stop.Asserts
import Derived.RowKitTokens
namespace Go.Proofs.YtibhkijaafdkoaaGreatDoor
theorem pop_keeps {a x : Int × Int} {L : List (Int × Int)} (ha : SomeOf a L) (hx : x ∈ L) (T : List (Int × Int)) : StackOk T → Behind x T → (∀ s, s ∈ T → s ∈ L) → a ∈ T → a ∈ x :: popT x T := by
 induction T with
 | nil => intro _ _ _ h; cases h
 | cons t r ih =>
  intro hT hb hs h
  have hpc := List.pairwise_cons.1 hT
  unfold popT
  split
  ·
   next hc =>
   rcases List.mem_cons.1 h with rfl | h
   ·
    by_cases hne : x = a
    · rw [hne]; exact List.mem_cons_self ..
    ·
     exfalso
     rcases hb a (List.mem_cons_self ..) with h2 | ⟨h2, h1⟩
     ·
      have h1 := ha.flat x hx h2
      match r, hc, hpc, hs with
      | [], hc, _, _ => have := of_decide_eq_true hc; omega
      | u :: r, hc, hpc, hs =>
       have hc' : (decide (x.1 ≤ a.1) || decide ((x.1 - a.1) * (u.2 - a.2) ≤ (a.1 - u.1) * (a.2 - x.2))) = true := hc
       rw [Bool.or_eq_true] at hc'
       rcases hc' with h | h
       · have := of_decide_eq_true h; omega
       ·
        have h := of_decide_eq_true h
        have := ha.both u (hs u (by simp)) x hx (hpc.1 u (List.mem_cons_self ..)).1 h2
        omega
     ·
      have := ha.same x hx h2 hne
      omega
   · exact ih hpc.2 (fun y hy => hb y (List.mem_cons_of_mem _ hy)) (fun y hy => hs y (List.mem_cons_of_mem _ hy)) h
  · exact List.mem_cons_of_mem _ h
theorem low_keeps {a : Int × Int} {L : List (Int × Int)} (ha : SomeOf a L) (l : List (Int × Int)) : ∀ T, StackOk T → (∀ x, x ∈ l → Behind x T) → l.Pairwise (fun a b => b.2 < a.2 ∨ (b.2 = a.2 ∧ b.1 ≤ a.1)) → (∀ s, s ∈ T → s ∈ L) → (∀ s, s ∈ l → s ∈ L) → a ∈ T ∨ a ∈ l → a ∈ lowT T l := by
 induction l with
 | nil => intro T _ _ _ _ _ h; rcases h with h | h; exact h; cases h
 | cons x r ih =>
  intro T hT hb hs hTL hlL h
  have hpc := List.pairwise_cons.1 hs
  have hx := hb x (List.mem_cons_self ..)
  have hxL := hlL x (List.mem_cons_self ..)
  refine ih (x :: popT x T) (stack_push hT hx) (fun y hy s hs' => ?_) hpc.2 (fun s hs' => ?_) (fun s hs' => hlL s (List.mem_cons_of_mem _ hs')) ?_
  ·
   rcases List.mem_cons.1 hs' with rfl | hs'
   · exact hpc.1 y hy
   · exact hb y (List.mem_cons_of_mem _ hy) s (popT_sub x T s hs')
  ·
   rcases List.mem_cons.1 hs' with rfl | hs'
   · exact hxL
   · exact hTL s (popT_sub x T s hs')
  ·
   rcases h with h | h
   · exact .inl (pop_keeps ha hxL T hT hx hTL h)
   ·
    rcases List.mem_cons.1 h with rfl | h
    · exact .inl (List.mem_cons_self ..)
    · exact .inr h
def hgt (n d : Int) (p : Int × Int) : Int := d * p.1 + n * p.2
theorem fwd {p q n1 d1 n2 d2 : Int} (hd1 : 0 < d1) (hd2 : 0 < d2) (hq : 0 ≤ q * (n2 * d1 - n1 * d2)) (h : 0 ≤ d1 * p + n1 * q) : 0 ≤ d2 * p + n2 * q := by
 have h1 : 0 ≤ d2 * (d1 * p + n1 * q) := Int.mul_nonneg (Int.le_of_lt hd2) h
 have h2 : d1 * (d2 * p + n2 * q) = d2 * (d1 * p + n1 * q) + q * (n2 * d1 - n1 * d2) := by simp only [Int.mul_add, Int.mul_sub, Int.mul_comm, Int.mul_left_comm]; omega
 have h3 : 0 ≤ d1 * (d2 * p + n2 * q) := by omega
 exact Int.nonneg_of_mul_nonneg_right h3 hd1
theorem hgt_up {a b : Int × Int} {n1 d1 n2 d2 : Int} (hd1 : 0 < d1) (hd2 : 0 < d2) (hq : a.2 ≤ b.2) (ht : n1 * d2 ≤ n2 * d1) (h : hgt n1 d1 a ≤ hgt n1 d1 b) : hgt n2 d2 a ≤ hgt n2 d2 b := by
 unfold hgt at *
 have := fwd (p := b.1 - a.1) (q := b.2 - a.2) (n1 := n1) (d1 := d1) (n2 := n2) (d2 := d2) hd1 hd2 (Int.mul_nonneg (by omega) (by omega)) (by simp only [Int.mul_sub]; omega)
 simp only [Int.mul_sub] at this
 omega
theorem hgt_down {a b : Int × Int} {n1 d1 n2 d2 : Int} (hd1 : 0 < d1) (hd2 : 0 < d2) (hq : b.2 ≤ a.2) (ht : n2 * d1 ≤ n1 * d2) (h : hgt n1 d1 a ≤ hgt n1 d1 b) : hgt n2 d2 a ≤ hgt n2 d2 b := by
 unfold hgt at *
 have := fwd (p := b.1 - a.1) (q := b.2 - a.2) (n1 := n1) (d1 := d1) (n2 := n2) (d2 := d2) hd1 hd2 (by
  have : 0 ≤ (a.2 - b.2) * (n1 * d2 - n2 * d1) := Int.mul_nonneg (by omega) (by omega)
  have e : (b.2 - a.2) * (n2 * d1 - n1 * d2) = (a.2 - b.2) * (n1 * d2 - n2 * d1) := by simp only [Int.mul_sub, Int.mul_comm, Int.mul_left_comm]; omega
  omega) (by simp only [Int.mul_sub]; omega)
 simp only [Int.mul_sub] at this
 omega
def loN : List (Int × Int) → Int
 | t :: u :: _ => t.1 - u.1
 | _ => 0
def loD : List (Int × Int) → Int
 | t :: u :: _ => u.2 - t.2
 | _ => 1
theorem lo_bd {T : List (Int × Int)} (h : StackOk T) : 0 ≤ loN T ∧ 0 < loD T := by
 match T, h with
 | [], _ => exact ⟨Int.le_refl _, Int.one_pos⟩
 | [_], _ => exact ⟨Int.le_refl _, Int.one_pos⟩
 | t :: u :: r, h =>
  have := (List.pairwise_cons.1 h).1 u (List.mem_cons_self ..)
  show 0 ≤ t.1 - u.1 ∧ 0 < u.2 - t.2
  omega
theorem lo_meet (t u : Int × Int) (r : List (Int × Int)) : hgt (loN (t :: u :: r)) (loD (t :: u :: r)) t = hgt (loN (t :: u :: r)) (loD (t :: u :: r)) u := by
 simp only [hgt, loN, loD, Int.mul_sub, Int.mul_comm]; omega
theorem cov_lo {x t : Int × Int} {r : List (Int × Int)} (hT : StackOk (t :: r)) (hx : x.2 ≤ t.2) : coveredT x (t :: r) = true ↔ hgt (loN (t :: r)) (loD (t :: r)) x ≤ hgt (loN (t :: r)) (loD (t :: r)) t := by
 match r, hT with
 | [], _ =>
  show decide (x.1 ≤ t.1) = true ↔ 1 * x.1 + 0 * x.2 ≤ 1 * t.1 + 0 * t.2
  rw [decide_eq_true_iff]; omega
 | u :: r, hT =>
  have hu := (List.pairwise_cons.1 hT).1 u (List.mem_cons_self ..)
  show (decide (x.1 ≤ t.1) || decide ((x.1 - t.1) * (u.2 - t.2) ≤ (t.1 - u.1) * (t.2 - x.2))) = true ↔ (u.2 - t.2) * x.1 + (t.1 - u.1) * x.2 ≤ (u.2 - t.2) * t.1 + (t.1 - u.1) * t.2
  have e : (t.1 - u.1) * (t.2 - x.2) - (x.1 - t.1) * (u.2 - t.2) = ((u.2 - t.2) * t.1 + (t.1 - u.1) * t.2) - ((u.2 - t.2) * x.1 + (t.1 - u.1) * x.2) := by simp only [Int.mul_sub, Int.mul_comm]; omega
  rw [Bool.or_eq_true, decide_eq_true_iff, decide_eq_true_iff]
  constructor
  ·
   rintro (h | h)
   ·
    have h1 := Int.mul_le_mul_of_nonneg_left h (show 0 ≤ u.2 - t.2 by omega)
    have h2 := Int.mul_le_mul_of_nonneg_left hx (show 0 ≤ t.1 - u.1 by omega)
    omega
   · omega
  · intro h; exact .inr (by omega)
def LoOk (P : List (Int × Int)) : List (Int × Int) → Prop
 | [] => True
 | t :: r => (∀ b, b ∈ P → hgt (loN (t :: r)) (loD (t :: r)) t ≤ hgt (loN (t :: r)) (loD (t :: r)) b) ∧ (∀ u r', r = u :: r' → hgt (loN r) (loD r) u < hgt (loN r) (loD r) t) ∧ LoOk P r
def TopOk (P : List (Int × Int)) (x z : Int × Int) : Prop := (∀ b, b ∈ P → z.2 ≤ b.2) ∨ ∃ n d : Int, 0 < d ∧ (∀ b, b ∈ P → hgt n d z ≤ hgt n d b) ∧ hgt n d x ≤ hgt n d z
theorem meet_later {x z : Int × Int} {n d : Int} (h : hgt n d z < hgt n d x) : n * (z.2 - x.2) < (x.1 - z.1) * d := by
 unfold hgt at h
 have e : (x.1 - z.1) * d - n * (z.2 - x.2) = (d * x.1 + n * x.2) - (d * z.1 + n * z.2) := by simp only [Int.mul_sub, Int.mul_comm]; omega
 omega
theorem meet_later' {x z : Int × Int} {n d : Int} (h : hgt n d z ≤ hgt n d x) : n * (z.2 - x.2) ≤ (x.1 - z.1) * d := by
 unfold hgt at h
 have e : (x.1 - z.1) * d - n * (z.2 - x.2) = (d * x.1 + n * x.2) - (d * z.1 + n * z.2) := by simp only [Int.mul_sub, Int.mul_comm]; omega
 omega
theorem meet_sooner {x z : Int × Int} {n d : Int} (h : hgt n d x ≤ hgt n d z) : (x.1 - z.1) * d ≤ n * (z.2 - x.2) := by
 unfold hgt at h
 have e : (x.1 - z.1) * d - n * (z.2 - x.2) = (d * x.1 + n * x.2) - (d * z.1 + n * z.2) := by simp only [Int.mul_sub, Int.mul_comm]; omega
 omega
theorem pop_lo {P : List (Int × Int)} {x : Int × Int} (r : List (Int × Int)) : ∀ z, StackOk (z :: r) → LoOk P (z :: r) → Behind x (z :: r) → TopOk P x z →
  LoOk P (popT x (z :: r)) ∧ (∀ b, b ∈ P → hgt (loN (x :: popT x (z :: r))) (loD (x :: popT x (z :: r))) x ≤ hgt (loN (x :: popT x (z :: r))) (loD (x :: popT x (z :: r))) b) ∧
   (∀ u r', popT x (z :: r) = u :: r' → x.2 ≤ u.2 ∧ hgt (loN (u :: r')) (loD (u :: r')) u < hgt (loN (u :: r')) (loD (u :: r')) x) := by
 induction r with
 | nil =>
  intro z hT hL hb ht
  have hxz : x.2 ≤ z.2 := by have := hb z (List.mem_cons_self ..); omega
  have hcv := cov_lo hT hxz
  by_cases hc : coveredT x [z] = true
  ·
   have e : popT x [z] = [] := by unfold popT; rw [if_pos hc]; rfl
   rw [e]
   refine ⟨trivial, fun b hb' => ?_, fun u r' h => by cases h⟩
   have h1 := hL.1 b hb'
   have h2 := hcv.1 hc
   show 1 * x.1 + 0 * x.2 ≤ 1 * b.1 + 0 * b.2
   have h1' : 1 * z.1 + 0 * z.2 ≤ 1 * b.1 + 0 * b.2 := h1
   have h2' : 1 * x.1 + 0 * x.2 ≤ 1 * z.1 + 0 * z.2 := h2
   omega
  ·
   have e : popT x [z] = [z] := by unfold popT; rw [if_neg hc]
   rw [e]
   have hlt : hgt (loN [z]) (loD [z]) z < hgt (loN [z]) (loD [z]) x := by
    rcases Int.lt_or_le (hgt (loN [z]) (loD [z]) z) (hgt (loN [z]) (loD [z]) x) with h | h
    · exact h
    · exact absurd (hcv.2 h) hc
   have hlt' : 1 * z.1 + 0 * z.2 < 1 * x.1 + 0 * x.2 := hlt
   have hxz' : x.2 < z.2 := by have := hb z (List.mem_cons_self ..); omega
   refine ⟨hL, fun b hb' => ?_, fun u r' h => by cases h; exact ⟨hxz, hlt⟩⟩
   rw [lo_meet x z []]
   show hgt (x.1 - z.1) (z.2 - x.2) z ≤ hgt (x.1 - z.1) (z.2 - x.2) b
   rcases Int.le_total z.2 b.2 with hq | hq
   · exact hgt_up (n1 := 0) (d1 := 1) (by decide) (by omega) hq (by omega) (hL.1 b hb')
   ·
    rcases ht with ht | ⟨n, d, hd, h1, h2⟩
    · exact hgt_up (n1 := 0) (d1 := 1) (by decide) (by omega) (ht b hb') (by omega) (hL.1 b hb')
    · exact hgt_down hd (by omega) hq (meet_sooner h2) (h1 b hb')
 | cons u r ih =>
  intro z hT hL hb ht
  have hxz : x.2 ≤ z.2 := by have := hb z (List.mem_cons_self ..); omega
  have hcv := cov_lo hT hxz
  have hlo := lo_bd hT
  have hpc := List.pairwise_cons.1 hT
  by_cases hc : coveredT x (z :: u :: r) = true
  ·
   have e : popT x (z :: u :: r) = popT x (u :: r) := by rw [popT.eq_def]; simp only []; rw [if_pos hc]
   rw [e]
   refine ih u hpc.2 hL.2.2 (fun y hy => hb y (List.mem_cons_of_mem _ hy)) (.inr ⟨loN (z :: u :: r), loD (z :: u :: r), hlo.2, fun b hb' => ?_, ?_⟩)
   · rw [← lo_meet]; exact hL.1 b hb'
   · rw [← lo_meet]; exact hcv.1 hc
  ·
   have e : popT x (z :: u :: r) = z :: u :: r := by rw [popT.eq_def]; simp only []; rw [if_neg hc]
   rw [e]
   have hlt : hgt (loN (z :: u :: r)) (loD (z :: u :: r)) z < hgt (loN (z :: u :: r)) (loD (z :: u :: r)) x := by
    rcases Int.lt_or_le (hgt (loN (z :: u :: r)) (loD (z :: u :: r)) z) (hgt (loN (z :: u :: r)) (loD (z :: u :: r)) x) with h | h
    · exact h
    · exact absurd (hcv.2 h) hc
   have hz1 : z.1 < x.1 := covered_first (by simpa using hc)
   have hxz' : x.2 < z.2 := by have := hb z (List.mem_cons_self ..); omega
   refine ⟨hL, fun b hb' => ?_, fun u r' h => by cases h; exact ⟨hxz, hlt⟩⟩
   rw [lo_meet x z (u :: r)]
   show hgt (x.1 - z.1) (z.2 - x.2) z ≤ hgt (x.1 - z.1) (z.2 - x.2) b
   have hml := meet_later hlt
   rcases Int.le_total z.2 b.2 with hq | hq
   · exact hgt_up hlo.2 (by omega) hq (Int.le_of_lt hml) (hL.1 b hb')
   ·
    rcases ht with ht | ⟨n, d, hd, h1, h2⟩
    · exact hgt_up hlo.2 (by omega) (ht b hb') (Int.le_of_lt hml) (hL.1 b hb')
    · exact hgt_down hd (by omega) hq (meet_sooner h2) (h1 b hb')
theorem lo_more {P : List (Int × Int)} {x : Int × Int} (r : List (Int × Int)) : ∀ t, StackOk (t :: r) → LoOk P (t :: r) → (∀ s, s ∈ t :: r → s ∈ P) → x.2 ≤ t.2 → hgt (loN (t :: r)) (loD (t :: r)) t ≤ hgt (loN (t :: r)) (loD (t :: r)) x → LoOk (P ++ [x]) (t :: r) := by
 induction r with
 | nil =>
  intro t hT hL hs hx h
  refine ⟨fun b hb => ?_, hL.2.1, trivial⟩
  rcases List.mem_append.1 hb with hb | hb
  · exact hL.1 b hb
  · rw [List.mem_singleton.1 hb]; exact h
 | cons u r ih =>
  intro t hT hL hs hx h
  have hpc := List.pairwise_cons.1 hT
  have htu := hpc.1 u (List.mem_cons_self ..)
  refine ⟨fun b hb => ?_, hL.2.1, ih u hpc.2 hL.2.2 (fun s hs' => hs s (List.mem_cons_of_mem _ hs')) (by omega) ?_⟩
  ·
   rcases List.mem_append.1 hb with hb | hb
   · exact hL.1 b hb
   · rw [List.mem_singleton.1 hb]; exact h
  ·
   have hut := hL.2.2.1 t (hs t (List.mem_cons_self ..))
   have hl1 := lo_bd hT
   have hl2 := lo_bd hpc.2
   have hm := meet_later' hut
   have h2 : hgt (loN (u :: r)) (loD (u :: r)) t ≤ hgt (loN (u :: r)) (loD (u :: r)) x := hgt_down hl1.2 hl2.2 hx hm h
   omega
theorem low_lo (l : List (Int × Int)) : ∀ T P, StackOk T → LoOk P T → (∀ s, s ∈ T → s ∈ P) → (T = [] → P = []) → (∀ z r, T = z :: r → ∀ b, b ∈ P → z.2 ≤ b.2) → (∀ x, x ∈ l → Behind x P) → l.Pairwise (fun a b => b.2 < a.2 ∨ (b.2 = a.2 ∧ b.1 ≤ a.1)) →
  LoOk (P ++ l) (lowT T l) ∧ (∀ z r, lowT T l = z :: r → ∀ b, b ∈ P ++ l → z.2 ≤ b.2) := by
 induction l with
 | nil => intro T P _ hL _ _ hz _ _; rw [List.append_nil]; exact ⟨hL, hz⟩
 | cons x r ih =>
  intro T P hT hL hs hn hz hb hp
  have hpc := List.pairwise_cons.1 hp
  have hxP := hb x (List.mem_cons_self ..)
  have hx : Behind x T := fun s hs' => hxP s (hs s hs')
  have e : P ++ x :: r = (P ++ [x]) ++ r := by simp
  rw [e]
  show LoOk ((P ++ [x]) ++ r) (lowT (x :: popT x T) r) ∧ (∀ z r_1, lowT (x :: popT x T) r = z :: r_1 → ∀ b, b ∈ (P ++ [x]) ++ r → z.2 ≤ b.2)
  refine ih (x :: popT x T) (P ++ [x]) (stack_push hT hx) ?_ ?_ (fun h => by cases h) ?_ ?_ hpc.2
  ·
   match T, hT, hL, hs, hn, hz, hx with
   | [], _, _, _, hn, _, _ =>
    rw [hn rfl]
    refine ⟨fun b hb' => ?_, fun u r' h => (by cases h), trivial⟩
    rw [List.mem_singleton.1 hb']
    exact Int.le_refl _
   | z :: r', hT, hL, hs, hn, hz, hx =>
    obtain ⟨h1, h2, h3⟩ := pop_lo r' z hT hL hx (.inl (hz z r' rfl))
    refine ⟨fun b hb' => ?_, fun u r'' h => ?_, ?_⟩
    ·
     rcases List.mem_append.1 hb' with hb' | hb'
     · exact h2 b hb'
     · rw [List.mem_singleton.1 hb']; exact Int.le_refl _
    · rw [h]; exact (h3 u r'' h).2
    ·
     rcases hq : popT x (z :: r') with _ | ⟨u, r''⟩
     · trivial
     ·
      have hst := stack_push hT hx
      rw [hq] at hst h1
      have hu := h3 u r'' hq
      exact lo_more r'' u (List.pairwise_cons.1 hst).2 h1 (fun s hs' => hs s (popT_sub x _ s (by rw [hq]; exact hs'))) hu.1 (Int.le_of_lt hu.2)
  ·
   intro s hs'
   rcases List.mem_cons.1 hs' with rfl | hs'
   · simp
   · exact List.mem_append.2 (.inl (hs s (popT_sub x T s hs')))
  ·
   intro z r' h b hb'
   injection h with h _
   rw [← h]
   rcases List.mem_append.1 hb' with hb' | hb'
   · have := hxP b hb'; omega
   · rw [List.mem_singleton.1 hb']; exact Int.le_refl _
  ·
   intro y hy b hb'
   rcases List.mem_append.1 hb' with hb' | hb'
   · exact hb y (List.mem_cons_of_mem _ hy) b hb'
   · rw [List.mem_singleton.1 hb']; exact hpc.1 y hy
def Wide (P : List (Int × Int)) (a : Int × Int) : Prop := ∃ n1 d1 n2 d2 : Int, 0 ≤ n1 ∧ 0 < d1 ∧ 0 < d2 ∧ n1 * d2 < n2 * d1 ∧ (∀ b, b ∈ P → hgt n1 d1 a ≤ hgt n1 d1 b) ∧ (∀ b, b ∈ P → hgt n2 d2 a ≤ hgt n2 d2 b)
theorem lo_wide {P : List (Int × Int)} (r : List (Int × Int)) : ∀ z, StackOk (z :: r) → LoOk P (z :: r) → ((∀ b, b ∈ P → z.2 ≤ b.2) ∨ ∃ n d : Int, 0 < d ∧ loN (z :: r) * d < n * loD (z :: r) ∧ (∀ b, b ∈ P → hgt n d z ≤ hgt n d b)) → ∀ a, a ∈ z :: r → Wide P a := by
 have top : ∀ (z : Int × Int) (r : List (Int × Int)), StackOk (z :: r) → LoOk P (z :: r) → ((∀ b, b ∈ P → z.2 ≤ b.2) ∨ ∃ n d : Int, 0 < d ∧ loN (z :: r) * d < n * loD (z :: r) ∧ (∀ b, b ∈ P → hgt n d z ≤ hgt n d b)) → Wide P z := by
  intro z r hT hL ht
  have hlo := lo_bd hT
  rcases ht with ht | ⟨n, d, hd, hlt, h⟩
  ·
   have hlt : loN (z :: r) * loD (z :: r) < (loN (z :: r) + loD (z :: r)) * loD (z :: r) := Int.mul_lt_mul_of_pos_right (by omega) hlo.2
   exact ⟨loN (z :: r), loD (z :: r), loN (z :: r) + loD (z :: r), loD (z :: r), hlo.1, hlo.2, hlo.2, hlt, hL.1, fun b hb => hgt_up hlo.2 hlo.2 (ht b hb) (Int.le_of_lt hlt) (hL.1 b hb)⟩
  · exact ⟨loN (z :: r), loD (z :: r), n, d, hlo.1, hlo.2, hd, hlt, hL.1, h⟩
 induction r with
 | nil =>
  intro z hT hL ht a ha
  rcases List.mem_cons.1 ha with rfl | ha
  · exact top a [] hT hL ht
  · cases ha
 | cons u r ih =>
  intro z hT hL ht a ha
  have hlo := lo_bd hT
  have hpc := List.pairwise_cons.1 hT
  rcases List.mem_cons.1 ha with rfl | ha
  · exact top a (u :: r) hT hL ht
  ·
   refine ih u hpc.2 hL.2.2 (.inr ⟨loN (z :: u :: r), loD (z :: u :: r), hlo.2, ?_, fun b hb => ?_⟩) a ha
   · exact meet_later (hL.2.1 u r rfl)
   · rw [← lo_meet]; exact hL.1 b hb
theorem wide_some {P : List (Int × Int)} {a : Int × Int} (h : Wide P a) : SomeOf a P := by
 obtain ⟨n1, d1, n2, d2, h0, hd1, hd2, hlt, h1, h2⟩ := h
 have hn2 : 0 < n2 := by
  have h3 : 0 ≤ n1 * d2 := Int.mul_nonneg h0 (Int.le_of_lt hd2)
  have h4 : 0 < n2 * d1 := by omega
  exact Int.pos_of_mul_pos_left h4 hd1
 have hflat : ∀ c, c ∈ P → c.2 < a.2 → 0 < d2 * (c.1 - a.1) ∧ n2 * (a.2 - c.2) ≤ d2 * (c.1 - a.1) := by
  intro c hc hl
  have := h2 c hc
  unfold hgt at this
  have h5 : 0 < n2 * (a.2 - c.2) := Int.mul_pos hn2 (by omega)
  simp only [Int.mul_sub] at *
  omega
 refine ⟨fun b hb he hne => ?_, fun c hc hl => ?_, fun b hb c hc hab hca => ?_⟩
 ·
  have := h1 b hb
  unfold hgt at this
  rw [he] at this
  have h5 : a.1 ≤ b.1 := Int.le_of_mul_le_mul_left (by omega) hd1
  have : a.1 ≠ b.1 := fun e => hne (Prod.ext e.symm he)
  omega
 ·
  have := Int.pos_of_mul_pos_right (hflat c hc hl).1 hd2
  omega
 ·
  have hc' := (hflat c hc hca).2
  have hb' : d1 * (a.1 - b.1) ≤ n1 * (b.2 - a.2) := by
   have := h1 b hb
   unfold hgt at this
   simp only [Int.mul_sub]; omega
  have hX : 0 < b.2 - a.2 := by omega
  have hY : 0 < a.2 - c.2 := by omega
  generalize b.2 - a.2 = X at *
  generalize a.2 - c.2 = Y at *
  generalize a.1 - b.1 = A at *
  generalize c.1 - a.1 = C at *
  have s1 : (d2 * Y) * (d1 * A) ≤ (d2 * Y) * (n1 * X) := Int.mul_le_mul_of_nonneg_left hb' (Int.le_of_lt (Int.mul_pos hd2 hY))
  have s2 : (X * Y) * (n1 * d2) < (X * Y) * (n2 * d1) := Int.mul_lt_mul_of_pos_left hlt (Int.mul_pos hX hY)
  have s3 : (d1 * X) * (n2 * Y) ≤ (d1 * X) * (d2 * C) := Int.mul_le_mul_of_nonneg_left hc' (Int.le_of_lt (Int.mul_pos hd1 hX))
  have e1 : (d2 * Y) * (d1 * A) = (d1 * d2) * (A * Y) := by simp only [Int.mul_comm, Int.mul_left_comm]
  have e2 : (d2 * Y) * (n1 * X) = (X * Y) * (n1 * d2) := by simp only [Int.mul_comm, Int.mul_left_comm]
  have e3 : (X * Y) * (n2 * d1) = (d1 * X) * (n2 * Y) := by simp only [Int.mul_comm, Int.mul_left_comm]
  have e4 : (d1 * X) * (d2 * C) = (d1 * d2) * (C * X) := by simp only [Int.mul_comm, Int.mul_left_comm]
  exact Int.lt_of_mul_lt_mul_left (show (d1 * d2) * (A * Y) < (d1 * d2) * (C * X) by omega) (Int.le_of_lt (Int.mul_pos hd1 hd2))
theorem some_perm {a : Int × Int} {l ls : List (Int × Int)} (hp : l.Perm ls) (h : SomeOf a l) : SomeOf a ls :=
 ⟨fun b hb => h.same b (hp.mem_iff.2 hb), fun c hc => h.flat c (hp.mem_iff.2 hc), fun b hb c hc => h.both b (hp.mem_iff.2 hb) c (hp.mem_iff.2 hc)⟩
theorem mem_low {l ls : List (Int × Int)} (hp : l.Perm ls) (h : SortedL l) (a : Int × Int) : a ∈ lowT [] l ↔ a ∈ ls ∧ SomeOf a ls := by
 have hs := sorted_pairwise h
 have hst := stack_of_sorted h
 constructor
 ·
  intro ha
  have hm : a ∈ l := by
   rcases lowT_sub l [] a ha with h' | h'
   · cases h'
   · exact h'
  refine ⟨hp.mem_iff.1 hm, some_perm hp ?_⟩
  have := low_lo l [] [] List.Pairwise.nil trivial (fun _ h => h) (fun _ => rfl) (fun _ _ h => by cases h) (fun _ _ s hs => by cases hs) hs
  rw [List.nil_append] at this
  rcases hq : lowT [] l with _ | ⟨z, r⟩
  · rw [hq] at ha; cases ha
  ·
   rw [hq] at ha hst this
   exact wide_some (lo_wide r z hst this.1 (.inl (this.2 z r rfl)) a ha)
 ·
  rintro ⟨hm, ha⟩
  exact low_keeps (some_perm hp.symm ha) l [] List.Pairwise.nil (fun _ _ s hs => by cases hs) hs (fun _ h => by cases h) (fun _ h => h) (.inr (hp.mem_iff.2 hm))
theorem low_falls {l : List (Int × Int)} (h : SortedL l) : Falls (lowT [] l).reverse := by
 have hs := stack_of_sorted h
 unfold Falls
 unfold StackOk at hs
 rw [List.pairwise_reverse]
 rw [List.pairwise_iff_getElem] at hs ⊢
 exact fun i j hi hj hij => (hs i j hi hj hij).1
theorem kept_low {L R l : List (Int × Int)} (h : KeptTo L L.length R) (hp : l.Perm L) (hs : SortedL l) : R = (lowT [] l).reverse := by
 refine falls_same h.falls (low_falls hs) fun a => ?_
 rw [h.mem a, List.mem_reverse, mem_low hp hs]
 constructor
 · rintro ⟨h1, k, _, e⟩; exact ⟨List.mem_of_getElem? e, h1⟩
 ·
  rintro ⟨h1, h2⟩
  obtain ⟨k, hk⟩ := List.mem_iff_getElem?.1 h1
  exact ⟨h2, k, (List.getElem?_eq_some_iff.1 hk).1, hk⟩
end Go.Proofs.YtibhkijaafdkoaaGreatDoor

namespace Go.Proofs.YtibhkijaafdkoaaGreatDoor
open Go.RowKit Go.Extern.Stop Go.Stop Go.Extern
theorem Tryz.isTypeOf (v : Value) (w : World) : (Extern.ReflectliteType.typeOf #[.iface 271 v]).run Tryz.prog w = .ok (.iface 207 (.agg #[.pointer (some ⟨10, 271, none⟩)])) w := by kernel_rfl
theorem Tryz.noAsE (v : Value) (xT : TypeId) (w : World) : (Instr.typeAssert (.iface 271 v) xT 211 true).run Tryz.prog w = .ok (.tuple #[.nilIface, .bool false]) w := run_typeAssert_lacksB Tryz.underlying211 (by kernel_rfl) (by kernel_rfl) v xT w
theorem Tryz.noUnwrapE (v : Value) (xT : TypeId) (w : World) : (Instr.typeAssert (.iface 271 v) xT 214 true).run Tryz.prog w = .ok (.tuple #[.nilIface, .bool false]) w := run_typeAssert_lacksB Tryz.underlying214 (by kernel_rfl) (by kernel_rfl) v xT w
theorem Tryz.noUnwrapsE (v : Value) (xT : TypeId) (w : World) : (Instr.typeAssert (.iface 271 v) xT 216 true).run Tryz.prog w = .ok (.tuple #[.nilIface, .bool false]) w := run_typeAssert_lacksB Tryz.underlying216 (by kernel_rfl) (by kernel_rfl) v xT w
end Go.Proofs.YtibhkijaafdkoaaGreatDoor
