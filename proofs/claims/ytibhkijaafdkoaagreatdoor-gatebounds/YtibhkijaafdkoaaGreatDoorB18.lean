/- Own facts, put together: no statement of its own. -/
import Derived.Test.YtibhkijaafdkoaaGreatDoorB01
import Derived.Test.YtibhkijaafdkoaaGreatDoorB12
import Derived.Test.YtibhkijaafdkoaaGreatDoorB10
import Derived.Test.YtibhkijaafdkoaaGreatDoorB09
namespace Go.Proofs.YtibhkijaafdkoaaGreatDoor
open Go.RowKit
def LiesP (w : World) (a : Option Addr) (ps : List Pk) : Prop :=
 ps = [] ∨ ∃ b off, a = some ⟨b, off, none⟩ ∧ b < w.heap.size ∧ ∀ (i : Nat) p, ps[i]? = some p → w.cell? ⟨b, off + i * 3, none⟩ = some (.int .i64 p.flow) ∧ w.cell? ⟨b, off + i * 3 + 1, none⟩ = some (.int .i64 p.size) ∧ w.cell? ⟨b, off + i * 3 + 2, none⟩ = some (.int .i64 p.tick)
theorem LiesP.place {w : World} {a : Option Addr} {ps : List Pk} (h : LiesP w a ps) (h1 : 1 ≤ ps.length) :
  ∃ b off, a = some ⟨b, off, none⟩ ∧ b < w.heap.size ∧ ∀ (i : Nat) p, ps[i]? = some p → w.cell? ⟨b, off + i * 3, none⟩ = some (.int .i64 p.flow) ∧ w.cell? ⟨b, off + i * 3 + 1, none⟩ = some (.int .i64 p.size) ∧ w.cell? ⟨b, off + i * 3 + 2, none⟩ = some (.int .i64 p.tick) := by
 rcases h with rfl | h
 · simp at h1
 · exact h
theorem LiesP.but {S : Nat → Prop} {w w' : World} {a : Option Addr} {ps : List Pk} (h : LiesP w a ps) (hb : But S w w') (hs : ∀ ad, a = some ad → ¬ S ad.block) : LiesP w' a ps := by
 rcases h with rfl | ⟨b, off, rfl, hlt, hc⟩
 · exact .inl rfl
 ·
  have hn : ¬ S b := hs _ rfl
  refine .inr ⟨b, off, rfl, Nat.lt_of_lt_of_le hlt hb.size, fun i p hi => ?_⟩
  have := hc i p hi
  exact ⟨by rw [hb.cell (p := ⟨b, off + i * 3, none⟩) hlt hn]; exact this.1, by rw [hb.cell (p := ⟨b, off + i * 3 + 1, none⟩) hlt hn]; exact this.2.1, by rw [hb.cell (p := ⟨b, off + i * 3 + 2, none⟩) hlt hn]; exact this.2.2⟩
theorem LiesP.below {w w' : World} {a : Option Addr} {ps : List Pk} (h : LiesP w a ps) (hb : Below w.heap.size w w') : LiesP w' a ps :=
 h.but (S := fun _ => False) (.ofBelow hb) (fun _ _ h => h)
def cellsP (ps : List Pk) : List Value := ps.flatMap fun p => [.int .i64 p.flow, .int .i64 p.size, .int .i64 p.tick]
theorem cellsP_cons (p : Pk) (r : List Pk) : cellsP (p :: r) = .int .i64 p.flow :: .int .i64 p.size :: .int .i64 p.tick :: cellsP r := rfl
theorem cellsP_append (a b : List Pk) : cellsP (a ++ b) = cellsP a ++ cellsP b := by simp [cellsP]
theorem cellsP_length (ps : List Pk) : (cellsP ps).length = ps.length * 3 := by
 induction ps with
 | nil => rfl
 | cons p r ih => rw [cellsP_cons]; simp [ih]; omega
theorem cellsP_get (ps : List Pk) : ∀ (i : Nat) p, ps[i]? = some p → (cellsP ps)[i * 3]? = some (.int .i64 p.flow) ∧ (cellsP ps)[i * 3 + 1]? = some (.int .i64 p.size) ∧ (cellsP ps)[i * 3 + 2]? = some (.int .i64 p.tick) := by
 induction ps with
 | nil => intro i p h; simp at h
 | cons q r ih =>
  intro i p h
  rw [cellsP_cons]
  cases i with
  | zero => simp at h; subst h; exact ⟨rfl, rfl, rfl⟩
  | succ i =>
   have := ih i p (by simpa using h)
   rw [show (i + 1) * 3 = i * 3 + 1 + 1 + 1 by omega]
   exact ⟨by simpa using this.1, by simpa using this.2.1, by simpa using this.2.2⟩
theorem cellsP_at (ps : List Pk) : ∀ j u, (cellsP ps)[j]? = some u → ∃ (i : Nat) (p : Pk), ps[i]? = some p ∧ ((j = i * 3 ∧ u = .int .i64 p.flow) ∨ (j = i * 3 + 1 ∧ u = .int .i64 p.size) ∨ (j = i * 3 + 2 ∧ u = .int .i64 p.tick)) := by
 induction ps with
 | nil => intro j u h; simp [cellsP] at h
 | cons p r ih =>
  intro j u h
  rw [cellsP_cons] at h
  match j, h with
  | 0, h => exact ⟨0, p, rfl, .inl ⟨rfl, by simpa using h.symm⟩⟩
  | 1, h => exact ⟨0, p, rfl, .inr (.inl ⟨rfl, by simpa using h.symm⟩)⟩
  | 2, h => exact ⟨0, p, rfl, .inr (.inr ⟨rfl, by simpa using h.symm⟩)⟩
  | j + 3, h =>
   obtain ⟨i, q, hi, hj⟩ := ih j u (by simpa using h)
   refine ⟨i + 1, q, by simpa using hi, ?_⟩
   rcases hj with ⟨e, f⟩ | ⟨e, f⟩ | ⟨e, f⟩
   · exact .inl ⟨by omega, f⟩
   · exact .inr (.inl ⟨by omega, f⟩)
   · exact .inr (.inr ⟨by omega, f⟩)
theorem cellsP_one (ps : List Pk) : ∀ u ∈ cellsP ps, u.oneCell' = true := by
 intro u hu
 obtain ⟨j, hj⟩ := List.mem_iff_getElem?.1 hu
 obtain ⟨i, p, -, h⟩ := cellsP_at ps j u hj
 rcases h with ⟨-, rfl⟩ | ⟨-, rfl⟩ | ⟨-, rfl⟩ <;> rfl
def OwnP (w : World) (B : Nat) (v : Value) (ps : List Pk) : Prop := w.ownsRow B 52 3 v ps.length (cellsP ps)
theorem OwnP.open {w : World} {B : Nat} {v : Value} {ps : List Pk} (h : OwnP w B v ps) :
  ∃ a cap, v = .slice a ps.length cap ∧ ps.length ≤ cap ∧ cap ≤ maxLen ∧ LiesP w a ps ∧ (∀ ad, a = some ad → B ≤ ad.block) ∧ (a = none → ps = [] ∧ cap = 0) := by
 obtain ⟨hlen, ⟨rfl, h0⟩ | ⟨g, cap, cur, rfl, hB, hg, hn, hm, hc, ht⟩⟩ := h
 · exact ⟨none, 0, by rw [h0], by omega, by simp [maxLen], .inl (List.length_eq_zero_iff.1 h0), (fun ad e => by cases e), fun _ => ⟨List.length_eq_zero_iff.1 h0, rfl⟩⟩
 ·
  refine ⟨_, cap, rfl, hn, hm, .inr ⟨g, 0, rfl, ?_, fun i p hi => ?_⟩, (fun ad e => by cases e; exact hB), fun e => by cases e⟩
  ·
   rcases Nat.lt_or_ge g w.heap.size with h | h
   · exact h
   · simp [Array.getElem?_eq_none h] at hg
  ·
   have hh : w.ownsRow B 52 3 (.slice (some ⟨g, 0, none⟩) ps.length cap) ps.length (cellsP ps) := ⟨hlen, .inr ⟨g, cap, cur, rfl, hB, hg, hn, hm, hc, ht⟩⟩
   have hil : i < ps.length := by
    rcases Nat.lt_or_ge i ps.length with h | h
    · exact h
    · simp [List.getElem?_eq_none h] at hi
   have := cellsP_get ps i p hi
   rw [hh.cellAt _ (by omega), hh.cellAt _ (by omega), hh.cellAt _ (by omega), Nat.zero_add]
   exact this
theorem liesP_news {w : World} {ad : Addr} {ps : List Pk} (h : LiesP w (some ad) ps) : ∀ j u, (cellsP ps)[j]? = some u → w.cell? (ad.add j) = some u := by
 intro j u hj
 obtain ⟨i, p, hi, hc⟩ := cellsP_at ps j u hj
 rcases h with rfl | ⟨b, off, e, -, h⟩
 · simp at hi
 ·
  cases e
  have := h i p hi
  rw [Addr.add_lit]
  rcases hc with ⟨rfl, rfl⟩ | ⟨rfl, rfl⟩ | ⟨rfl, rfl⟩
  · exact this.1
  · exact this.2.1
  · exact this.2.2
theorem Tryz.infoPkt : (Tryz.prog.info? 52).map (fun i => (i.zero, i.size, i.bytes)) = some (some (.agg #[.int .i64 0, .int .i64 0, .int .i64 0]), 3, 24) := by kernel_rfl
end Go.Proofs.YtibhkijaafdkoaaGreatDoor

namespace Go.Proofs.YtibhkijaafdkoaaGreatDoor
open Go.RowKit
set_option maxHeartbeats 400000 in
theorem isSize_any (n : Int) (w : World) : Calls Tryz.prog 123 #[.int .i64 n] w fun e w' => e = .returned (.bool (decide (1 ≤ n ∧ n ≤ 1500))) ∧ w' = w := by
 by_cases h1 : 1 ≤ n
 ·
  by_cases h2 : n ≤ 1500
  ·
   rw [show decide (1 ≤ n ∧ n ≤ 1500) = true by simp [h1, h2]]
   go_enter Tryz.func123, Tryz.ntmps123
   go_wp2
   go_ret
   exact ⟨rfl, rfl⟩
  ·
   rw [show decide (1 ≤ n ∧ n ≤ 1500) = false by simp [h2]]
   go_enter Tryz.func123, Tryz.ntmps123
   go_wp2
   go_ret
   exact ⟨rfl, rfl⟩
 ·
  rw [show decide (1 ≤ n ∧ n ≤ 1500) = false by simp [h1]]
  go_enter Tryz.func123, Tryz.ntmps123
  go_wp2
  go_ret
  exact ⟨rfl, rfl⟩
set_option maxHeartbeats 400000 in
theorem isTick_any (t : Int) (w : World) : Calls Tryz.prog 124 #[.int .i64 t] w fun e w' => e = .returned (.bool (decide (0 ≤ t ∧ t ≤ 1099511627776))) ∧ w' = w := by
 by_cases h1 : 0 ≤ t
 ·
  by_cases h2 : t ≤ 1099511627776
  ·
   rw [show decide (0 ≤ t ∧ t ≤ 1099511627776) = true by simp [h1, h2]]
   go_enter Tryz.func124, Tryz.ntmps124
   go_wp2
   go_ret
   exact ⟨rfl, rfl⟩
  ·
   rw [show decide (0 ≤ t ∧ t ≤ 1099511627776) = false by simp [h2]]
   go_enter Tryz.func124, Tryz.ntmps124
   go_wp2
   go_ret
   exact ⟨rfl, rfl⟩
 ·
  rw [show decide (0 ≤ t ∧ t ≤ 1099511627776) = false by simp [h1]]
  go_enter Tryz.func124, Tryz.ntmps124
  go_wp2
  go_ret
  exact ⟨rfl, rfl⟩
end Go.Proofs.YtibhkijaafdkoaaGreatDoor

namespace Go.Proofs.YtibhkijaafdkoaaGreatDoor
open Go.RowKit
set_option maxHeartbeats 400000 in
theorem isPacket_core (x y z : Int) (s t : Bool) (w : World) (HS : Hid (∀ w', Calls Tryz.prog 123 #[.int .i64 y] w' fun e w'' => e = .returned (.bool s) ∧ w'' = w')) (HT : Hid (∀ w', Calls Tryz.prog 124 #[.int .i64 z] w' fun e w'' => e = .returned (.bool t) ∧ w'' = w')) :
  Calls Tryz.prog 78 #[.agg #[.int .i64 x, .int .i64 y, .int .i64 z]] w fun e w' => e = .returned (.bool (decide (0 ≤ x) && decide (x < 8) && s && t)) ∧ w' = w.alloc (.cells #[.int .i64 x, .int .i64 y, .int .i64 z] 52) := by
 by_cases h1 : 0 ≤ x
 ·
  by_cases h2 : x < 8
  ·
   rw [show (decide (0 ≤ x) && decide (x < 8) && s && t) = (s && t) by simp [h1, h2]]
   cases s with
   | false =>
    go_enter Tryz.func78, Tryz.ntmps78
    go_wp2_with (first
     | (go_at_call 123; refine (HS.out _).mono ?_; rintro e w1 ⟨rfl, rfl⟩)
     | (go_at_call 124; refine (HT.out _).mono ?_; rintro e w1 ⟨rfl, rfl⟩))
    go_ret
    exact ⟨rfl, rfl⟩
   | true =>
    cases t with
    | false =>
     go_enter Tryz.func78, Tryz.ntmps78
     go_wp2_with (first
      | (go_at_call 123; refine (HS.out _).mono ?_; rintro e w1 ⟨rfl, rfl⟩)
      | (go_at_call 124; refine (HT.out _).mono ?_; rintro e w1 ⟨rfl, rfl⟩))
     go_ret
     exact ⟨rfl, rfl⟩
    | true =>
     go_enter Tryz.func78, Tryz.ntmps78
     go_wp2_with (first
      | (go_at_call 123; refine (HS.out _).mono ?_; rintro e w1 ⟨rfl, rfl⟩)
      | (go_at_call 124; refine (HT.out _).mono ?_; rintro e w1 ⟨rfl, rfl⟩))
     go_ret
     exact ⟨rfl, rfl⟩
  ·
   rw [show (decide (0 ≤ x) && decide (x < 8) && s && t) = false by simp [h2]]
   go_enter Tryz.func78, Tryz.ntmps78
   go_wp2
   go_ret
   exact ⟨rfl, rfl⟩
 ·
  rw [show (decide (0 ≤ x) && decide (x < 8) && s && t) = false by simp [h1]]
  go_enter Tryz.func78, Tryz.ntmps78
  go_wp2
  go_ret
  exact ⟨rfl, rfl⟩
theorem isPacket_any (p : Pk) (w : World) :
  Calls Tryz.prog 78 #[.agg #[.int .i64 p.flow, .int .i64 p.size, .int .i64 p.tick]] w fun e w' => e = .returned (.bool (okPk p)) ∧ w' = w.alloc (.cells #[.int .i64 p.flow, .int .i64 p.size, .int .i64 p.tick] 52) := by
 have h := isPacket_core p.flow p.size p.tick _ _ w (fun w' => isSize_any p.size w') (fun w' => isTick_any p.tick w')
 rw [show (decide (0 ≤ p.flow) && decide (p.flow < 8) && decide (1 ≤ p.size ∧ p.size ≤ 1500) && decide (0 ≤ p.tick ∧ p.tick ≤ 1099511627776)) = okPk p by
  unfold okPk
  simp only [Bool.decide_and, Bool.and_assoc]] at h
 exact h
def goodTo (ps : List Pk) (j : Nat) : Prop := ∀ (i : Nat) q, i < j → ps[i]? = some q → okPk q = true ∧ ahead ps i ≤ q.tick
theorem ahead_succ {ps : List Pk} {k : Nat} {p : Pk} (h : ps[k]? = some p) : ahead ps (k + 1) = p.tick := by simp only [ahead]; rw [h]
set_option maxHeartbeats 400000 in
theorem pcheck_long (a : Option Addr) (n cap : Nat) (w : World) (ad : Nat → Addr) (he : ErrsBO w ad) (hm : n ≤ maxLen) (h : 300 < n) :
  Calls Tryz.prog 49 #[.slice a n cap] w fun e w' => e = .returned (.iface 271 (.pointer (some (ad 1)))) ∧ w' = w := by
 unfold maxLen at hm
 have e1 := he.c1
 go_enter Tryz.func49, Tryz.ntmps49
 go_wp2
 go_ret
 exact ⟨rfl, rfl⟩
set_option maxHeartbeats 400000 in
theorem pcheck_ok (a : Option Addr) (cap : Nat) (ps : List Pk) (w : World) (hl : LiesP w a ps) (h : OkPks ps) :
  Calls Tryz.prog 49 #[.slice a ps.length cap] w fun e w' => e = .returned .nilIface ∧ Below w.heap.size w w' := by
 by_cases h0 : ps = []
 ·
  subst h0
  show Calls Tryz.prog 49 #[.slice a 0 cap] w _
  clear hl
  go_enter Tryz.func49, Tryz.ntmps49
  go_wp2
  refine wp_loop_rounds 1 ?_
  rw [rounds_succ]
  go_wp2
  go_ret
  exact ⟨rfl, Below.refl _ _⟩
 ·
  obtain ⟨b, off, rfl, hlt, hc⟩ := hl.place (by cases ps with | nil => exact absurd rfl h0 | cons p r => simp)
  have HC : Hid (∀ (i : Nat) p, ps[i]? = some p → w.cell? ⟨b, off + i * 3, none⟩ = some (.int .i64 p.flow) ∧ w.cell? ⟨b, off + i * 3 + 1, none⟩ = some (.int .i64 p.size) ∧ w.cell? ⟨b, off + i * 3 + 2, none⟩ = some (.int .i64 p.tick)) := hc
  have HO : Hid (OkPks ps) := h
  have hn300 : ps.length ≤ 300 := h.few
  clear hl h hc h0
  generalize hn : ps.length = n at *
  have Hn := (show Hid (ps.length = n) from hn)
  clear hn
  go_enter Tryz.func49, Tryz.ntmps49
  go_wp2
  go_loopw [3, 12] (fun l i wr => ∃ k : Nat, k ≤ n ∧ i = .int .i64 k ∧ l = .int .i64 (ahead ps k) ∧ Below w.heap.size w wr) (fun _ i _ => n - (intOf i).toNat)
  case atStart => exact ⟨0, Nat.zero_le _, rfl, rfl, Below.refl _ _⟩
  case round =>
   obtain ⟨k, hk, rfl, rfl, hb⟩ := hrel
   have HB : Hid (Below w.heap.size w wr) := hb
   by_cases hkn : k < n
   ·
    obtain ⟨p, hp, -⟩ := get_some ps k (by rw [Hn.out]; exact hkn)
    obtain ⟨d1, d2, d3⟩ := HC.out k p hp
    have hc1 : wr.cell? ⟨b, off + k * 3, none⟩ = some (.int .i64 p.flow) := by rw [hb.cell (p := ⟨b, off + k * 3, none⟩) hlt]; exact d1
    have hc2 : wr.cell? ⟨b, off + k * 3 + 1, none⟩ = some (.int .i64 p.size) := by rw [hb.cell (p := ⟨b, off + k * 3 + 1, none⟩) hlt]; exact d2
    have hc3 : wr.cell? ⟨b, off + k * 3 + 2, none⟩ = some (.int .i64 p.tick) := by rw [hb.cell (p := ⟨b, off + k * 3 + 2, none⟩) hlt]; exact d3
    obtain ⟨o1, o2⟩ := HO.out.each k p hp
    have HA : Hid (ahead ps (k + 1) = p.tick) := ahead_succ hp
    have HP : Hid (∀ w', Calls Tryz.prog 78 #[.agg #[.int .i64 p.flow, .int .i64 p.size, .int .i64 p.tick]] w' fun e w'' => e = .returned (.bool true) ∧ w'' = w'.alloc (.cells #[.int .i64 p.flow, .int .i64 p.size, .int .i64 p.tick] 52)) := fun w' => by
     have := isPacket_any p w'
     rwa [o1] at this
    clear d1 d2 d3 hp o1 hb
    have o2' : ¬ p.tick < ahead ps k := by omega
    generalize ahead ps k = L at *
    generalize p.flow = x at *
    generalize p.size = y at *
    generalize p.tick = z at *
    go_wp2_with (go_at_call 78; refine (HP.out _).mono ?_; rintro e w' ⟨rfl, rfl⟩)
    have hs := HB.out.size
    go_roundw
    case rel => exact ⟨k + 1, by omega, by go_num, by rw [HA.out], (HB.out.alloc hs _).alloc (by simp; omega) _⟩
    case measure => simp [intOf]; omega
   ·
    go_wp2
    go_ret
    exact ⟨rfl, HB.out⟩
end Go.Proofs.YtibhkijaafdkoaaGreatDoor

namespace Go.Proofs.YtibhkijaafdkoaaGreatDoor
open Go.RowKit
def PkBad (ps : List Pk) (j : Nat) (p : Pk) (k : Nat) : Prop := (okPk p = false ∧ k = 1) ∨ (okPk p = true ∧ p.tick < ahead ps j ∧ k = 4)
set_option maxHeartbeats 1000000 in
theorem pcheck_bad (a : Option Addr) (cap : Nat) (ps : List Pk) (w : World) (ad : Nat → Addr) (he : ErrsBO w ad) (hl : LiesP w a ps) (h300 : ps.length ≤ 300) (j : Nat) (p : Pk) (hj : ps[j]? = some p) (hg : goodTo ps j) (k : Nat) (hbad : PkBad ps j p k) :
  Calls Tryz.prog 49 #[.slice a ps.length cap] w fun e w' => Below w.heap.size w w' ∧ ∃ B, e = .returned (.iface 110 (.pointer (some ⟨B, 0, none⟩))) ∧ w.heap.size ≤ B ∧ B < w'.heap.size ∧ w'.cell? ⟨B, 0, none⟩ = some (.int .i64 j) ∧ w'.cell? ⟨B, 1, none⟩ = some (.iface 271 (.pointer (some (ad k)))) := by
 have hjl : j < ps.length := by
  rcases Nat.lt_or_ge j ps.length with h | h
  · exact h
  · simp [List.getElem?_eq_none h] at hj
 obtain ⟨b, off, rfl, hlt, hc⟩ := hl.place (by omega)
 have HC : Hid (∀ (i : Nat) p, ps[i]? = some p → w.cell? ⟨b, off + i * 3, none⟩ = some (.int .i64 p.flow) ∧ w.cell? ⟨b, off + i * 3 + 1, none⟩ = some (.int .i64 p.size) ∧ w.cell? ⟨b, off + i * 3 + 2, none⟩ = some (.int .i64 p.tick)) := hc
 have HG : Hid (goodTo ps j) := hg
 have HE : Hid (ErrsBO w ad) := he
 have HJ : Hid (ps[j]? = some p) := hj
 have HBad : Hid (PkBad ps j p k) := hbad
 clear hl hg hc he hj hbad
 generalize hn : ps.length = n at *
 have Hn := (show Hid (ps.length = n) from hn)
 clear hn
 go_enter Tryz.func49, Tryz.ntmps49
 go_wp2
 go_loopw [3, 12] (fun l i wr => ∃ q : Nat, q ≤ j ∧ i = .int .i64 q ∧ l = .int .i64 (ahead ps q) ∧ Below w.heap.size w wr) (fun _ i _ => n - (intOf i).toNat)
 case atStart => exact ⟨0, Nat.zero_le _, rfl, rfl, Below.refl _ _⟩
 case round =>
  obtain ⟨q, hq, rfl, rfl, hb⟩ := hrel
  have HB : Hid (Below w.heap.size w wr) := hb
  have hs := hb.size
  have hqn : q < n := by omega
  obtain ⟨r, hp, -⟩ := get_some ps q (by rw [Hn.out]; exact hqn)
  obtain ⟨d1, d2, d3⟩ := HC.out q r hp
  have hc1 : wr.cell? ⟨b, off + q * 3, none⟩ = some (.int .i64 r.flow) := by rw [hb.cell (p := ⟨b, off + q * 3, none⟩) hlt]; exact d1
  have hc2 : wr.cell? ⟨b, off + q * 3 + 1, none⟩ = some (.int .i64 r.size) := by rw [hb.cell (p := ⟨b, off + q * 3 + 1, none⟩) hlt]; exact d2
  have hc3 : wr.cell? ⟨b, off + q * 3 + 2, none⟩ = some (.int .i64 r.tick) := by rw [hb.cell (p := ⟨b, off + q * 3 + 2, none⟩) hlt]; exact d3
  by_cases hqj : q < j
  ·
   obtain ⟨o1, o2⟩ := HG.out q r hqj hp
   have HA : Hid (ahead ps (q + 1) = r.tick) := ahead_succ hp
   have HP : Hid (∀ w', Calls Tryz.prog 78 #[.agg #[.int .i64 r.flow, .int .i64 r.size, .int .i64 r.tick]] w' fun e w'' => e = .returned (.bool true) ∧ w'' = w'.alloc (.cells #[.int .i64 r.flow, .int .i64 r.size, .int .i64 r.tick] 52)) := fun w' => by
    have := isPacket_any r w'
    rwa [o1] at this
   clear d1 d2 d3 hp o1 hb
   have o2' : ¬ r.tick < ahead ps q := by omega
   generalize ahead ps q = L at *
   generalize r.flow = x at *
   generalize r.size = y at *
   generalize r.tick = z at *
   go_wp2_with (go_at_call 78; refine (HP.out _).mono ?_; rintro e w' ⟨rfl, rfl⟩)
   go_roundw
   case rel => exact ⟨q + 1, by omega, by go_num, by rw [HA.out], (HB.out.alloc hs _).alloc (by simp; omega) _⟩
   case measure => simp [intOf]; omega
  ·
   obtain rfl : q = j := by omega
   obtain rfl : r = p := Option.some.inj (hp.symm.trans HJ.out)
   have hB2 := cell_later (((Below.refl wr.heap.size wr).alloc (Nat.le_refl _) (.cells #[.int .i64 r.flow, .int .i64 r.size, .int .i64 r.tick] 52)).alloc (by simp) (.cells #[.int .i64 r.flow, .int .i64 r.size, .int .i64 r.tick] 52)) (cell_later HB.out HE.out.c1)
   have hB5 := cell_later (((Below.refl wr.heap.size wr).alloc (Nat.le_refl _) (.cells #[.int .i64 r.flow, .int .i64 r.size, .int .i64 r.tick] 52)).alloc (by simp) (.cells #[.int .i64 r.flow, .int .i64 r.size, .int .i64 r.tick] 52)) (cell_later HB.out HE.out.c4)
   rcases HBad.out with ⟨o1, rfl⟩ | ⟨o1, o2, rfl⟩
   ·
    have HP : Hid (∀ w', Calls Tryz.prog 78 #[.agg #[.int .i64 r.flow, .int .i64 r.size, .int .i64 r.tick]] w' fun e w'' => e = .returned (.bool false) ∧ w'' = w'.alloc (.cells #[.int .i64 r.flow, .int .i64 r.size, .int .i64 r.tick] 52)) := fun w' => by
     have := isPacket_any r w'
     rwa [o1] at this
    clear d1 d2 d3 hp o1 hb hB5 hqj
    generalize ahead ps q = L at *
    generalize r.flow = x at *
    generalize r.size = y at *
    generalize r.tick = z at *
    go_wp2_with (go_at_call 78; refine (HP.out _).mono ?_; rintro e w' ⟨rfl, rfl⟩)
    go_ret
    refine ⟨((HB.out.alloc hs _).alloc (by simp; omega) _).alloc (by simp; omega) _, _, rfl, ?_, ?_, ?_, ?_⟩
    · omega
    · simp
    · rw [World.cell?_alloc_at _ _ _ _ (by simp)]; rfl
    · rw [World.cell?_alloc_at _ _ _ _ (by simp)]; rfl
   ·
    have HP : Hid (∀ w', Calls Tryz.prog 78 #[.agg #[.int .i64 r.flow, .int .i64 r.size, .int .i64 r.tick]] w' fun e w'' => e = .returned (.bool true) ∧ w'' = w'.alloc (.cells #[.int .i64 r.flow, .int .i64 r.size, .int .i64 r.tick] 52)) := fun w' => by
     have := isPacket_any r w'
     rwa [o1] at this
    clear d1 d2 d3 hp o1 hb hB2 hqj
    generalize ahead ps q = L at *
    generalize r.flow = x at *
    generalize r.size = y at *
    generalize r.tick = z at *
    go_wp2_with (go_at_call 78; refine (HP.out _).mono ?_; rintro e w' ⟨rfl, rfl⟩)
    go_ret
    refine ⟨((HB.out.alloc hs _).alloc (by simp; omega) _).alloc (by simp; omega) _, _, rfl, ?_, ?_, ?_, ?_⟩
    · omega
    · simp
    · rw [World.cell?_alloc_at _ _ _ _ (by simp)]; rfl
    · rw [World.cell?_alloc_at _ _ _ _ (by simp)]; rfl
end Go.Proofs.YtibhkijaafdkoaaGreatDoor

namespace Go.Proofs.YtibhkijaafdkoaaGreatDoor
open Go.RowKit
theorem Errs9.bo {w : World} {ad : Nat → Addr} (h : Errs9 w ad) : ErrsBO w ad := ⟨h.c1, h.c4⟩
def PksFault (ps : List Pk) (c p : Int) : Prop :=
 (300 < ps.length ∧ c = 2 ∧ p = -1) ∨
 (ps.length ≤ 300 ∧ ∃ (j : Nat) (q : Pk) (k : Nat), ps[j]? = some q ∧ goodTo ps j ∧ PkBad ps j q k ∧ c = k + 1 ∧ p = j) ∨
 (OkPks ps ∧ c = 0 ∧ p = -1)
theorem pcheck_is (a : Option Addr) (cap : Nat) (ps : List Pk) (w : World) (ad : Nat → Addr) (he : Errs9 w ad) (hl : LiesP w a ps) (hcap : ps.length ≤ cap) (hm : cap ≤ maxLen) (c p : Int) (h : PksFault ps c p) :
  Calls Tryz.prog 49 #[.slice a ps.length cap] w fun e w' => ∃ E, e = .returned E ∧ ErrIs w' E c p ∧ Below w.heap.size w w' := by
 rcases h with ⟨h, rfl, rfl⟩ | ⟨h, j, q, k, h1, h2, h3, rfl, rfl⟩ | ⟨h, rfl, rfl⟩
 ·
  refine (pcheck_long a ps.length cap w ad he.bo (Nat.le_trans hcap hm) h).mono ?_
  rintro e w' ⟨rfl, rfl⟩
  exact ⟨_, rfl, errIs_sent he 1 (by decide), Below.refl _ _⟩
 ·
  refine (pcheck_bad a cap ps w ad he.bo hl h j q h1 h2 k h3).mono ?_
  rintro e w' ⟨hb, B, rfl, -, -, c0, c1⟩
  have hk9 : k < 9 := by rcases h3 with ⟨-, rfl⟩ | ⟨-, -, rfl⟩ <;> omega
  exact ⟨_, rfl, ⟨codeIs_fault (he.below hb) k hk9 j B c0 c1, fun h => by omega, fun _ => ⟨_, _, rfl⟩⟩, hb⟩
 ·
  refine (pcheck_ok a cap ps w hl h).mono ?_
  rintro e w' ⟨rfl, hb⟩
  exact ⟨_, rfl, errIs_nil _, hb⟩
end Go.Proofs.YtibhkijaafdkoaaGreatDoor
