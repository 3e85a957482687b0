/- Own facts, put together: no statement of its own. -/
import Derived.Deep.LoopGhost
import Derived.Test.YtibhkijaafdkoaaGreatDoorR06
import Derived.Test.YtibhkijaafdkoaaGreatDoorR01
import Derived.Test.YtibhkijaafdkoaaGreatDoorR02
namespace Go.Proofs.YtibhkijaafdkoaaGreatDoor
open Go.RowKit
structure NumsOk (lo hi : Int) (ns : List Int) : Prop where
 len : ns.length = 8
 each : ∀ (i : Nat) x, ns[i]? = some x → lo ≤ x ∧ x ≤ hi
def NumBad (lo hi : Int) (ns : List Int) (j : Nat) : Prop := ns.length = 8 ∧ (∃ x, ns[j]? = some x ∧ ¬ (lo ≤ x ∧ x ≤ hi)) ∧ ∀ (i : Nat) y, i < j → ns[i]? = some y → lo ≤ y ∧ y ≤ hi
def NumsFault (lo hi : Int) (ns : List Int) (c : Nat) : Prop := (c = 3 ∧ ns.length ≠ 8) ∨ (c = 2 ∧ ∃ j, NumBad lo hi ns j) ∨ (c = 0 ∧ NumsOk lo hi ns)
theorem numsFault_is (lo hi : Int) (ns : List Int) : ∃ c, NumsFault lo hi ns c := by
 by_cases hl : ns.length = 8
 ·
  have key : ∀ k, k ≤ ns.length → (∀ (i : Nat) y, i < k → ns[i]? = some y → lo ≤ y ∧ y ≤ hi) ∨ ∃ j, NumBad lo hi ns j := by
   intro k
   induction k with
   | zero => intro _; exact .inl fun i y h => by omega
   | succ k ih =>
    intro hk
    rcases ih (by omega) with h | h
    ·
     obtain ⟨x, hx, -⟩ := get_some ns k (by omega)
     by_cases hb : lo ≤ x ∧ x ≤ hi
     ·
      refine .inl fun i y hi' hy => ?_
      rcases Nat.lt_or_ge i k with h' | h'
      · exact h i y h' hy
      ·
       obtain rfl : i = k := by omega
       obtain rfl := Option.some.inj (hx.symm.trans hy)
       exact hb
     · exact .inr ⟨k, hl, ⟨x, hx, hb⟩, h⟩
    · exact .inr h
  rcases key ns.length (Nat.le_refl _) with h | h
  ·
   exact ⟨0, .inr (.inr ⟨rfl, hl, fun i x hx => h i x (by
    rcases Nat.lt_or_ge i ns.length with h' | h'
    · exact h'
    · simp [List.getElem?_eq_none h'] at hx) hx⟩)⟩
  · exact ⟨2, .inr (.inl ⟨rfl, h⟩)⟩
 · exact ⟨3, .inl ⟨rfl, hl⟩⟩
end Go.Proofs.YtibhkijaafdkoaaGreatDoor

namespace Go.Proofs.YtibhkijaafdkoaaGreatDoor
def isWt (x : Int) : Prop := 1 ≤ x ∧ 12 % x = 0
theorem isWt_le {x : Int} (h : isWt x) : x ≤ 12 := Int.le_of_dvd (by decide) (Int.dvd_of_emod_eq_zero h.2)
structure WtsAll (ns : List Int) : Prop where
 len : ns.length = 8
 each : ∀ (i : Nat) x, ns[i]? = some x → isWt x
def WtBad (ns : List Int) (j : Nat) : Prop := ns.length = 8 ∧ (∃ x, ns[j]? = some x ∧ ¬ isWt x) ∧ ∀ (i : Nat) y, i < j → ns[i]? = some y → isWt y
def WtsFault (ns : List Int) (c : Nat) : Prop := (c = 3 ∧ ns.length ≠ 8) ∨ (c = 2 ∧ ∃ j, WtBad ns j) ∨ (c = 0 ∧ WtsAll ns)
theorem wtsFault_is (ns : List Int) : ∃ c, WtsFault ns c := by
 by_cases hl : ns.length = 8
 ·
  have key : ∀ k, k ≤ ns.length → (∀ (i : Nat) y, i < k → ns[i]? = some y → isWt y) ∨ ∃ j, WtBad ns j := by
   intro k
   induction k with
   | zero => intro _; exact .inl fun i y h => by omega
   | succ k ih =>
    intro hk
    rcases ih (by omega) with h | h
    ·
     obtain ⟨x, hx, -⟩ := get_some ns k (by omega)
     by_cases hb : isWt x
     ·
      refine .inl fun i y hi' hy => ?_
      rcases Nat.lt_or_ge i k with h' | h'
      · exact h i y h' hy
      ·
       obtain rfl : i = k := by omega
       obtain rfl := Option.some.inj (hx.symm.trans hy)
       exact hb
     · exact .inr ⟨k, hl, ⟨x, hx, hb⟩, h⟩
    · exact .inr h
  rcases key ns.length (Nat.le_refl _) with h | h
  · exact ⟨0, .inr (.inr ⟨rfl, hl, fun i x hx => h i x (lt_of_get hx) hx⟩)⟩
  · exact ⟨2, .inr (.inl ⟨rfl, h⟩)⟩
 · exact ⟨3, .inl ⟨rfl, hl⟩⟩
theorem WtsAll.nums {ns : List Int} (h : WtsAll ns) : NumsOk 1 12 ns := ⟨h.len, fun i x hx => ⟨(h.each i x hx).1, isWt_le (h.each i x hx)⟩⟩
theorem WtsAll.ok {ns : List Int} (h : WtsAll ns) : WtsOk ns := fun f => by
 cases hf : ns[f]? with
 | some x =>
  rw [quOf_get hf]
  have := h.each f x hf
  exact ⟨this.1, Int.ediv_mul_cancel (Int.dvd_of_emod_eq_zero this.2)⟩
 | none =>
  have : quOf ns f = 1 := by simp [quOf, hf]
  rw [this]
  exact ⟨Int.le_refl _, by decide⟩
theorem inc_tdiv {x z : Int} (h : isWt x) (hz : 0 ≤ z) : (z * 12).tdiv x = z * (12 / x) := by
 have hd := Int.dvd_of_emod_eq_zero h.2
 rw [Int.tdiv_eq_ediv_of_nonneg (by omega), Int.mul_ediv_assoc _ hd]
theorem erase_filter : ∀ (q : List Nat) (i : Nat), q.Nodup → i < q.length → q.eraseIdx i = q.filter fun j => j != q.getD i 0
 | [], i, _, h => absurd h (Nat.not_lt_zero _)
 | a :: q, 0, hn, _ => by
  obtain ⟨h1, -⟩ := List.nodup_cons.1 hn
  have e : (a :: q).getD 0 0 = a := rfl
  rw [e, List.filter_cons, if_neg (by simp)]
  refine (List.filter_eq_self.2 fun j hj => ?_).symm
  have : j ≠ a := fun e => h1 (by rw [← e]; exact hj)
  simp [this]
 | a :: q, i + 1, hn, h => by
  obtain ⟨h1, h2⟩ := List.nodup_cons.1 hn
  have hi : i < q.length := by simpa using h
  have e : (a :: q).getD (i + 1) 0 = q.getD i 0 := by simp [List.getD]
  have hne : a ≠ q.getD i 0 := fun e' => h1 (by rw [e', getD_lt hi]; exact List.getElem_mem hi)
  rw [e, List.filter_cons, if_pos (bne_iff_ne.2 hne), ← erase_filter q i h2 hi]
  rfl
end Go.Proofs.YtibhkijaafdkoaaGreatDoor

namespace Go.Proofs.YtibhkijaafdkoaaGreatDoor
open Go.RowKit
def LiesP (w : World) (a : Option Addr) (ps : List Pk) : Prop :=
 ps = [] ∨ ∃ b off, a = some ⟨b, off, none⟩ ∧ b < w.heap.size ∧ ∀ (i : Nat) p, ps[i]? = some p → w.cell? ⟨b, off + i * 3, none⟩ = some (.int .i64 p.flow) ∧ w.cell? ⟨b, off + i * 3 + 1, none⟩ = some (.int .i64 p.size) ∧ w.cell? ⟨b, off + i * 3 + 2, none⟩ = some (.int .i64 p.tick)
theorem LiesP.place {w : World} {a : Option Addr} {ps : List Pk} (h : LiesP w a ps) (h1 : 1 ≤ ps.length) :
  ∃ b off, a = some ⟨b, off, none⟩ ∧ b < w.heap.size ∧ ∀ (i : Nat) p, ps[i]? = some p → w.cell? ⟨b, off + i * 3, none⟩ = some (.int .i64 p.flow) ∧ w.cell? ⟨b, off + i * 3 + 1, none⟩ = some (.int .i64 p.size) ∧ w.cell? ⟨b, off + i * 3 + 2, none⟩ = some (.int .i64 p.tick) := by
 rcases h with rfl | h
 · simp at h1
 · exact h
theorem LiesP.but {S : Nat → Prop} {w w' : World} {a : Option Addr} {ps : List Pk} (h : LiesP w a ps) (hb : But S w w') (hs : ∀ ad, a = some ad → ¬ S ad.block) : LiesP w' a ps := by
 rcases h with rfl | ⟨b, off, rfl, hlt, hc⟩
 · exact .inl rfl
 ·
  have hn : ¬ S b := hs _ rfl
  refine .inr ⟨b, off, rfl, Nat.lt_of_lt_of_le hlt hb.size, fun i p hi => ?_⟩
  have := hc i p hi
  exact ⟨by rw [hb.cell (p := ⟨b, off + i * 3, none⟩) hlt hn]; exact this.1, by rw [hb.cell (p := ⟨b, off + i * 3 + 1, none⟩) hlt hn]; exact this.2.1, by rw [hb.cell (p := ⟨b, off + i * 3 + 2, none⟩) hlt hn]; exact this.2.2⟩
theorem LiesP.below {w w' : World} {a : Option Addr} {ps : List Pk} (h : LiesP w a ps) (hb : Below w.heap.size w w') : LiesP w' a ps :=
 h.but (S := fun _ => False) (.ofBelow hb) (fun _ _ h => h)
theorem LiesP.drop {w : World} {b off : Nat} {ps : List Pk} (h : LiesP w (some ⟨b, off, none⟩) ps) (k : Nat) : LiesP w (some ⟨b, off + k * 3, none⟩) (ps.drop k) := by
 rcases h with rfl | ⟨b', off', e, hlt, hc⟩
 · exact .inl (by simp)
 ·
  cases e
  refine .inr ⟨b, off + k * 3, rfl, hlt, fun i p hi => ?_⟩
  rw [List.getElem?_drop] at hi
  have := hc (k + i) p hi
  rw [show off + (k + i) * 3 = off + k * 3 + i * 3 by omega] at this
  exact this
def cellsP (ps : List Pk) : List Value := ps.flatMap fun p => [.int .i64 p.flow, .int .i64 p.size, .int .i64 p.tick]
theorem cellsP_cons (p : Pk) (r : List Pk) : cellsP (p :: r) = .int .i64 p.flow :: .int .i64 p.size :: .int .i64 p.tick :: cellsP r := rfl
theorem cellsP_append (a b : List Pk) : cellsP (a ++ b) = cellsP a ++ cellsP b := by simp [cellsP]
theorem cellsP_length (ps : List Pk) : (cellsP ps).length = ps.length * 3 := by
 induction ps with
 | nil => rfl
 | cons p r ih => rw [cellsP_cons]; simp [ih]; omega
theorem cellsP_get (ps : List Pk) : ∀ (i : Nat) p, ps[i]? = some p → (cellsP ps)[i * 3]? = some (.int .i64 p.flow) ∧ (cellsP ps)[i * 3 + 1]? = some (.int .i64 p.size) ∧ (cellsP ps)[i * 3 + 2]? = some (.int .i64 p.tick) := by
 induction ps with
 | nil => intro i p h; simp at h
 | cons q r ih =>
  intro i p h
  rw [cellsP_cons]
  cases i with
  | zero => simp at h; subst h; exact ⟨rfl, rfl, rfl⟩
  | succ i =>
   have := ih i p (by simpa using h)
   rw [show (i + 1) * 3 = i * 3 + 1 + 1 + 1 by omega]
   exact ⟨by simpa using this.1, by simpa using this.2.1, by simpa using this.2.2⟩
theorem cellsP_at (ps : List Pk) : ∀ j u, (cellsP ps)[j]? = some u → ∃ (i : Nat) (p : Pk), ps[i]? = some p ∧ ((j = i * 3 ∧ u = .int .i64 p.flow) ∨ (j = i * 3 + 1 ∧ u = .int .i64 p.size) ∨ (j = i * 3 + 2 ∧ u = .int .i64 p.tick)) := by
 induction ps with
 | nil => intro j u h; simp [cellsP] at h
 | cons p r ih =>
  intro j u h
  rw [cellsP_cons] at h
  match j, h with
  | 0, h => exact ⟨0, p, rfl, .inl ⟨rfl, by simpa using h.symm⟩⟩
  | 1, h => exact ⟨0, p, rfl, .inr (.inl ⟨rfl, by simpa using h.symm⟩)⟩
  | 2, h => exact ⟨0, p, rfl, .inr (.inr ⟨rfl, by simpa using h.symm⟩)⟩
  | j + 3, h =>
   obtain ⟨i, q, hi, hj⟩ := ih j u (by simpa using h)
   refine ⟨i + 1, q, by simpa using hi, ?_⟩
   rcases hj with ⟨e, f⟩ | ⟨e, f⟩ | ⟨e, f⟩
   · exact .inl ⟨by omega, f⟩
   · exact .inr (.inl ⟨by omega, f⟩)
   · exact .inr (.inr ⟨by omega, f⟩)
theorem cellsP_one (ps : List Pk) : ∀ u ∈ cellsP ps, u.oneCell' = true := by
 intro u hu
 obtain ⟨j, hj⟩ := List.mem_iff_getElem?.1 hu
 obtain ⟨i, p, -, h⟩ := cellsP_at ps j u hj
 rcases h with ⟨-, rfl⟩ | ⟨-, rfl⟩ | ⟨-, rfl⟩ <;> rfl
def OwnP (w : World) (B : Nat) (v : Value) (ps : List Pk) : Prop := w.ownsRow B 52 3 v ps.length (cellsP ps)
theorem OwnP.open {w : World} {B : Nat} {v : Value} {ps : List Pk} (h : OwnP w B v ps) :
  ∃ a cap, v = .slice a ps.length cap ∧ ps.length ≤ cap ∧ cap ≤ maxLen ∧ LiesP w a ps ∧ (∀ ad, a = some ad → B ≤ ad.block) ∧ (a = none → ps = [] ∧ cap = 0) := by
 obtain ⟨hlen, ⟨rfl, h0⟩ | ⟨g, cap, cur, rfl, hB, hg, hn, hm, hc, ht⟩⟩ := h
 · exact ⟨none, 0, by rw [h0], by omega, by simp [maxLen], .inl (List.length_eq_zero_iff.1 h0), (fun ad e => by cases e), fun _ => ⟨List.length_eq_zero_iff.1 h0, rfl⟩⟩
 ·
  refine ⟨_, cap, rfl, hn, hm, .inr ⟨g, 0, rfl, ?_, fun i p hi => ?_⟩, (fun ad e => by cases e; exact hB), fun e => by cases e⟩
  ·
   rcases Nat.lt_or_ge g w.heap.size with h | h
   · exact h
   · simp [Array.getElem?_eq_none h] at hg
  ·
   have hh : w.ownsRow B 52 3 (.slice (some ⟨g, 0, none⟩) ps.length cap) ps.length (cellsP ps) := ⟨hlen, .inr ⟨g, cap, cur, rfl, hB, hg, hn, hm, hc, ht⟩⟩
   have hil : i < ps.length := by
    rcases Nat.lt_or_ge i ps.length with h | h
    · exact h
    · simp [List.getElem?_eq_none h] at hi
   have := cellsP_get ps i p hi
   rw [hh.cellAt _ (by omega), hh.cellAt _ (by omega), hh.cellAt _ (by omega), Nat.zero_add]
   exact this
theorem liesP_news {w : World} {ad : Addr} {ps : List Pk} (h : LiesP w (some ad) ps) : ∀ j u, (cellsP ps)[j]? = some u → w.cell? (ad.add j) = some u := by
 intro j u hj
 obtain ⟨i, p, hi, hc⟩ := cellsP_at ps j u hj
 rcases h with rfl | ⟨b, off, e, -, h⟩
 · simp at hi
 ·
  cases e
  have := h i p hi
  rw [Addr.add_lit]
  rcases hc with ⟨rfl, rfl⟩ | ⟨rfl, rfl⟩ | ⟨rfl, rfl⟩
  · exact this.1
  · exact this.2.1
  · exact this.2.2
theorem Tryz.infoPkt : (Tryz.prog.info? 52).map (fun i => (i.zero, i.size, i.bytes)) = some (some (.agg #[.int .i64 0, .int .i64 0, .int .i64 0]), 3, 24) := by kernel_rfl
set_option maxHeartbeats 400000 in
theorem ownPackets_any (a : Option Addr) (cap : Nat) (ps : List Pk) (w : World) (hl : LiesP w a ps) (hn : ps.length ≤ 1000) (ha : a = none → ps = [] ∧ cap = 0) :
  Calls Tryz.prog 21 #[.slice a ps.length cap] w fun e w' => ∃ v, e = .returned v ∧ OwnP w' w.heap.size v ps ∧ Below w.heap.size w w' := by
 obtain ⟨i0, hi, hz0, hz1, hz2⟩ := info_parts Tryz.infoPkt
 cases a with
 | none =>
  obtain ⟨rfl, rfl⟩ := ha rfl
  show Calls Tryz.prog 21 #[.slice none 0 0] w _
  go_enter Tryz.func21, Tryz.ntmps21
  go_wp2
  go_ret
  exact ⟨_, rfl, World.ownsRow_nil _ _ _ _, Below.refl _ _⟩
 | some ad =>
  have H1 : Hid (∀ j u, (cellsP ps)[j]? = some u → w.cell? (ad.add j) = some u) := liesP_news hl
  have H2 : Hid ((cellsP ps).length = ps.length * 3) := cellsP_length ps
  have H3 : Hid (∀ u ∈ cellsP ps, u.oneCell' = true) := cellsP_one ps
  clear hl ha
  go_enter Tryz.func21, Tryz.ntmps21
  go_wp2_with (at_builtin; refine wpList_append_own _ rfl _ _ 43 rfl w.heap.size 52 i0 (.agg #[.int .i64 0, .int .i64 0, .int .i64 0]) 3 24 Tryz.underlying43 hi hz0 hz1 hz2 rfl (by decide) (.slice none 0 0) 0 [] rfl (World.ownsRow_nil _ _ _ _) ad ps.length cap (cellsP ps) rfl H2.out H1.out H3.out (by unfold maxLen; omega) (by omega) (Nat.le_refl _) ?_; intro v' w3 hown' hgrow3 hnil3)
  go_ret
  refine ⟨_, rfl, by simpa [OwnP] using hown', ?_⟩
  exact (Below.refl _ _).grown hgrow3 (Nat.le_refl _) (fun k hk => by cases hk)
end Go.Proofs.YtibhkijaafdkoaaGreatDoor

namespace Go.Proofs.YtibhkijaafdkoaaGreatDoor
open Go.RowKit
set_option maxHeartbeats 400000 in
theorem isSize_any (n : Int) (w : World) : Calls Tryz.prog 123 #[.int .i64 n] w fun e w' => e = .returned (.bool (decide (1 ≤ n ∧ n ≤ 1500))) ∧ w' = w := by
 by_cases h1 : 1 ≤ n
 ·
  by_cases h2 : n ≤ 1500
  ·
   rw [show decide (1 ≤ n ∧ n ≤ 1500) = true by simp [h1, h2]]
   go_enter Tryz.func123, Tryz.ntmps123
   go_wp2
   go_ret
   exact ⟨rfl, rfl⟩
  ·
   rw [show decide (1 ≤ n ∧ n ≤ 1500) = false by simp [h2]]
   go_enter Tryz.func123, Tryz.ntmps123
   go_wp2
   go_ret
   exact ⟨rfl, rfl⟩
 ·
  rw [show decide (1 ≤ n ∧ n ≤ 1500) = false by simp [h1]]
  go_enter Tryz.func123, Tryz.ntmps123
  go_wp2
  go_ret
  exact ⟨rfl, rfl⟩
set_option maxHeartbeats 400000 in
theorem isTick_any (t : Int) (w : World) : Calls Tryz.prog 124 #[.int .i64 t] w fun e w' => e = .returned (.bool (decide (0 ≤ t ∧ t ≤ 1099511627776))) ∧ w' = w := by
 by_cases h1 : 0 ≤ t
 ·
  by_cases h2 : t ≤ 1099511627776
  ·
   rw [show decide (0 ≤ t ∧ t ≤ 1099511627776) = true by simp [h1, h2]]
   go_enter Tryz.func124, Tryz.ntmps124
   go_wp2
   go_ret
   exact ⟨rfl, rfl⟩
  ·
   rw [show decide (0 ≤ t ∧ t ≤ 1099511627776) = false by simp [h2]]
   go_enter Tryz.func124, Tryz.ntmps124
   go_wp2
   go_ret
   exact ⟨rfl, rfl⟩
 ·
  rw [show decide (0 ≤ t ∧ t ≤ 1099511627776) = false by simp [h1]]
  go_enter Tryz.func124, Tryz.ntmps124
  go_wp2
  go_ret
  exact ⟨rfl, rfl⟩
end Go.Proofs.YtibhkijaafdkoaaGreatDoor

namespace Go.Proofs.YtibhkijaafdkoaaGreatDoor
open Go.RowKit
theorem okPk_false {p : Pk} (h : okPk p = false) : ¬ (0 ≤ p.flow ∧ p.flow < 8 ∧ 1 ≤ p.size ∧ p.size ≤ 1500 ∧ 0 ≤ p.tick ∧ p.tick ≤ 1099511627776) := of_decide_eq_false h
set_option maxHeartbeats 400000 in
theorem isPacket_core (x y z : Int) (s t : Bool) (w : World) (HS : Hid (∀ w', Calls Tryz.prog 123 #[.int .i64 y] w' fun e w'' => e = .returned (.bool s) ∧ w'' = w')) (HT : Hid (∀ w', Calls Tryz.prog 124 #[.int .i64 z] w' fun e w'' => e = .returned (.bool t) ∧ w'' = w')) :
  Calls Tryz.prog 78 #[.agg #[.int .i64 x, .int .i64 y, .int .i64 z]] w fun e w' => e = .returned (.bool (decide (0 ≤ x) && decide (x < 8) && s && t)) ∧ w' = w.alloc (.cells #[.int .i64 x, .int .i64 y, .int .i64 z] 52) := by
 by_cases h1 : 0 ≤ x
 ·
  by_cases h2 : x < 8
  ·
   rw [show (decide (0 ≤ x) && decide (x < 8) && s && t) = (s && t) by simp [h1, h2]]
   cases s with
   | false =>
    go_enter Tryz.func78, Tryz.ntmps78
    go_wp2_with (first
     | (go_at_call 123; refine (HS.out _).mono ?_; rintro e w1 ⟨rfl, rfl⟩)
     | (go_at_call 124; refine (HT.out _).mono ?_; rintro e w1 ⟨rfl, rfl⟩))
    go_ret
    exact ⟨rfl, rfl⟩
   | true =>
    cases t with
    | false =>
     go_enter Tryz.func78, Tryz.ntmps78
     go_wp2_with (first
      | (go_at_call 123; refine (HS.out _).mono ?_; rintro e w1 ⟨rfl, rfl⟩)
      | (go_at_call 124; refine (HT.out _).mono ?_; rintro e w1 ⟨rfl, rfl⟩))
     go_ret
     exact ⟨rfl, rfl⟩
    | true =>
     go_enter Tryz.func78, Tryz.ntmps78
     go_wp2_with (first
      | (go_at_call 123; refine (HS.out _).mono ?_; rintro e w1 ⟨rfl, rfl⟩)
      | (go_at_call 124; refine (HT.out _).mono ?_; rintro e w1 ⟨rfl, rfl⟩))
     go_ret
     exact ⟨rfl, rfl⟩
  ·
   rw [show (decide (0 ≤ x) && decide (x < 8) && s && t) = false by simp [h2]]
   go_enter Tryz.func78, Tryz.ntmps78
   go_wp2
   go_ret
   exact ⟨rfl, rfl⟩
 ·
  rw [show (decide (0 ≤ x) && decide (x < 8) && s && t) = false by simp [h1]]
  go_enter Tryz.func78, Tryz.ntmps78
  go_wp2
  go_ret
  exact ⟨rfl, rfl⟩
theorem isPacket_any (p : Pk) (w : World) :
  Calls Tryz.prog 78 #[.agg #[.int .i64 p.flow, .int .i64 p.size, .int .i64 p.tick]] w fun e w' => e = .returned (.bool (okPk p)) ∧ w' = w.alloc (.cells #[.int .i64 p.flow, .int .i64 p.size, .int .i64 p.tick] 52) := by
 have h := isPacket_core p.flow p.size p.tick _ _ w (fun w' => isSize_any p.size w') (fun w' => isTick_any p.tick w')
 rw [show (decide (0 ≤ p.flow) && decide (p.flow < 8) && decide (1 ≤ p.size ∧ p.size ≤ 1500) && decide (0 ≤ p.tick ∧ p.tick ≤ 1099511627776)) = okPk p by
  unfold okPk
  simp only [Bool.decide_and, Bool.and_assoc]] at h
 exact h
def goodTo (ps : List Pk) (j : Nat) : Prop := ∀ (i : Nat) q, i < j → ps[i]? = some q → okPk q = true ∧ ahead ps i ≤ q.tick
theorem ahead_succ {ps : List Pk} {k : Nat} {p : Pk} (h : ps[k]? = some p) : ahead ps (k + 1) = p.tick := by simp only [ahead]; rw [h]
set_option maxHeartbeats 400000 in
theorem pcheck_long (a : Option Addr) (n cap : Nat) (w : World) (ad : Nat → Addr) (he : ErrsBO w ad) (hm : n ≤ maxLen) (h : 300 < n) :
  Calls Tryz.prog 49 #[.slice a n cap] w fun e w' => e = .returned (.iface 271 (.pointer (some (ad 1)))) ∧ w' = w := by
 unfold maxLen at hm
 have e1 := he.c1
 go_enter Tryz.func49, Tryz.ntmps49
 go_wp2
 go_ret
 exact ⟨rfl, rfl⟩
set_option maxHeartbeats 400000 in
theorem pcheck_ok (a : Option Addr) (cap : Nat) (ps : List Pk) (w : World) (hl : LiesP w a ps) (h : OkPks ps) :
  Calls Tryz.prog 49 #[.slice a ps.length cap] w fun e w' => e = .returned .nilIface ∧ Below w.heap.size w w' := by
 by_cases h0 : ps = []
 ·
  subst h0
  show Calls Tryz.prog 49 #[.slice a 0 cap] w _
  clear hl
  go_enter Tryz.func49, Tryz.ntmps49
  go_wp2
  refine wp_loop_rounds 1 ?_
  rw [rounds_succ]
  go_wp2
  go_ret
  exact ⟨rfl, Below.refl _ _⟩
 ·
  obtain ⟨b, off, rfl, hlt, hc⟩ := hl.place (by cases ps with | nil => exact absurd rfl h0 | cons p r => simp)
  have HC : Hid (∀ (i : Nat) p, ps[i]? = some p → w.cell? ⟨b, off + i * 3, none⟩ = some (.int .i64 p.flow) ∧ w.cell? ⟨b, off + i * 3 + 1, none⟩ = some (.int .i64 p.size) ∧ w.cell? ⟨b, off + i * 3 + 2, none⟩ = some (.int .i64 p.tick)) := hc
  have HO : Hid (OkPks ps) := h
  have hn300 : ps.length ≤ 300 := h.few
  clear hl h hc h0
  generalize hn : ps.length = n at *
  have Hn := (show Hid (ps.length = n) from hn)
  clear hn
  go_enter Tryz.func49, Tryz.ntmps49
  go_wp2
  go_loopw [3, 12] (fun l i wr => ∃ k : Nat, k ≤ n ∧ i = .int .i64 k ∧ l = .int .i64 (ahead ps k) ∧ Below w.heap.size w wr) (fun _ i _ => n - (intOf i).toNat)
  case atStart => exact ⟨0, Nat.zero_le _, rfl, rfl, Below.refl _ _⟩
  case round =>
   obtain ⟨k, hk, rfl, rfl, hb⟩ := hrel
   have HB : Hid (Below w.heap.size w wr) := hb
   by_cases hkn : k < n
   ·
    obtain ⟨p, hp, -⟩ := get_some ps k (by rw [Hn.out]; exact hkn)
    obtain ⟨d1, d2, d3⟩ := HC.out k p hp
    have hc1 : wr.cell? ⟨b, off + k * 3, none⟩ = some (.int .i64 p.flow) := by rw [hb.cell (p := ⟨b, off + k * 3, none⟩) hlt]; exact d1
    have hc2 : wr.cell? ⟨b, off + k * 3 + 1, none⟩ = some (.int .i64 p.size) := by rw [hb.cell (p := ⟨b, off + k * 3 + 1, none⟩) hlt]; exact d2
    have hc3 : wr.cell? ⟨b, off + k * 3 + 2, none⟩ = some (.int .i64 p.tick) := by rw [hb.cell (p := ⟨b, off + k * 3 + 2, none⟩) hlt]; exact d3
    obtain ⟨o1, o2⟩ := HO.out.each k p hp
    have HA : Hid (ahead ps (k + 1) = p.tick) := ahead_succ hp
    have HP : Hid (∀ w', Calls Tryz.prog 78 #[.agg #[.int .i64 p.flow, .int .i64 p.size, .int .i64 p.tick]] w' fun e w'' => e = .returned (.bool true) ∧ w'' = w'.alloc (.cells #[.int .i64 p.flow, .int .i64 p.size, .int .i64 p.tick] 52)) := fun w' => by
     have := isPacket_any p w'
     rwa [o1] at this
    clear d1 d2 d3 hp o1 hb
    have o2' : ¬ p.tick < ahead ps k := by omega
    generalize ahead ps k = L at *
    generalize p.flow = x at *
    generalize p.size = y at *
    generalize p.tick = z at *
    go_wp2_with (go_at_call 78; refine (HP.out _).mono ?_; rintro e w' ⟨rfl, rfl⟩)
    have hs := HB.out.size
    go_roundw
    case rel => exact ⟨k + 1, by omega, by go_num, by rw [HA.out], (HB.out.alloc hs _).alloc (by simp; omega) _⟩
    case measure => simp [intOf]; omega
   ·
    go_wp2
    go_ret
    exact ⟨rfl, HB.out⟩
end Go.Proofs.YtibhkijaafdkoaaGreatDoor

namespace Go.Proofs.YtibhkijaafdkoaaGreatDoor
open Go.RowKit
def PkBad (ps : List Pk) (j : Nat) (p : Pk) (k : Nat) : Prop := (okPk p = false ∧ k = 1) ∨ (okPk p = true ∧ p.tick < ahead ps j ∧ k = 4)
theorem pks_split (ps : List Pk) : OkPks ps ∨ 300 < ps.length ∨ (ps.length ≤ 300 ∧ ∃ j p k, ps[j]? = some p ∧ goodTo ps j ∧ PkBad ps j p k) := by
 by_cases hn : 300 < ps.length
 · exact .inr (.inl hn)
 ·
  have h : ∀ j, j ≤ ps.length → goodTo ps j ∨ ∃ i p k, ps[i]? = some p ∧ goodTo ps i ∧ PkBad ps i p k := by
   intro j
   induction j with
   | zero => intro _; exact .inl fun i q hi => by omega
   | succ j ih =>
    intro hj
    rcases ih (by omega) with h | h
    ·
     obtain ⟨p, hp, -⟩ := get_some ps j (by omega)
     cases ho : okPk p with
     | false => exact .inr ⟨j, p, 1, hp, h, .inl ⟨ho, rfl⟩⟩
     | true =>
      by_cases ht : p.tick < ahead ps j
      · exact .inr ⟨j, p, 4, hp, h, .inr ⟨ho, ht, rfl⟩⟩
      ·
       refine .inl fun i q hi hq => ?_
       by_cases hij : i < j
       · exact h i q hij hq
       ·
        obtain rfl : i = j := by omega
        obtain rfl : p = q := Option.some.inj (hp.symm.trans hq)
        exact ⟨ho, by omega⟩
    · exact .inr h
  rcases h ps.length (Nat.le_refl _) with h | h
  ·
   exact .inl ⟨by omega, fun i p hp => h i p (by
    rcases Nat.lt_or_ge i ps.length with h | h
    · exact h
    · simp [List.getElem?_eq_none h] at hp) hp⟩
  · exact .inr (.inr ⟨by omega, h⟩)
set_option maxHeartbeats 1000000 in
theorem pcheck_bad (a : Option Addr) (cap : Nat) (ps : List Pk) (w : World) (ad : Nat → Addr) (he : ErrsBO w ad) (hl : LiesP w a ps) (h300 : ps.length ≤ 300) (j : Nat) (p : Pk) (hj : ps[j]? = some p) (hg : goodTo ps j) (k : Nat) (hbad : PkBad ps j p k) :
  Calls Tryz.prog 49 #[.slice a ps.length cap] w fun e w' => Below w.heap.size w w' ∧ ∃ B, e = .returned (.iface 110 (.pointer (some ⟨B, 0, none⟩))) ∧ w.heap.size ≤ B ∧ B < w'.heap.size ∧ w'.cell? ⟨B, 0, none⟩ = some (.int .i64 j) ∧ w'.cell? ⟨B, 1, none⟩ = some (.iface 271 (.pointer (some (ad k)))) := by
 have hjl : j < ps.length := by
  rcases Nat.lt_or_ge j ps.length with h | h
  · exact h
  · simp [List.getElem?_eq_none h] at hj
 obtain ⟨b, off, rfl, hlt, hc⟩ := hl.place (by omega)
 have HC : Hid (∀ (i : Nat) p, ps[i]? = some p → w.cell? ⟨b, off + i * 3, none⟩ = some (.int .i64 p.flow) ∧ w.cell? ⟨b, off + i * 3 + 1, none⟩ = some (.int .i64 p.size) ∧ w.cell? ⟨b, off + i * 3 + 2, none⟩ = some (.int .i64 p.tick)) := hc
 have HG : Hid (goodTo ps j) := hg
 have HE : Hid (ErrsBO w ad) := he
 have HJ : Hid (ps[j]? = some p) := hj
 have HBad : Hid (PkBad ps j p k) := hbad
 clear hl hg hc he hj hbad
 generalize hn : ps.length = n at *
 have Hn := (show Hid (ps.length = n) from hn)
 clear hn
 go_enter Tryz.func49, Tryz.ntmps49
 go_wp2
 go_loopw [3, 12] (fun l i wr => ∃ q : Nat, q ≤ j ∧ i = .int .i64 q ∧ l = .int .i64 (ahead ps q) ∧ Below w.heap.size w wr) (fun _ i _ => n - (intOf i).toNat)
 case atStart => exact ⟨0, Nat.zero_le _, rfl, rfl, Below.refl _ _⟩
 case round =>
  obtain ⟨q, hq, rfl, rfl, hb⟩ := hrel
  have HB : Hid (Below w.heap.size w wr) := hb
  have hs := hb.size
  have hqn : q < n := by omega
  obtain ⟨r, hp, -⟩ := get_some ps q (by rw [Hn.out]; exact hqn)
  obtain ⟨d1, d2, d3⟩ := HC.out q r hp
  have hc1 : wr.cell? ⟨b, off + q * 3, none⟩ = some (.int .i64 r.flow) := by rw [hb.cell (p := ⟨b, off + q * 3, none⟩) hlt]; exact d1
  have hc2 : wr.cell? ⟨b, off + q * 3 + 1, none⟩ = some (.int .i64 r.size) := by rw [hb.cell (p := ⟨b, off + q * 3 + 1, none⟩) hlt]; exact d2
  have hc3 : wr.cell? ⟨b, off + q * 3 + 2, none⟩ = some (.int .i64 r.tick) := by rw [hb.cell (p := ⟨b, off + q * 3 + 2, none⟩) hlt]; exact d3
  by_cases hqj : q < j
  ·
   obtain ⟨o1, o2⟩ := HG.out q r hqj hp
   have HA : Hid (ahead ps (q + 1) = r.tick) := ahead_succ hp
   have HP : Hid (∀ w', Calls Tryz.prog 78 #[.agg #[.int .i64 r.flow, .int .i64 r.size, .int .i64 r.tick]] w' fun e w'' => e = .returned (.bool true) ∧ w'' = w'.alloc (.cells #[.int .i64 r.flow, .int .i64 r.size, .int .i64 r.tick] 52)) := fun w' => by
    have := isPacket_any r w'
    rwa [o1] at this
   clear d1 d2 d3 hp o1 hb
   have o2' : ¬ r.tick < ahead ps q := by omega
   generalize ahead ps q = L at *
   generalize r.flow = x at *
   generalize r.size = y at *
   generalize r.tick = z at *
   go_wp2_with (go_at_call 78; refine (HP.out _).mono ?_; rintro e w' ⟨rfl, rfl⟩)
   go_roundw
   case rel => exact ⟨q + 1, by omega, by go_num, by rw [HA.out], (HB.out.alloc hs _).alloc (by simp; omega) _⟩
   case measure => simp [intOf]; omega
  ·
   obtain rfl : q = j := by omega
   obtain rfl : r = p := Option.some.inj (hp.symm.trans HJ.out)
   have hB2 := cell_later (((Below.refl wr.heap.size wr).alloc (Nat.le_refl _) (.cells #[.int .i64 r.flow, .int .i64 r.size, .int .i64 r.tick] 52)).alloc (by simp) (.cells #[.int .i64 r.flow, .int .i64 r.size, .int .i64 r.tick] 52)) (cell_later HB.out HE.out.c1)
   have hB5 := cell_later (((Below.refl wr.heap.size wr).alloc (Nat.le_refl _) (.cells #[.int .i64 r.flow, .int .i64 r.size, .int .i64 r.tick] 52)).alloc (by simp) (.cells #[.int .i64 r.flow, .int .i64 r.size, .int .i64 r.tick] 52)) (cell_later HB.out HE.out.c4)
   rcases HBad.out with ⟨o1, rfl⟩ | ⟨o1, o2, rfl⟩
   ·
    have HP : Hid (∀ w', Calls Tryz.prog 78 #[.agg #[.int .i64 r.flow, .int .i64 r.size, .int .i64 r.tick]] w' fun e w'' => e = .returned (.bool false) ∧ w'' = w'.alloc (.cells #[.int .i64 r.flow, .int .i64 r.size, .int .i64 r.tick] 52)) := fun w' => by
     have := isPacket_any r w'
     rwa [o1] at this
    clear d1 d2 d3 hp o1 hb hB5 hqj
    generalize ahead ps q = L at *
    generalize r.flow = x at *
    generalize r.size = y at *
    generalize r.tick = z at *
    go_wp2_with (go_at_call 78; refine (HP.out _).mono ?_; rintro e w' ⟨rfl, rfl⟩)
    go_ret
    refine ⟨((HB.out.alloc hs _).alloc (by simp; omega) _).alloc (by simp; omega) _, _, rfl, ?_, ?_, ?_, ?_⟩
    · omega
    · simp
    · rw [World.cell?_alloc_at _ _ _ _ (by simp)]; rfl
    · rw [World.cell?_alloc_at _ _ _ _ (by simp)]; rfl
   ·
    have HP : Hid (∀ w', Calls Tryz.prog 78 #[.agg #[.int .i64 r.flow, .int .i64 r.size, .int .i64 r.tick]] w' fun e w'' => e = .returned (.bool true) ∧ w'' = w'.alloc (.cells #[.int .i64 r.flow, .int .i64 r.size, .int .i64 r.tick] 52)) := fun w' => by
     have := isPacket_any r w'
     rwa [o1] at this
    clear d1 d2 d3 hp o1 hb hB2 hqj
    generalize ahead ps q = L at *
    generalize r.flow = x at *
    generalize r.size = y at *
    generalize r.tick = z at *
    go_wp2_with (go_at_call 78; refine (HP.out _).mono ?_; rintro e w' ⟨rfl, rfl⟩)
    go_ret
    refine ⟨((HB.out.alloc hs _).alloc (by simp; omega) _).alloc (by simp; omega) _, _, rfl, ?_, ?_, ?_, ?_⟩
    · omega
    · simp
    · rw [World.cell?_alloc_at _ _ _ _ (by simp)]; rfl
    · rw [World.cell?_alloc_at _ _ _ _ (by simp)]; rfl
end Go.Proofs.YtibhkijaafdkoaaGreatDoor

namespace Go.Proofs.YtibhkijaafdkoaaGreatDoor
open Go.RowKit
set_option maxHeartbeats 400000 in
theorem pfault_long (a : Option Addr) (n cap : Nat) (w : World) (hm : n ≤ maxLen) (h : 300 < n) :
  Calls Tryz.prog 62 #[.slice a n cap] w fun e w' => e = .returned (.agg #[.int .i64 2, .int .i64 (-1)]) ∧ Below w.heap.size w w' := by
 unfold maxLen at hm
 have hb0 : Below w.heap.size w (w.alloc (.cells #[.int .i64 0, .int .i64 0] 35)) := (Below.refl _ _).alloc (Nat.le_refl _) _
 go_enter Tryz.func62, Tryz.ntmps62
 go_wp2_with fail
 refine (bare_any 2 _).mono ?_
 rintro e w1 ⟨rfl, hb⟩
 obtain ⟨hc, hc', hf, hf'⟩ := (two_new w _ _ _).later hb
 have HB : Hid (Below w.heap.size w w1) := hb0.trans (hb.mono hb0.size)
 clear hb hb0
 go_wp2_with fail
 exact bodyPost_ret (v := .agg #[.int .i64 2, .int .i64 (-1)]) (by simp [results, Tryz.results62, go_sem, hc, hc']) rfl ⟨rfl, (HB.out.setCell (Nat.le_refl _) _).setCell (Nat.le_refl _) _⟩
theorem pk_six {x y z : Int} (h : okPk ⟨x, y, z⟩ = false) : x < 0 ∨ (¬ x < 0 ∧ 8 ≤ x) ∨ (¬ x < 0 ∧ ¬ 8 ≤ x ∧ y < 1) ∨ (¬ x < 0 ∧ ¬ 8 ≤ x ∧ ¬ y < 1 ∧ 1500 < y) ∨ (¬ x < 0 ∧ ¬ 8 ≤ x ∧ ¬ y < 1 ∧ ¬ 1500 < y ∧ z < 0) ∨ (¬ x < 0 ∧ ¬ 8 ≤ x ∧ ¬ y < 1 ∧ ¬ 1500 < y ∧ ¬ z < 0 ∧ 1099511627776 < z) := by
 have := okPk_false h
 simp only at this
 omega
set_option maxHeartbeats 1000000 in
theorem pfault_all (a : Option Addr) (cap : Nat) (ps : List Pk) (w : World) (hl : LiesP w a ps) (h300 : ps.length ≤ 300) (j : Nat) (hj : j ≤ ps.length) (hg : goodTo ps j) (c p : Int)
  (hend : (j = ps.length ∧ c = 0 ∧ p = -1) ∨ (∃ q k, ps[j]? = some q ∧ PkBad ps j q k ∧ c = k + 1 ∧ p = j)) :
  Calls Tryz.prog 62 #[.slice a ps.length cap] w fun e w' => e = .returned (.agg #[.int .i64 c, .int .i64 p]) ∧ Below w.heap.size w w' := by
 have hb0 : Below w.heap.size w (w.alloc (.cells #[.int .i64 0, .int .i64 0] 35)) := (Below.refl _ _).alloc (Nat.le_refl _) _
 obtain ⟨b, off, hlt, hc, ha⟩ : ∃ b off, (ps = [] ∨ b < w.heap.size) ∧ (∀ (i : Nat) p, ps[i]? = some p → w.cell? ⟨b, off + i * 3, none⟩ = some (.int .i64 p.flow) ∧ w.cell? ⟨b, off + i * 3 + 1, none⟩ = some (.int .i64 p.size) ∧ w.cell? ⟨b, off + i * 3 + 2, none⟩ = some (.int .i64 p.tick)) ∧ (ps = [] ∨ a = some ⟨b, off, none⟩) := by
  rcases hl with rfl | ⟨b, off, e, hlt, hc⟩
  · exact ⟨0, 0, .inl rfl, fun i p h => by simp at h, .inl rfl⟩
  · exact ⟨b, off, .inr hlt, hc, .inr e⟩
 have HC : Hid (∀ (i : Nat) p, ps[i]? = some p → w.cell? ⟨b, off + i * 3, none⟩ = some (.int .i64 p.flow) ∧ w.cell? ⟨b, off + i * 3 + 1, none⟩ = some (.int .i64 p.size) ∧ w.cell? ⟨b, off + i * 3 + 2, none⟩ = some (.int .i64 p.tick)) := hc
 have HA : Hid (ps = [] ∨ a = some ⟨b, off, none⟩) := ha
 have HLT : Hid (ps = [] ∨ b < w.heap.size) := hlt
 have HG : Hid (goodTo ps j) := hg
 have HEnd := (show Hid ((j = ps.length ∧ c = 0 ∧ p = -1) ∨ (∃ q k, ps[j]? = some q ∧ PkBad ps j q k ∧ c = k + 1 ∧ p = j)) from hend)
 clear hl hg hc ha hend hlt
 generalize hn : ps.length = n at *
 have Hn := (show Hid (ps.length = n) from hn)
 clear hn
 go_enter Tryz.func62, Tryz.ntmps62
 go_wp2_with fail
 go_loopw [3] (fun i wr => ∃ q : Nat, q ≤ j ∧ i = .int .i64 q ∧ Below w.heap.size w wr ∧ Two w wr (.int .i64 0) (.int .i64 0)) (fun i _ => n - (intOf i).toNat)
 case atStart => exact ⟨0, Nat.zero_le _, rfl, hb0, two_new w _ _ _⟩
 case round =>
  obtain ⟨q, hq, rfl, hb, h2⟩ := hrel
  have HB : Hid (Below w.heap.size w wr) := hb
  have H2 : Hid (Two w wr (.int .i64 0) (.int .i64 0)) := h2
  have hs := hb.size
  by_cases hqn : q < n
  ·
   have hne : ps ≠ [] := fun e => by have := Hn.out; rw [e] at this; simp at this; omega
   obtain rfl := HA.out.resolve_left hne
   have hlt := HLT.out.resolve_left hne
   obtain ⟨⟨x, y, z⟩, hp, -⟩ := get_some ps q (by rw [Hn.out]; exact hqn)
   obtain ⟨d1, d2, d3⟩ := HC.out q _ hp
   have hc1 : wr.cell? ⟨b, off + q * 3, none⟩ = some (.int .i64 x) := by rw [hb.cell (p := ⟨b, off + q * 3, none⟩) hlt]; exact d1
   have hc2 : wr.cell? ⟨b, off + q * 3 + 1, none⟩ = some (.int .i64 y) := by rw [hb.cell (p := ⟨b, off + q * 3 + 1, none⟩) hlt]; exact d2
   have hc3 : wr.cell? ⟨b, off + q * 3 + 2, none⟩ = some (.int .i64 z) := by rw [hb.cell (p := ⟨b, off + q * 3 + 2, none⟩) hlt]; exact d3
   have HP : Hid (ps[q]? = some ⟨x, y, z⟩) := hp
   clear d1 d2 d3 hp hne
   by_cases hok : okPk ⟨x, y, z⟩ = true
   ·
    have o := okPk_true hok
    simp only at o
    obtain ⟨o1, o2, o3, o4, o5, o6⟩ := o
    have HOk : Hid (okPk ⟨x, y, z⟩ = true) := hok
    have HPrev : Hid (q = 0 ∨ ∃ x' y' z', ps[q - 1]? = some ⟨x', y', z'⟩ ∧ ahead ps q = z' ∧ 1 ≤ q) := by
     rcases Nat.eq_zero_or_pos q with h | h
     · exact .inl h
     ·
      obtain ⟨⟨x', y', z'⟩, hp', -⟩ := get_some ps (q - 1) (by rw [Hn.out]; omega)
      have := ahead_succ hp'
      rw [show q - 1 + 1 = q by omega] at this
      exact .inr ⟨x', y', z', hp', this, h⟩
    clear hok
    rcases HPrev.out with rfl | ⟨x', y', z', hp', hah, hq1⟩
    ·
     have hj0 : 0 < j ∨ j = 0 := by omega
     have HNot : Hid (0 < j) := by
      rcases hj0 with h | rfl
      · exact h
      ·
       rcases HEnd.out with ⟨h, -⟩ | ⟨r, k, hr, hbad, -, -⟩
       · omega
       ·
        obtain rfl : r = ⟨x, y, z⟩ := Option.some.inj (hr.symm.trans HP.out)
        rcases hbad with ⟨h, -⟩ | ⟨-, h, -⟩
        · rw [HOk.out] at h; cases h
        · simp [ahead] at h; omega
     clear hb h2 hb0 hj0 HPrev
     have e1 : wr.cell? ⟨b, off, none⟩ = some (.int .i64 x) := by simpa using hc1
     have e2 : wr.cell? ⟨b, off + 1, none⟩ = some (.int .i64 y) := by simpa using hc2
     have e3 : wr.cell? ⟨b, off + 2, none⟩ = some (.int .i64 z) := by simpa using hc3
     clear hc1 hc2 hc3
     go_wp2_with fail
     go_quiet (fail)
     go_wp2_with fail
     have hj1 := HNot.out
     go_roundw
     case rel => exact ⟨1, by omega, rfl, below_drewN (HB.out.alloc hs _) _, H2.out.later (below_drewN ((Below.refl _ _).alloc (Nat.le_refl _) _) _)⟩
     case measure => simp [intOf]; omega
    ·
     have d3 := (HC.out (q - 1) _ hp').2.2
     have hc4 : wr.cell? ⟨b, off + (q - 1) * 3 + 2, none⟩ = some (.int .i64 z') := by rw [hb.cell (p := ⟨b, off + (q - 1) * 3 + 2, none⟩) hlt]; exact d3
     have hc5 : (wr.alloc (.cells #[.int .i64 x, .int .i64 y, .int .i64 z] 52)).cell? ⟨b, off + (q - 1) * 3 + 2, none⟩ = some (.int .i64 z') := cell_later ((Below.refl _ _).alloc (Nat.le_refl _) _) hc4
     have hqp : 0 < q := by omega
     have hqd : decide ((0 : Int) < (q : Int)) = true := decide_eq_true (by omega)
     clear d3 hp' HPrev
     by_cases hz : z < z'
     ·
      have hzd : decide (z < z') = true := decide_eq_true hz
      have HQ : Hid (q = j ∧ c = 5 ∧ p = q) := by
       by_cases hqj : q < j
       ·
        have := (HG.out q _ hqj HP.out).2
        rw [hah] at this
        simp only at this
        omega
       ·
        obtain rfl : q = j := by omega
        rcases HEnd.out with ⟨h, -⟩ | ⟨r, k, hr, hbad, rfl, rfl⟩
        · omega
        ·
         obtain rfl : r = ⟨x, y, z⟩ := Option.some.inj (hr.symm.trans HP.out)
         rcases hbad with ⟨h, -⟩ | ⟨-, h, rfl⟩
         · rw [HOk.out] at h; cases h
         · exact ⟨rfl, rfl, rfl⟩
      obtain ⟨rfl, rfl, rfl⟩ := HQ.out
      clear hb hb0 hah HQ hq
      have hbA : Below wr.heap.size wr (wr.alloc (.cells #[.int .i64 x, .int .i64 y, .int .i64 z] 52)) := (Below.refl _ _).alloc (Nat.le_refl _) _
      have HBA : Hid (Below w.heap.size w (wr.alloc (.cells #[.int .i64 x, .int .i64 y, .int .i64 z] 52))) := HB.out.trans (hbA.mono hs)
      obtain ⟨k0, k1, f0, f1⟩ := h2.later hbA
      clear hbA h2
      go_wp2_with fail
      go_quiet (fail)
      go_wp2_with fail
      exact bodyPost_ret (v := .agg #[.int .i64 5, .int .i64 q]) (by simp [results, Tryz.results62, go_sem, k0, k1]) rfl ⟨rfl, ((below_drewN HBA.out _).setCell (Nat.le_refl _) _).setCell (Nat.le_refl _) _⟩
     ·
      have HNot : Hid (q < j) := by
       by_cases hqj : q < j
       · exact hqj
       ·
        obtain rfl : q = j := by omega
        rcases HEnd.out with ⟨h, -⟩ | ⟨r, k, hr, hbad, -, -⟩
        · omega
        ·
         obtain rfl : r = ⟨x, y, z⟩ := Option.some.inj (hr.symm.trans HP.out)
         rcases hbad with ⟨h, -⟩ | ⟨-, h, -⟩
         · rw [HOk.out] at h; cases h
         · rw [hah] at h; exact absurd h hz
      have hzd : decide (z < z') = false := decide_eq_false hz
      clear hb h2 hb0 hah
      go_wp2_with fail
      go_quiet (fail)
      go_wp2_with fail
      have hj1 := HNot.out
      go_roundw
      case rel => exact ⟨q + 1, by omega, by go_num, below_drewN (HB.out.alloc hs _) _, H2.out.later (below_drewN ((Below.refl _ _).alloc (Nat.le_refl _) _) _)⟩
      case measure => simp [intOf]; omega
   ·
    have hok' : okPk ⟨x, y, z⟩ = false := by simpa using hok
    have HQ : Hid (q = j ∧ c = 2 ∧ p = q) := by
     by_cases hqj : q < j
     · exact absurd (HG.out q _ hqj HP.out).1 hok
     ·
      obtain rfl : q = j := by omega
      rcases HEnd.out with ⟨h, -⟩ | ⟨r, k, hr, hbad, rfl, rfl⟩
      · omega
      ·
       obtain rfl : r = ⟨x, y, z⟩ := Option.some.inj (hr.symm.trans HP.out)
       rcases hbad with ⟨-, rfl⟩ | ⟨h, -, -⟩
       · exact ⟨rfl, rfl, rfl⟩
       · exact absurd h hok
    obtain ⟨rfl, rfl, rfl⟩ := HQ.out
    have H6 := (show Hid _ from pk_six hok')
    clear hb hb0 HQ hq hok hok'
    have hbA : Below wr.heap.size wr (wr.alloc (.cells #[.int .i64 x, .int .i64 y, .int .i64 z] 52)) := (Below.refl _ _).alloc (Nat.le_refl _) _
    have HBA : Hid (Below w.heap.size w (wr.alloc (.cells #[.int .i64 x, .int .i64 y, .int .i64 z] 52))) := HB.out.trans (hbA.mono hs)
    obtain ⟨k0, k1, f0, f1⟩ := h2.later hbA
    clear hbA h2
    rcases H6.out with h1 | ⟨h1, h2⟩ | ⟨h1, h2, h3⟩ | ⟨h1, h2, h3, h4⟩ | ⟨h1, h2, h3, h4, h5⟩ | ⟨h1, h2, h3, h4, h5, h6⟩
    all_goals
     clear H6
     go_wp2_with fail
     exact bodyPost_ret (v := .agg #[.int .i64 2, .int .i64 q]) (by simp [results, Tryz.results62, go_sem, k0, k1]) rfl ⟨rfl, (HBA.out.setCell (Nat.le_refl _) _).setCell (Nat.le_refl _) _⟩
  ·
   have HQ : Hid (c = 0 ∧ p = -1) := by
    rcases HEnd.out with ⟨-, h1, h2⟩ | ⟨r, k, hr, -, -, -⟩
    · exact ⟨h1, h2⟩
    ·
     have : j < ps.length := by
      rcases Nat.lt_or_ge j ps.length with h | h
      · exact h
      · simp [List.getElem?_eq_none h] at hr
     rw [Hn.out] at this; omega
   obtain ⟨rfl, rfl⟩ := HQ.out
   clear hb h2 hb0
   go_wp2_with fail
   refine (fine_any _).mono ?_
   rintro e w1 ⟨rfl, hb⟩
   obtain ⟨hc, hc', hf, hf'⟩ := H2.out.later hb
   have HB1 : Hid (Below w.heap.size w w1) := HB.out.trans (hb.mono HB.out.size)
   clear hb
   go_wp2_with fail
   exact bodyPost_ret (v := .agg #[.int .i64 0, .int .i64 (-1)]) (by simp [results, Tryz.results62, go_sem, hc, hc']) rfl ⟨rfl, (HB1.out.setCell (Nat.le_refl _) _).setCell (Nat.le_refl _) _⟩
end Go.Proofs.YtibhkijaafdkoaaGreatDoor

namespace Go.Proofs.YtibhkijaafdkoaaGreatDoor
open Go.RowKit
theorem Errs9.bo {w : World} {ad : Nat → Addr} (h : Errs9 w ad) : ErrsBO w ad := ⟨h.c1, h.c4⟩
def PksFault (ps : List Pk) (c p : Int) : Prop :=
 (300 < ps.length ∧ c = 2 ∧ p = -1) ∨
 (ps.length ≤ 300 ∧ ∃ (j : Nat) (q : Pk) (k : Nat), ps[j]? = some q ∧ goodTo ps j ∧ PkBad ps j q k ∧ c = k + 1 ∧ p = j) ∨
 (OkPks ps ∧ c = 0 ∧ p = -1)
theorem pksFault_is (ps : List Pk) : ∃ c p, PksFault ps c p := by
 rcases pks_split ps with h | h | ⟨h, j, q, k, h1, h2, h3⟩
 · exact ⟨0, -1, .inr (.inr ⟨h, rfl, rfl⟩)⟩
 · exact ⟨2, -1, .inl ⟨h, rfl, rfl⟩⟩
 · exact ⟨k + 1, j, .inr (.inl ⟨h, j, q, k, h1, h2, h3, rfl, rfl⟩)⟩
theorem PksFault.num {ps : List Pk} {c p : Int} (h : PksFault ps c p) : c = 0 ∧ p = -1 ∧ OkPks ps ∨ 0 < c := by
 rcases h with ⟨_, h, _⟩ | ⟨_, j, q, k, _, _, _, h, _⟩ | ⟨h, h1, h2⟩
 · exact .inr (by omega)
 · exact .inr (by omega)
 · exact .inl ⟨h1, h2, h⟩
theorem pfault_is (a : Option Addr) (cap : Nat) (ps : List Pk) (w : World) (hl : LiesP w a ps) (hcap : ps.length ≤ cap) (hm : cap ≤ maxLen) (c p : Int) (h : PksFault ps c p) :
  Calls Tryz.prog 62 #[.slice a ps.length cap] w fun e w' => e = .returned (.agg #[.int .i64 c, .int .i64 p]) ∧ Below w.heap.size w w' := by
 rcases h with ⟨h, rfl, rfl⟩ | ⟨h, j, q, k, h1, h2, h3, rfl, rfl⟩ | ⟨h, rfl, rfl⟩
 · exact pfault_long a ps.length cap w (Nat.le_trans hcap hm) h
 ·
  have hjl : j ≤ ps.length := by
   rcases Nat.lt_or_ge j ps.length with h' | h'
   · omega
   · simp [List.getElem?_eq_none h'] at h1
  exact pfault_all a cap ps w hl h j hjl h2 _ _ (.inr ⟨q, k, h1, h3, rfl, rfl⟩)
 · exact pfault_all a cap ps w hl h.few ps.length (Nat.le_refl _) (fun i q _ hq => h.each i q hq) 0 (-1) (.inl ⟨rfl, rfl, rfl⟩)
theorem pcheck_is (a : Option Addr) (cap : Nat) (ps : List Pk) (w : World) (ad : Nat → Addr) (he : Errs9 w ad) (hl : LiesP w a ps) (hcap : ps.length ≤ cap) (hm : cap ≤ maxLen) (c p : Int) (h : PksFault ps c p) :
  Calls Tryz.prog 49 #[.slice a ps.length cap] w fun e w' => ∃ E, e = .returned E ∧ ErrIs w' E c p ∧ Below w.heap.size w w' := by
 rcases h with ⟨h, rfl, rfl⟩ | ⟨h, j, q, k, h1, h2, h3, rfl, rfl⟩ | ⟨h, rfl, rfl⟩
 ·
  refine (pcheck_long a ps.length cap w ad he.bo (Nat.le_trans hcap hm) h).mono ?_
  rintro e w' ⟨rfl, rfl⟩
  exact ⟨_, rfl, errIs_sent he 1 (by decide), Below.refl _ _⟩
 ·
  refine (pcheck_bad a cap ps w ad he.bo hl h j q h1 h2 k h3).mono ?_
  rintro e w' ⟨hb, B, rfl, -, -, c0, c1⟩
  have hk9 : k < 9 := by rcases h3 with ⟨-, rfl⟩ | ⟨-, -, rfl⟩ <;> omega
  exact ⟨_, rfl, ⟨codeIs_fault (he.below hb) k hk9 j B c0 c1, fun h => by omega, fun _ => ⟨_, _, rfl⟩⟩, hb⟩
 ·
  refine (pcheck_ok a cap ps w hl h).mono ?_
  rintro e w' ⟨rfl, hb⟩
  exact ⟨_, rfl, errIs_nil _, hb⟩
end Go.Proofs.YtibhkijaafdkoaaGreatDoor
