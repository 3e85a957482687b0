/- Packets in memory; the law's own copy of packets. -/
import Derived.Test.YtcldgpbimaoliaaDoorUtil
import Derived.Test.YtcldgpbimaoliaaDoorPlainPkts
namespace Go.Proofs.YtcldgpbimaoliaaDoor
open Go.RowKit

/-- So many packets lie in memory from an address on (no address is asked for where there is none). -/
def LiesP (w : World) (a : Option Addr) (ps : List Pk) : Prop :=
  ps = [] ∨ ∃ b off, a = some ⟨b, off, none⟩ ∧ b < w.heap.size ∧ ∀ (i : Nat) p, ps[i]? = some p → w.cell? ⟨b, off + i * 3, none⟩ = some (.int .i64 p.flow) ∧ w.cell? ⟨b, off + i * 3 + 1, none⟩ = some (.int .i64 p.size) ∧ w.cell? ⟨b, off + i * 3 + 2, none⟩ = some (.int .i64 p.tick)

theorem LiesP.place {w : World} {a : Option Addr} {ps : List Pk} (h : LiesP w a ps) (h1 : 1 ≤ ps.length) :
    ∃ b off, a = some ⟨b, off, none⟩ ∧ b < w.heap.size ∧ ∀ (i : Nat) p, ps[i]? = some p → w.cell? ⟨b, off + i * 3, none⟩ = some (.int .i64 p.flow) ∧ w.cell? ⟨b, off + i * 3 + 1, none⟩ = some (.int .i64 p.size) ∧ w.cell? ⟨b, off + i * 3 + 2, none⟩ = some (.int .i64 p.tick) := by
  rcases h with rfl | h
  · simp at h1
  · exact h
theorem LiesP.but {S : Nat → Prop} {w w' : World} {a : Option Addr} {ps : List Pk} (h : LiesP w a ps) (hb : But S w w') (hs : ∀ ad, a = some ad → ¬ S ad.block) : LiesP w' a ps := by
  rcases h with rfl | ⟨b, off, rfl, hlt, hc⟩
  · exact .inl rfl
  · have hn : ¬ S b := hs _ rfl
    refine .inr ⟨b, off, rfl, Nat.lt_of_lt_of_le hlt hb.size, fun i p hi => ?_⟩
    have := hc i p hi
    exact ⟨by rw [hb.cell (p := ⟨b, off + i * 3, none⟩) hlt hn]; exact this.1, by rw [hb.cell (p := ⟨b, off + i * 3 + 1, none⟩) hlt hn]; exact this.2.1, by rw [hb.cell (p := ⟨b, off + i * 3 + 2, none⟩) hlt hn]; exact this.2.2⟩
theorem LiesP.below {w w' : World} {a : Option Addr} {ps : List Pk} (h : LiesP w a ps) (hb : Below w.heap.size w w') : LiesP w' a ps :=
  h.but (S := fun _ => False) (.ofBelow hb) (fun _ _ h => h)
theorem LiesP.drop {w : World} {b off : Nat} {ps : List Pk} (h : LiesP w (some ⟨b, off, none⟩) ps) (k : Nat) : LiesP w (some ⟨b, off + k * 3, none⟩) (ps.drop k) := by
  rcases h with rfl | ⟨b', off', e, hlt, hc⟩
  · exact .inl (by simp)
  · cases e
    refine .inr ⟨b, off + k * 3, rfl, hlt, fun i p hi => ?_⟩
    rw [List.getElem?_drop] at hi
    have := hc (k + i) p hi
    rw [show off + (k + i) * 3 = off + k * 3 + i * 3 by omega] at this
    exact this

/-- The cells of packets, one behind the other. -/
def cellsP (ps : List Pk) : List Value := ps.flatMap fun p => [.int .i64 p.flow, .int .i64 p.size, .int .i64 p.tick]
theorem cellsP_cons (p : Pk) (r : List Pk) : cellsP (p :: r) = .int .i64 p.flow :: .int .i64 p.size :: .int .i64 p.tick :: cellsP r := rfl
theorem cellsP_append (a b : List Pk) : cellsP (a ++ b) = cellsP a ++ cellsP b := by simp [cellsP]
theorem cellsP_length (ps : List Pk) : (cellsP ps).length = ps.length * 3 := by
  induction ps with
  | nil => rfl
  | cons p r ih => rw [cellsP_cons]; simp [ih]; omega
theorem cellsP_get (ps : List Pk) : ∀ (i : Nat) p, ps[i]? = some p → (cellsP ps)[i * 3]? = some (.int .i64 p.flow) ∧ (cellsP ps)[i * 3 + 1]? = some (.int .i64 p.size) ∧ (cellsP ps)[i * 3 + 2]? = some (.int .i64 p.tick) := by
  induction ps with
  | nil => intro i p h; simp at h
  | cons q r ih =>
    intro i p h
    rw [cellsP_cons]
    cases i with
    | zero => simp at h; subst h; exact ⟨rfl, rfl, rfl⟩
    | succ i =>
      have := ih i p (by simpa using h)
      rw [show (i + 1) * 3 = i * 3 + 1 + 1 + 1 by omega]
      exact ⟨by simpa using this.1, by simpa using this.2.1, by simpa using this.2.2⟩
theorem cellsP_at (ps : List Pk) : ∀ j u, (cellsP ps)[j]? = some u → ∃ (i : Nat) (p : Pk), ps[i]? = some p ∧ ((j = i * 3 ∧ u = .int .i64 p.flow) ∨ (j = i * 3 + 1 ∧ u = .int .i64 p.size) ∨ (j = i * 3 + 2 ∧ u = .int .i64 p.tick)) := by
  induction ps with
  | nil => intro j u h; simp [cellsP] at h
  | cons p r ih =>
    intro j u h
    rw [cellsP_cons] at h
    match j, h with
    | 0, h => exact ⟨0, p, rfl, .inl ⟨rfl, by simpa using h.symm⟩⟩
    | 1, h => exact ⟨0, p, rfl, .inr (.inl ⟨rfl, by simpa using h.symm⟩)⟩
    | 2, h => exact ⟨0, p, rfl, .inr (.inr ⟨rfl, by simpa using h.symm⟩)⟩
    | j + 3, h =>
      obtain ⟨i, q, hi, hj⟩ := ih j u (by simpa using h)
      refine ⟨i + 1, q, by simpa using hi, ?_⟩
      rcases hj with ⟨e, f⟩ | ⟨e, f⟩ | ⟨e, f⟩
      · exact .inl ⟨by omega, f⟩
      · exact .inr (.inl ⟨by omega, f⟩)
      · exact .inr (.inr ⟨by omega, f⟩)
theorem cellsP_one (ps : List Pk) : ∀ u ∈ cellsP ps, u.oneCell' = true := by
  intro u hu
  obtain ⟨j, hj⟩ := List.mem_iff_getElem?.1 hu
  obtain ⟨i, p, -, h⟩ := cellsP_at ps j u hj
  rcases h with ⟨-, rfl⟩ | ⟨-, rfl⟩ | ⟨-, rfl⟩ <;> rfl

/-- A slice of packets in memory that the call itself has made, from block B on. -/
def OwnP (w : World) (B : Nat) (v : Value) (ps : List Pk) : Prop := w.ownsRow B 76 3 v ps.length (cellsP ps)

theorem OwnP.open {w : World} {B : Nat} {v : Value} {ps : List Pk} (h : OwnP w B v ps) :
    ∃ a cap, v = .slice a ps.length cap ∧ ps.length ≤ cap ∧ cap ≤ maxLen ∧ LiesP w a ps ∧ (∀ ad, a = some ad → B ≤ ad.block) ∧ (a = none → ps = [] ∧ cap = 0) := by
  obtain ⟨hlen, ⟨rfl, h0⟩ | ⟨g, cap, cur, rfl, hB, hg, hn, hm, hc, ht⟩⟩ := h
  · exact ⟨none, 0, by rw [h0], by omega, by simp [maxLen], .inl (List.length_eq_zero_iff.1 h0), (fun ad e => by cases e), fun _ => ⟨List.length_eq_zero_iff.1 h0, rfl⟩⟩
  · refine ⟨_, cap, rfl, hn, hm, .inr ⟨g, 0, rfl, ?_, fun i p hi => ?_⟩, (fun ad e => by cases e; exact hB), fun e => by cases e⟩
    · rcases Nat.lt_or_ge g w.heap.size with h | h
      · exact h
      · simp [Array.getElem?_eq_none h] at hg
    · have hh : w.ownsRow B 76 3 (.slice (some ⟨g, 0, none⟩) ps.length cap) ps.length (cellsP ps) := ⟨hlen, .inr ⟨g, cap, cur, rfl, hB, hg, hn, hm, hc, ht⟩⟩
      have hil : i < ps.length := by
        rcases Nat.lt_or_ge i ps.length with h | h
        · exact h
        · simp [List.getElem?_eq_none h] at hi
      have := cellsP_get ps i p hi
      rw [hh.cellAt _ (by omega), hh.cellAt _ (by omega), hh.cellAt _ (by omega), Nat.zero_add]
      exact this
theorem liesP_news {w : World} {ad : Addr} {ps : List Pk} (h : LiesP w (some ad) ps) : ∀ j u, (cellsP ps)[j]? = some u → w.cell? (ad.add j) = some u := by
  intro j u hj
  obtain ⟨i, p, hi, hc⟩ := cellsP_at ps j u hj
  rcases h with rfl | ⟨b, off, e, -, h⟩
  · simp at hi
  · cases e
    have := h i p hi
    rw [Addr.add_lit]
    rcases hc with ⟨rfl, rfl⟩ | ⟨rfl, rfl⟩ | ⟨rfl, rfl⟩
    · exact this.1
    · exact this.2.1
    · exact this.2.2

theorem Tryd.infoPkt : (Tryd.prog.info? 76).map (fun i => (i.zero, i.size, i.bytes)) = some (some (.agg #[.int .i64 0, .int .i64 0, .int .i64 0]), 3, 24) := by kernel_rfl

set_option maxHeartbeats 400000 in
theorem ownPackets_any (a : Option Addr) (cap : Nat) (ps : List Pk) (w : World) (hl : LiesP w a ps) (hn : ps.length ≤ 1000) (ha : a = none → ps = [] ∧ cap = 0) :
    Calls Tryd.prog 40 #[.slice a ps.length cap] w fun e w' => ∃ v, e = .returned v ∧ OwnP w' w.heap.size v ps ∧ Below w.heap.size w w' := by
  obtain ⟨i0, hi, hz0, hz1, hz2⟩ := info_parts Tryd.infoPkt
  cases a with
  | none =>
    obtain ⟨rfl, rfl⟩ := ha rfl
    show Calls Tryd.prog 40 #[.slice none 0 0] w _
    go_enter Tryd.func40, Tryd.ntmps40
    go_wp2
    go_ret
    exact ⟨_, rfl, World.ownsRow_nil _ _ _ _, Below.refl _ _⟩
  | some ad =>
    have H1 : Hid (∀ j u, (cellsP ps)[j]? = some u → w.cell? (ad.add j) = some u) := liesP_news hl
    have H2 : Hid ((cellsP ps).length = ps.length * 3) := cellsP_length ps
    have H3 : Hid (∀ u ∈ cellsP ps, u.oneCell' = true) := cellsP_one ps
    clear hl ha
    go_enter Tryd.func40, Tryd.ntmps40
    go_wp2_with (at_builtin; refine wpList_append_own _ rfl _ _ 62 rfl w.heap.size 76 i0 (.agg #[.int .i64 0, .int .i64 0, .int .i64 0]) 3 24 Tryd.underlying62 hi hz0 hz1 hz2 rfl (by decide) (.slice none 0 0) 0 [] rfl (World.ownsRow_nil _ _ _ _) ad ps.length cap (cellsP ps) rfl H2.out H1.out H3.out (by unfold maxLen; omega) (by omega) (Nat.le_refl _) ?_; intro v' w3 hown' hgrow3 hnil3)
    go_ret
    refine ⟨_, rfl, by simpa [OwnP] using hown', ?_⟩
    exact (Below.refl _ _).grown hgrow3 (Nat.le_refl _) (fun k hk => by cases hk)
/-- The copy of packets, made in a later world than the one of which their place is known. -/
theorem ownPackets_from (a : Option Addr) (cap : Nat) (ps : List Pk) (w0 w : World) (hB : Below w0.heap.size w0 w) (hl : LiesP w0 a ps) (hn : ps.length ≤ 1000) (ha : a = none → ps = [] ∧ cap = 0) :
    Calls Tryd.prog 40 #[.slice a ps.length cap] w fun e w' => ∃ a' cap', e = .returned (.slice a' ps.length cap') ∧ LiesP w' a' ps ∧ ps.length ≤ cap' ∧ cap' ≤ maxLen ∧ Below w.heap.size w w' ∧ Below w0.heap.size w0 w' := by
  refine (ownPackets_any a cap ps w (hl.below hB) hn ha).mono ?_
  rintro e w' ⟨v, rfl, ho, hb⟩
  obtain ⟨a', cap', rfl, h1, h2, h3, -, -⟩ := ho.open
  exact ⟨a', cap', rfl, h3, h1, h2, hb, hB.trans (hb.mono hB.size)⟩
end Go.Proofs.YtcldgpbimaoliaaDoor
