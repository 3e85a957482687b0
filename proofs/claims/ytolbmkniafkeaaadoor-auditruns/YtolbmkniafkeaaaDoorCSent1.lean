/- What was sent, in memory; the law's own copy of it. -/
import Derived.Test.YtolbmkniafkeaaaDoorCAllPkts
import Derived.Test.YtolbmkniafkeaaaDoorCAllPlain
namespace Go.Proofs.YtolbmkniafkeaaaDoor
open Go.RowKit
/-- So many that were sent lie in memory from an address on (no address is asked for where there is none). -/
def LiesS (w : World) (a : Option Addr) (ps : List Sn) : Prop :=
  ps = [] ∨ ∃ b off, a = some ⟨b, off, none⟩ ∧ b < w.heap.size ∧ ∀ (i : Nat) p, ps[i]? = some p → w.cell? ⟨b, off + i * 3, none⟩ = some (.int .i64 p.num) ∧ w.cell? ⟨b, off + i * 3 + 1, none⟩ = some (.int .i64 p.beg) ∧ w.cell? ⟨b, off + i * 3 + 2, none⟩ = some (.int .i64 p.fin)
theorem LiesS.place {w : World} {a : Option Addr} {ps : List Sn} (h : LiesS w a ps) (h1 : 1 ≤ ps.length) :
    ∃ b off, a = some ⟨b, off, none⟩ ∧ b < w.heap.size ∧ ∀ (i : Nat) p, ps[i]? = some p → w.cell? ⟨b, off + i * 3, none⟩ = some (.int .i64 p.num) ∧ w.cell? ⟨b, off + i * 3 + 1, none⟩ = some (.int .i64 p.beg) ∧ w.cell? ⟨b, off + i * 3 + 2, none⟩ = some (.int .i64 p.fin) := by
  rcases h with rfl | h
  · simp at h1
  · exact h
theorem LiesS.but {S : Nat → Prop} {w w' : World} {a : Option Addr} {ps : List Sn} (h : LiesS w a ps) (hb : But S w w') (hs : ∀ ad, a = some ad → ¬ S ad.block) : LiesS w' a ps := by
  rcases h with rfl | ⟨b, off, rfl, hlt, hc⟩
  · exact .inl rfl
  · have hn : ¬ S b := hs _ rfl
    refine .inr ⟨b, off, rfl, Nat.lt_of_lt_of_le hlt hb.size, fun i p hi => ?_⟩
    have := hc i p hi
    exact ⟨by rw [hb.cell (p := ⟨b, off + i * 3, none⟩) hlt hn]; exact this.1, by rw [hb.cell (p := ⟨b, off + i * 3 + 1, none⟩) hlt hn]; exact this.2.1, by rw [hb.cell (p := ⟨b, off + i * 3 + 2, none⟩) hlt hn]; exact this.2.2⟩
theorem LiesS.below {w w' : World} {a : Option Addr} {ps : List Sn} (h : LiesS w a ps) (hb : Below w.heap.size w w') : LiesS w' a ps :=
  h.but (S := fun _ => False) (.ofBelow hb) (fun _ _ h => h)
theorem LiesS.drop {w : World} {b off : Nat} {ps : List Sn} (h : LiesS w (some ⟨b, off, none⟩) ps) (k : Nat) : LiesS w (some ⟨b, off + k * 3, none⟩) (ps.drop k) := by
  rcases h with rfl | ⟨b', off', e, hlt, hc⟩
  · exact .inl (by simp)
  · cases e
    refine .inr ⟨b, off + k * 3, rfl, hlt, fun i p hi => ?_⟩
    rw [List.getElem?_drop] at hi
    have := hc (k + i) p hi
    rw [show off + (k + i) * 3 = off + k * 3 + i * 3 by omega] at this
    exact this
/-- The cells of what was sent, one behind the other. -/
def cellsS (ps : List Sn) : List Value := ps.flatMap fun p => [.int .i64 p.num, .int .i64 p.beg, .int .i64 p.fin]
theorem cellsS_cons (p : Sn) (r : List Sn) : cellsS (p :: r) = .int .i64 p.num :: .int .i64 p.beg :: .int .i64 p.fin :: cellsS r := rfl
theorem cellsS_append (a b : List Sn) : cellsS (a ++ b) = cellsS a ++ cellsS b := by simp [cellsS]
theorem cellsS_length (ps : List Sn) : (cellsS ps).length = ps.length * 3 := by
  induction ps with
  | nil => rfl
  | cons p r ih => rw [cellsS_cons]; simp [ih]; omega
theorem cellsS_get (ps : List Sn) : ∀ (i : Nat) p, ps[i]? = some p → (cellsS ps)[i * 3]? = some (.int .i64 p.num) ∧ (cellsS ps)[i * 3 + 1]? = some (.int .i64 p.beg) ∧ (cellsS ps)[i * 3 + 2]? = some (.int .i64 p.fin) := by
  induction ps with
  | nil => intro i p h; simp at h
  | cons q r ih =>
    intro i p h
    rw [cellsS_cons]
    cases i with
    | zero => simp at h; subst h; exact ⟨rfl, rfl, rfl⟩
    | succ i =>
      have := ih i p (by simpa using h)
      rw [show (i + 1) * 3 = i * 3 + 1 + 1 + 1 by omega]
      exact ⟨by simpa using this.1, by simpa using this.2.1, by simpa using this.2.2⟩
theorem cellsS_at (ps : List Sn) : ∀ j u, (cellsS ps)[j]? = some u → ∃ (i : Nat) (p : Sn), ps[i]? = some p ∧ ((j = i * 3 ∧ u = .int .i64 p.num) ∨ (j = i * 3 + 1 ∧ u = .int .i64 p.beg) ∨ (j = i * 3 + 2 ∧ u = .int .i64 p.fin)) := by
  induction ps with
  | nil => intro j u h; simp [cellsS] at h
  | cons p r ih =>
    intro j u h
    rw [cellsS_cons] at h
    match j, h with
    | 0, h => exact ⟨0, p, rfl, .inl ⟨rfl, by simpa using h.symm⟩⟩
    | 1, h => exact ⟨0, p, rfl, .inr (.inl ⟨rfl, by simpa using h.symm⟩)⟩
    | 2, h => exact ⟨0, p, rfl, .inr (.inr ⟨rfl, by simpa using h.symm⟩)⟩
    | j + 3, h =>
      obtain ⟨i, q, hi, hj⟩ := ih j u (by simpa using h)
      refine ⟨i + 1, q, by simpa using hi, ?_⟩
      rcases hj with ⟨e, f⟩ | ⟨e, f⟩ | ⟨e, f⟩
      · exact .inl ⟨by omega, f⟩
      · exact .inr (.inl ⟨by omega, f⟩)
      · exact .inr (.inr ⟨by omega, f⟩)
theorem cellsS_one (ps : List Sn) : ∀ u ∈ cellsS ps, u.oneCell' = true := by
  intro u hu
  obtain ⟨j, hj⟩ := List.mem_iff_getElem?.1 hu
  obtain ⟨i, p, -, h⟩ := cellsS_at ps j u hj
  rcases h with ⟨-, rfl⟩ | ⟨-, rfl⟩ | ⟨-, rfl⟩ <;> rfl
/-- A slice of what was sent, in memory that the call itself has made, from block B on. -/
def OwnS (w : World) (B : Nat) (v : Value) (ps : List Sn) : Prop := w.ownsRow B 44 3 v ps.length (cellsS ps)
theorem OwnS.open {w : World} {B : Nat} {v : Value} {ps : List Sn} (h : OwnS w B v ps) :
    ∃ a cap, v = .slice a ps.length cap ∧ ps.length ≤ cap ∧ cap ≤ maxLen ∧ LiesS w a ps ∧ (∀ ad, a = some ad → B ≤ ad.block) ∧ (a = none → ps = [] ∧ cap = 0) := by
  obtain ⟨hlen, ⟨rfl, h0⟩ | ⟨g, cap, cur, rfl, hB, hg, hn, hm, hc, ht⟩⟩ := h
  · exact ⟨none, 0, by rw [h0], by omega, by simp [maxLen], .inl (List.length_eq_zero_iff.1 h0), (fun ad e => by cases e), fun _ => ⟨List.length_eq_zero_iff.1 h0, rfl⟩⟩
  · refine ⟨_, cap, rfl, hn, hm, .inr ⟨g, 0, rfl, ?_, fun i p hi => ?_⟩, (fun ad e => by cases e; exact hB), fun e => by cases e⟩
    · rcases Nat.lt_or_ge g w.heap.size with h | h
      · exact h
      · simp [Array.getElem?_eq_none h] at hg
    · have hh : w.ownsRow B 44 3 (.slice (some ⟨g, 0, none⟩) ps.length cap) ps.length (cellsS ps) := ⟨hlen, .inr ⟨g, cap, cur, rfl, hB, hg, hn, hm, hc, ht⟩⟩
      have hil : i < ps.length := by
        rcases Nat.lt_or_ge i ps.length with h | h
        · exact h
        · simp [List.getElem?_eq_none h] at hi
      have := cellsS_get ps i p hi
      rw [hh.cellAt _ (by omega), hh.cellAt _ (by omega), hh.cellAt _ (by omega), Nat.zero_add]
      exact this
theorem liesS_news {w : World} {ad : Addr} {ps : List Sn} (h : LiesS w (some ad) ps) : ∀ j u, (cellsS ps)[j]? = some u → w.cell? (ad.add j) = some u := by
  intro j u hj
  obtain ⟨i, p, hi, hc⟩ := cellsS_at ps j u hj
  rcases h with rfl | ⟨b, off, e, -, h⟩
  · simp at hi
  · cases e
    have := h i p hi
    rw [Addr.add_lit]
    rcases hc with ⟨rfl, rfl⟩ | ⟨rfl, rfl⟩ | ⟨rfl, rfl⟩
    · exact this.1
    · exact this.2.1
    · exact this.2.2
theorem Tryd.infoSent : (Tryd.prog.info? 44).map (fun i => (i.zero, i.size, i.bytes)) = some (some (.agg #[.int .i64 0, .int .i64 0, .int .i64 0]), 3, 24) := by kernel_rfl
set_option maxHeartbeats 400000 in
theorem ownSent_any (a : Option Addr) (cap : Nat) (ps : List Sn) (w : World) (hl : LiesS w a ps) (hn : ps.length ≤ 1000) (ha : a = none → ps = [] ∧ cap = 0) :
    Calls Tryd.prog 11 #[.slice a ps.length cap] w fun e w' => ∃ v, e = .returned v ∧ OwnS w' w.heap.size v ps ∧ Below w.heap.size w w' := by
  obtain ⟨i0, hi, hz0, hz1, hz2⟩ := info_parts Tryd.infoSent
  cases a with
  | none =>
    obtain ⟨rfl, rfl⟩ := ha rfl
    show Calls Tryd.prog 11 #[.slice none 0 0] w _
    go_enter Tryd.func11, Tryd.ntmps11
    go_wp2
    go_ret
    exact ⟨_, rfl, World.ownsRow_nil _ _ _ _, Below.refl _ _⟩
  | some ad =>
    have H1 : Hid (∀ j u, (cellsS ps)[j]? = some u → w.cell? (ad.add j) = some u) := liesS_news hl
    have H2 : Hid ((cellsS ps).length = ps.length * 3) := cellsS_length ps
    have H3 : Hid (∀ u ∈ cellsS ps, u.oneCell' = true) := cellsS_one ps
    clear hl ha
    go_enter Tryd.func11, Tryd.ntmps11
    go_wp2_with (at_builtin; refine wpList_append_own _ rfl _ _ 23 rfl w.heap.size 44 i0 (.agg #[.int .i64 0, .int .i64 0, .int .i64 0]) 3 24 Tryd.underlying23 hi hz0 hz1 hz2 rfl (by decide) (.slice none 0 0) 0 [] rfl (World.ownsRow_nil _ _ _ _) ad ps.length cap (cellsS ps) rfl H2.out H1.out H3.out (by unfold maxLen; omega) (by omega) (Nat.le_refl _) ?_; intro v' w3 hown' hgrow3 hnil3)
    go_ret
    refine ⟨_, rfl, by simpa [OwnS] using hown', ?_⟩
    exact (Below.refl _ _).grown hgrow3 (Nat.le_refl _) (fun k hk => by cases hk)

/-- The copy of what was sent, made in a later world than the one of which its place is known. -/
theorem ownSent_from (a : Option Addr) (cap : Nat) (l : List Sn) (w0 w : World) (hB : Below w0.heap.size w0 w) (hl : LiesS w0 a l) (hn : l.length ≤ 1000) (ha : a = none → l = [] ∧ cap = 0) :
    Calls Tryd.prog 11 #[.slice a l.length cap] w fun e w' => ∃ a' cap', e = .returned (.slice a' l.length cap') ∧ LiesS w' a' l ∧ Below w.heap.size w w' ∧ Below w0.heap.size w0 w' := by
  refine (ownSent_any a cap l w (hl.below hB) hn ha).mono ?_
  rintro e w' ⟨v, rfl, ho, hb⟩
  obtain ⟨a', cap', rfl, h1, h2, h3, -, -⟩ := ho.open
  exact ⟨a', cap', rfl, h3, hb, hB.trans (hb.mono hB.size)⟩
end Go.Proofs.YtolbmkniafkeaaaDoor
