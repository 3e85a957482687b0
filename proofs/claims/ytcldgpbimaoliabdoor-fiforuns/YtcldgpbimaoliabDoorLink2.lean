/- What a link holds in memory while it sends. -/
import Derived.Test.YtcldgpbimaoliabDoorLink1
import Derived.Test.YtcldgpbimaoliabDoorSent1
import Derived.Test.YtcldgpbimaoliabDoorOwnRow
import Derived.Deep.AppendLies
namespace Go.Proofs.YtcldgpbimaoliabDoor
open Go.RowKit

/-- Packets that lie below B are as they were. -/
theorem LiesP.bel {w w' : World} {B : Nat} {a : Option Addr} {ps : List Pk} (h : LiesP w a ps) (ha : ∀ ad, a = some ad → 0 < ps.length → ad.block < B) (hb : Below B w w') : LiesP w' a ps := by
  rcases h with rfl | ⟨b, off, rfl, hlt, hc⟩
  · exact .inl rfl
  · by_cases h0 : 0 < ps.length
    · have hB : b < B := ha ⟨b, off, none⟩ rfl h0
      refine .inr ⟨b, off, rfl, Nat.lt_of_lt_of_le hlt hb.size, fun i p hi => ?_⟩
      have := hc i p hi
      exact ⟨by rw [hb.cell (p := ⟨b, off + i * 3, none⟩) hB]; exact this.1, by rw [hb.cell (p := ⟨b, off + i * 3 + 1, none⟩) hB]; exact this.2.1, by rw [hb.cell (p := ⟨b, off + i * 3 + 2, none⟩) hB]; exact this.2.2⟩
    · exact .inl (List.length_eq_zero_iff.1 (by omega))

/-- A queue in memory: how it is held, and which blocks are its own. -/
structure QueMem {σ : Type} (Held : World → (Nat → Prop) → σ → Prop) (B : Nat) : Prop where
  foot : ∀ w D q, Held w D q → ∀ k, D k → B ≤ k ∧ k < w.heap.size
  but : ∀ (S : Nat → Prop) w w' D q, Held w D q → But S w w' → (∀ k, D k → ¬ S k) → (∀ k, S k → B ≤ k) → Held w' D q
/-- What a call of a queue leaves. -/
def QueLeft {σ : Type} (Held : World → (Nat → Prop) → σ → Prop) (w w' : World) (D : Nat → Prop) (q : σ) : Prop := ∃ D', Held w' D' q ∧ But D w w' ∧ ∀ k, D' k → D k ∨ w.heap.size ≤ k

/-- While a link sends: w is the world at its start. -/
structure SendAt {σ : Type} (Q : Que σ) (Held : World → (Nat → Prop) → σ → Prop) (per : Int) (ps : List Pk) (q0 : σ) (B : Nat) (w wr : World) (v : Value) (s : St σ) (D : Nat → Prop) : Prop where
  reach : Reaches Q per ps q0 s
  own : OwnS wr w.heap.size v s.out
  held : Held wr D s.q
  apart : ∀ g, v.ownBlock = some g → ¬ D g
  below : Below B w wr

section
variable {σ : Type} {Q : Que σ} {Held : World → (Nat → Prop) → σ → Prop} {per : Int} {ps : List Pk} {q0 : σ} {B : Nat} {w wr wr' : World} {v : Value} {s s' : St σ} {D : Nat → Prop}
/-- Others have laid blocks of their own. -/
theorem SendAt.later (hm : QueMem Held B) (h : SendAt Q Held per ps q0 B w wr v s D) (hB : B ≤ w.heap.size) (hb : Below wr.heap.size wr wr') : SendAt Q Held per ps q0 B w wr' v s D :=
  ⟨h.reach, ownsRow_of_block h.own (fun g _ hg => hb.block g hg), hm.but (fun _ => False) _ _ _ _ h.held (.ofBelow hb) (fun _ _ h => h) (fun _ h => h.elim), h.apart, h.below.trans (hb.mono (Nat.le_trans hB h.below.size))⟩
/-- The queue was called. -/
theorem SendAt.called (hm : QueMem Held B) (h : SendAt Q Held per ps q0 B w wr v s D) (hB : B ≤ w.heap.size) (hq : QueLeft Held wr wr' D s'.q) (hr : Reaches Q per ps q0 s') (ho : s'.out = s.out) : ∃ D', SendAt Q Held per ps q0 B w wr' v s' D' := by
  obtain ⟨D', h1, h2, h3⟩ := hq
  refine ⟨D', hr, by rw [ho]; exact ownsRow_of_block h.own (fun g hv hg => h2.block g hg (h.apart g hv)), h1, fun g hg hD => ?_, h.below.trans (h2.below (Nat.le_trans hB h.below.size) (fun k hk => (hm.foot _ _ _ h.held k hk).1))⟩
  rcases h3 g hD with h' | h'
  · exact h.apart g hg h'
  · have := (ownsRow_lt h.own hg).2
    omega
/-- The queue was called, for whatever is left in it. -/
theorem SendAt.parts (hm : QueMem Held B) (h : SendAt Q Held per ps q0 B w wr v s D) (hB : B ≤ w.heap.size) {q : σ} (hq : QueLeft Held wr wr' D q) :
    ∃ D', OwnS wr' w.heap.size v s.out ∧ Held wr' D' q ∧ (∀ g, v.ownBlock = some g → ¬ D' g) ∧ Below B w wr' := by
  obtain ⟨D', h1, h2, h3⟩ := hq
  refine ⟨D', ownsRow_of_block h.own (fun g hv hg => h2.block g hg (h.apart g hv)), h1, fun g hg hD => ?_, h.below.trans (h2.below (Nat.le_trans hB h.below.size) (fun k hk => (hm.foot _ _ _ h.held k hk).1))⟩
  rcases h3 g hD with h' | h'
  · exact h.apart g hg h'
  · have := (ownsRow_lt h.own hg).2
    omega
/-- What is at hand where one more is put behind what was sent. -/
structure SendMid (Held : World → (Nat → Prop) → σ → Prop) (B : Nat) (w wr : World) (v : Value) (out : List Sn) (q : σ) (D : Nat → Prop) : Prop where
  own : OwnS wr w.heap.size v out
  held : Held wr D q
  apart : ∀ g, v.ownBlock = some g → ¬ D g
  below : Below B w wr
theorem SendMid.later {out : List Sn} {q : σ} (hm : QueMem Held B) (h : SendMid Held B w wr v out q D) (hB : B ≤ w.heap.size) (hb : Below wr.heap.size wr wr') : SendMid Held B w wr' v out q D :=
  ⟨ownsRow_of_block h.own (fun g _ hg => hb.block g hg), hm.but (fun _ => False) _ _ _ _ h.held (.ofBelow hb) (fun _ _ h => h) (fun _ h => h.elim), h.apart, h.below.trans (hb.mono (Nat.le_trans hB h.below.size))⟩
/-- One more was put behind what was sent. -/
theorem SendAt.grown (hm : QueMem Held B) (hB : B ≤ w.heap.size) {x : Sn} {q : σ} {g cap : Nat} {w1 w2 : World} {out : List Sn} (hmid : SendMid Held B w w1 v out q D)
    (h1 : w2.ownsRow w.heap.size 43 3 (.slice (some ⟨g, 0, none⟩) (out.length + 1) cap) (out.length + 1) (cellsS out ++ cellsS [x])) (h2 : w1.grownBy w2 v.ownBlock) (h3 : v.ownBlock = some g ∨ g = w1.heap.size) (s' : St σ) (hr : Reaches Q per ps q0 s') (ho : s'.out = out ++ [x]) (hq : s'.q = q) :
    SendAt Q Held per ps q0 B w w2 (.slice (some ⟨g, 0, none⟩) (out.length + 1) cap) s' D := by
  obtain ⟨hown, hheld, hap, hbel⟩ := hmid
  have hb : But (fun k => v.ownBlock = some k) w1 w2 := ⟨h2.os, h2.tape, h2.output, h2.size, fun k hk hn => h2.block k hk (fun e => hn e.symm)⟩
  refine ⟨hr, ?_, by rw [hq]; exact hm.but _ _ _ _ _ hheld hb (fun k hk hv => hap k hv hk) (fun k hk => Nat.le_trans hB (ownsRow_lt hown hk).1), fun g' hg' hD => ?_, hbel.trans (hb.below (Nat.le_trans hB hbel.size) fun k hk => Nat.le_trans hB (ownsRow_lt hown hk).1)⟩
  · rw [ho]
    unfold OwnS
    rw [List.length_append, cellsS_append]
    exact h1
  · have e : g = g' := Option.some.inj hg'
    subst e
    rcases h3 with h3 | h3
    · exact hap _ h3 hD
    · have := (hm.foot _ _ _ hheld _ hD).2
      omega
end

/-- What is left to do: each one that is not sent counts two; one that has come since, one less. -/
def flagOf {σ : Type} (ps : List Pk) (s : St σ) : Nat := match ps[s.next]? with | some p => (if p.tick ≤ s.now then 0 else 1) | none => 1
def leftOf {σ : Type} (ps : List Pk) (s : St σ) : Nat := 2 * (ps.length - s.out.length) + flagOf ps s
theorem flagOf_le {σ : Type} (ps : List Pk) (s : St σ) : flagOf ps s ≤ 1 := by
  unfold flagOf
  split
  · split <;> omega
  · omega
theorem left_send {σ : Type} {ps : List Pk} {s s' : St σ} (h1 : s'.out.length = s.out.length + 1) (h2 : s.out.length < ps.length) : leftOf ps s' < leftOf ps s := by
  have := flagOf_le ps s'
  unfold leftOf
  omega
theorem left_idle {σ : Type} {ps : List Pk} {s s' : St σ} (h1 : s'.out.length = s.out.length) (h2 : s'.next = s.next) (h3 : s.next < ps.length) (h4 : s.now < tickOf ps s.next) (h5 : tickOf ps s.next ≤ s'.now) : leftOf ps s' < leftOf ps s := by
  have e : ps[s.next]? = some ps[s.next] := List.getElem?_eq_getElem h3
  have f0 : flagOf ps s' = 0 := by
    unfold flagOf
    rw [h2, e]
    rw [tickOf_get e] at h5
    simp only
    rw [if_pos h5]
  have f1 : flagOf ps s = 1 := by
    unfold flagOf
    rw [e]
    rw [tickOf_get e] at h4
    simp only
    rw [if_neg (by omega)]
  unfold leftOf
  omega
end Go.Proofs.YtcldgpbimaoliabDoor
