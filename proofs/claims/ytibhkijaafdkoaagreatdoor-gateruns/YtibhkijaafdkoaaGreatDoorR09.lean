/- Own facts, put together: no statement of its own. -/
import Derived.Test.YtibhkijaafdkoaaGreatDoorR07
import Derived.Test.YtibhkijaafdkoaaGreatDoorR03
import Derived.Deep.AppendLies
import Derived.Test.YtibhkijaafdkoaaGreatDoorR08
import Derived.Test.YtibhkijaafdkoaaGreatDoorR06
import Derived.Deep.LoopGhost
import Derived.Shelf.Slices.Delete
namespace Go.Proofs.YtibhkijaafdkoaaGreatDoor
open Go.RowKit
def LiesS (w : World) (a : Option Addr) (ps : List Sn) : Prop :=
 ps = [] ∨ ∃ b off, a = some ⟨b, off, none⟩ ∧ b < w.heap.size ∧ ∀ (i : Nat) p, ps[i]? = some p → w.cell? ⟨b, off + i * 3, none⟩ = some (.int .i64 p.num) ∧ w.cell? ⟨b, off + i * 3 + 1, none⟩ = some (.int .i64 p.beg) ∧ w.cell? ⟨b, off + i * 3 + 2, none⟩ = some (.int .i64 p.fin)
theorem LiesS.place {w : World} {a : Option Addr} {ps : List Sn} (h : LiesS w a ps) (h1 : 1 ≤ ps.length) :
  ∃ b off, a = some ⟨b, off, none⟩ ∧ b < w.heap.size ∧ ∀ (i : Nat) p, ps[i]? = some p → w.cell? ⟨b, off + i * 3, none⟩ = some (.int .i64 p.num) ∧ w.cell? ⟨b, off + i * 3 + 1, none⟩ = some (.int .i64 p.beg) ∧ w.cell? ⟨b, off + i * 3 + 2, none⟩ = some (.int .i64 p.fin) := by
 rcases h with rfl | h
 · simp at h1
 · exact h
theorem LiesS.but {S : Nat → Prop} {w w' : World} {a : Option Addr} {ps : List Sn} (h : LiesS w a ps) (hb : But S w w') (hs : ∀ ad, a = some ad → ¬ S ad.block) : LiesS w' a ps := by
 rcases h with rfl | ⟨b, off, rfl, hlt, hc⟩
 · exact .inl rfl
 ·
  have hn : ¬ S b := hs _ rfl
  refine .inr ⟨b, off, rfl, Nat.lt_of_lt_of_le hlt hb.size, fun i p hi => ?_⟩
  have := hc i p hi
  exact ⟨by rw [hb.cell (p := ⟨b, off + i * 3, none⟩) hlt hn]; exact this.1, by rw [hb.cell (p := ⟨b, off + i * 3 + 1, none⟩) hlt hn]; exact this.2.1, by rw [hb.cell (p := ⟨b, off + i * 3 + 2, none⟩) hlt hn]; exact this.2.2⟩
theorem LiesS.below {w w' : World} {a : Option Addr} {ps : List Sn} (h : LiesS w a ps) (hb : Below w.heap.size w w') : LiesS w' a ps :=
 h.but (S := fun _ => False) (.ofBelow hb) (fun _ _ h => h)
def cellsS (ps : List Sn) : List Value := ps.flatMap fun p => [.int .i64 p.num, .int .i64 p.beg, .int .i64 p.fin]
theorem cellsS_cons (p : Sn) (r : List Sn) : cellsS (p :: r) = .int .i64 p.num :: .int .i64 p.beg :: .int .i64 p.fin :: cellsS r := rfl
theorem cellsS_append (a b : List Sn) : cellsS (a ++ b) = cellsS a ++ cellsS b := by simp [cellsS]
theorem cellsS_get (ps : List Sn) : ∀ (i : Nat) p, ps[i]? = some p → (cellsS ps)[i * 3]? = some (.int .i64 p.num) ∧ (cellsS ps)[i * 3 + 1]? = some (.int .i64 p.beg) ∧ (cellsS ps)[i * 3 + 2]? = some (.int .i64 p.fin) := by
 induction ps with
 | nil => intro i p h; simp at h
 | cons q r ih =>
  intro i p h
  rw [cellsS_cons]
  cases i with
  | zero => simp at h; subst h; exact ⟨rfl, rfl, rfl⟩
  | succ i =>
   have := ih i p (by simpa using h)
   rw [show (i + 1) * 3 = i * 3 + 1 + 1 + 1 by omega]
   exact ⟨by simpa using this.1, by simpa using this.2.1, by simpa using this.2.2⟩
theorem cellsS_at (ps : List Sn) : ∀ j u, (cellsS ps)[j]? = some u → ∃ (i : Nat) (p : Sn), ps[i]? = some p ∧ ((j = i * 3 ∧ u = .int .i64 p.num) ∨ (j = i * 3 + 1 ∧ u = .int .i64 p.beg) ∨ (j = i * 3 + 2 ∧ u = .int .i64 p.fin)) := by
 induction ps with
 | nil => intro j u h; simp [cellsS] at h
 | cons p r ih =>
  intro j u h
  rw [cellsS_cons] at h
  match j, h with
  | 0, h => exact ⟨0, p, rfl, .inl ⟨rfl, by simpa using h.symm⟩⟩
  | 1, h => exact ⟨0, p, rfl, .inr (.inl ⟨rfl, by simpa using h.symm⟩)⟩
  | 2, h => exact ⟨0, p, rfl, .inr (.inr ⟨rfl, by simpa using h.symm⟩)⟩
  | j + 3, h =>
   obtain ⟨i, q, hi, hj⟩ := ih j u (by simpa using h)
   refine ⟨i + 1, q, by simpa using hi, ?_⟩
   rcases hj with ⟨e, f⟩ | ⟨e, f⟩ | ⟨e, f⟩
   · exact .inl ⟨by omega, f⟩
   · exact .inr (.inl ⟨by omega, f⟩)
   · exact .inr (.inr ⟨by omega, f⟩)
theorem cellsS_one (ps : List Sn) : ∀ u ∈ cellsS ps, u.oneCell' = true := by
 intro u hu
 obtain ⟨j, hj⟩ := List.mem_iff_getElem?.1 hu
 obtain ⟨i, p, -, h⟩ := cellsS_at ps j u hj
 rcases h with ⟨-, rfl⟩ | ⟨-, rfl⟩ | ⟨-, rfl⟩ <;> rfl
def OwnS (w : World) (B : Nat) (v : Value) (ps : List Sn) : Prop := w.ownsRow B 78 3 v ps.length (cellsS ps)
theorem OwnS.open {w : World} {B : Nat} {v : Value} {ps : List Sn} (h : OwnS w B v ps) :
  ∃ a cap, v = .slice a ps.length cap ∧ ps.length ≤ cap ∧ cap ≤ maxLen ∧ LiesS w a ps ∧ (∀ ad, a = some ad → B ≤ ad.block) ∧ (a = none → ps = [] ∧ cap = 0) := by
 obtain ⟨hlen, ⟨rfl, h0⟩ | ⟨g, cap, cur, rfl, hB, hg, hn, hm, hc, ht⟩⟩ := h
 · exact ⟨none, 0, by rw [h0], by omega, by simp [maxLen], .inl (List.length_eq_zero_iff.1 h0), (fun ad e => by cases e), fun _ => ⟨List.length_eq_zero_iff.1 h0, rfl⟩⟩
 ·
  refine ⟨_, cap, rfl, hn, hm, .inr ⟨g, 0, rfl, ?_, fun i p hi => ?_⟩, (fun ad e => by cases e; exact hB), fun e => by cases e⟩
  ·
   rcases Nat.lt_or_ge g w.heap.size with h | h
   · exact h
   · simp [Array.getElem?_eq_none h] at hg
  ·
   have hh : w.ownsRow B 78 3 (.slice (some ⟨g, 0, none⟩) ps.length cap) ps.length (cellsS ps) := ⟨hlen, .inr ⟨g, cap, cur, rfl, hB, hg, hn, hm, hc, ht⟩⟩
   have hil : i < ps.length := by
    rcases Nat.lt_or_ge i ps.length with h | h
    · exact h
    · simp [List.getElem?_eq_none h] at hi
   have := cellsS_get ps i p hi
   rw [hh.cellAt _ (by omega), hh.cellAt _ (by omega), hh.cellAt _ (by omega), Nat.zero_add]
   exact this
theorem Tryz.infoSent : (Tryz.prog.info? 78).map (fun i => (i.zero, i.size, i.bytes)) = some (some (.agg #[.int .i64 0, .int .i64 0, .int .i64 0]), 3, 24) := by kernel_rfl
end Go.Proofs.YtibhkijaafdkoaaGreatDoor

namespace Go.Proofs.YtibhkijaafdkoaaGreatDoor
open Go.RowKit
theorem LiesP.bel {w w' : World} {B : Nat} {a : Option Addr} {ps : List Pk} (h : LiesP w a ps) (ha : ∀ ad, a = some ad → 0 < ps.length → ad.block < B) (hb : Below B w w') : LiesP w' a ps := by
 rcases h with rfl | ⟨b, off, rfl, hlt, hc⟩
 · exact .inl rfl
 ·
  by_cases h0 : 0 < ps.length
  ·
   have hB : b < B := ha ⟨b, off, none⟩ rfl h0
   refine .inr ⟨b, off, rfl, Nat.lt_of_lt_of_le hlt hb.size, fun i p hi => ?_⟩
   have := hc i p hi
   exact ⟨by rw [hb.cell (p := ⟨b, off + i * 3, none⟩) hB]; exact this.1, by rw [hb.cell (p := ⟨b, off + i * 3 + 1, none⟩) hB]; exact this.2.1, by rw [hb.cell (p := ⟨b, off + i * 3 + 2, none⟩) hB]; exact this.2.2⟩
  · exact .inl (List.length_eq_zero_iff.1 (by omega))
structure QueMem {σ : Type} (Held : World → (Nat → Prop) → σ → Prop) (B : Nat) : Prop where
 foot : ∀ w D q, Held w D q → ∀ k, D k → B ≤ k ∧ k < w.heap.size
 but : ∀ (S : Nat → Prop) w w' D q, Held w D q → But S w w' → (∀ k, D k → ¬ S k) → (∀ k, S k → B ≤ k) → Held w' D q
def QueLeft {σ : Type} (Held : World → (Nat → Prop) → σ → Prop) (w w' : World) (D : Nat → Prop) (q : σ) : Prop := ∃ D', Held w' D' q ∧ But D w w' ∧ ∀ k, D' k → D k ∨ w.heap.size ≤ k
structure SendAt {σ : Type} (Q : Que σ) (Held : World → (Nat → Prop) → σ → Prop) (per : Int) (ps : List Pk) (q0 : σ) (B : Nat) (w wr : World) (v : Value) (s : St σ) (D : Nat → Prop) : Prop where
 reach : Reaches Q per ps q0 s
 own : OwnS wr w.heap.size v s.out
 held : Held wr D s.q
 apart : ∀ g, v.ownBlock = some g → ¬ D g
 below : Below B w wr
section
variable {σ : Type} {Q : Que σ} {Held : World → (Nat → Prop) → σ → Prop} {per : Int} {ps : List Pk} {q0 : σ} {B : Nat} {w wr wr' : World} {v : Value} {s s' : St σ} {D : Nat → Prop}
theorem SendAt.called (hm : QueMem Held B) (h : SendAt Q Held per ps q0 B w wr v s D) (hB : B ≤ w.heap.size) (hq : QueLeft Held wr wr' D s'.q) (hr : Reaches Q per ps q0 s') (ho : s'.out = s.out) : ∃ D', SendAt Q Held per ps q0 B w wr' v s' D' := by
 obtain ⟨D', h1, h2, h3⟩ := hq
 refine ⟨D', hr, by rw [ho]; exact ownsRow_of_block h.own (fun g hv hg => h2.block g hg (h.apart g hv)), h1, fun g hg hD => ?_, h.below.trans (h2.below (Nat.le_trans hB h.below.size) (fun k hk => (hm.foot _ _ _ h.held k hk).1))⟩
 rcases h3 g hD with h' | h'
 · exact h.apart g hg h'
 ·
  have := (ownsRow_lt h.own hg).2
  omega
theorem SendAt.parts (hm : QueMem Held B) (h : SendAt Q Held per ps q0 B w wr v s D) (hB : B ≤ w.heap.size) {q : σ} (hq : QueLeft Held wr wr' D q) :
  ∃ D', OwnS wr' w.heap.size v s.out ∧ Held wr' D' q ∧ (∀ g, v.ownBlock = some g → ¬ D' g) ∧ Below B w wr' := by
 obtain ⟨D', h1, h2, h3⟩ := hq
 refine ⟨D', ownsRow_of_block h.own (fun g hv hg => h2.block g hg (h.apart g hv)), h1, fun g hg hD => ?_, h.below.trans (h2.below (Nat.le_trans hB h.below.size) (fun k hk => (hm.foot _ _ _ h.held k hk).1))⟩
 rcases h3 g hD with h' | h'
 · exact h.apart g hg h'
 ·
  have := (ownsRow_lt h.own hg).2
  omega
structure SendMid (Held : World → (Nat → Prop) → σ → Prop) (B : Nat) (w wr : World) (v : Value) (out : List Sn) (q : σ) (D : Nat → Prop) : Prop where
 own : OwnS wr w.heap.size v out
 held : Held wr D q
 apart : ∀ g, v.ownBlock = some g → ¬ D g
 below : Below B w wr
theorem SendMid.later {out : List Sn} {q : σ} (hm : QueMem Held B) (h : SendMid Held B w wr v out q D) (hB : B ≤ w.heap.size) (hb : Below wr.heap.size wr wr') : SendMid Held B w wr' v out q D :=
 ⟨ownsRow_of_block h.own (fun g _ hg => hb.block g hg), hm.but (fun _ => False) _ _ _ _ h.held (.ofBelow hb) (fun _ _ h => h) (fun _ h => h.elim), h.apart, h.below.trans (hb.mono (Nat.le_trans hB h.below.size))⟩
theorem SendAt.grown (hm : QueMem Held B) (hB : B ≤ w.heap.size) {x : Sn} {q : σ} {g cap : Nat} {w1 w2 : World} {out : List Sn} (hmid : SendMid Held B w w1 v out q D)
  (h1 : w2.ownsRow w.heap.size 78 3 (.slice (some ⟨g, 0, none⟩) (out.length + 1) cap) (out.length + 1) (cellsS out ++ cellsS [x])) (h2 : w1.grownBy w2 v.ownBlock) (h3 : v.ownBlock = some g ∨ g = w1.heap.size) (s' : St σ) (hr : Reaches Q per ps q0 s') (ho : s'.out = out ++ [x]) (hq : s'.q = q) :
  SendAt Q Held per ps q0 B w w2 (.slice (some ⟨g, 0, none⟩) (out.length + 1) cap) s' D := by
 obtain ⟨hown, hheld, hap, hbel⟩ := hmid
 have hb : But (fun k => v.ownBlock = some k) w1 w2 := ⟨h2.os, h2.tape, h2.output, h2.size, fun k hk hn => h2.block k hk (fun e => hn e.symm)⟩
 refine ⟨hr, ?_, by rw [hq]; exact hm.but _ _ _ _ _ hheld hb (fun k hk hv => hap k hv hk) (fun k hk => Nat.le_trans hB (ownsRow_lt hown hk).1), fun g' hg' hD => ?_, hbel.trans (hb.below (Nat.le_trans hB hbel.size) fun k hk => Nat.le_trans hB (ownsRow_lt hown hk).1)⟩
 ·
  rw [ho]
  unfold OwnS
  rw [List.length_append, cellsS_append]
  exact h1
 ·
  have e : g = g' := Option.some.inj hg'
  subst e
  rcases h3 with h3 | h3
  · exact hap _ h3 hD
  ·
   have := (hm.foot _ _ _ hheld _ hD).2
   omega
end
def flagOf {σ : Type} (ps : List Pk) (s : St σ) : Nat := match ps[s.next]? with | some p => (if p.tick ≤ s.now then 0 else 1) | none => 1
def leftOf {σ : Type} (ps : List Pk) (s : St σ) : Nat := 2 * (ps.length - s.out.length) + flagOf ps s
theorem flagOf_le {σ : Type} (ps : List Pk) (s : St σ) : flagOf ps s ≤ 1 := by
 unfold flagOf
 split
 · split <;> omega
 · omega
theorem left_send {σ : Type} {ps : List Pk} {s s' : St σ} (h1 : s'.out.length = s.out.length + 1) (h2 : s.out.length < ps.length) : leftOf ps s' < leftOf ps s := by
 have := flagOf_le ps s'
 unfold leftOf
 omega
theorem left_idle {σ : Type} {ps : List Pk} {s s' : St σ} (h1 : s'.out.length = s.out.length) (h2 : s'.next = s.next) (h3 : s.next < ps.length) (h4 : s.now < tickOf ps s.next) (h5 : tickOf ps s.next ≤ s'.now) : leftOf ps s' < leftOf ps s := by
 have e : ps[s.next]? = some ps[s.next] := List.getElem?_eq_getElem h3
 have f0 : flagOf ps s' = 0 := by
  unfold flagOf
  rw [h2, e]
  rw [tickOf_get e] at h5
  simp only
  rw [if_pos h5]
 have f1 : flagOf ps s = 1 := by
  unfold flagOf
  rw [e]
  rw [tickOf_get e] at h4
  simp only
  rw [if_neg (by omega)]
 unfold leftOf
 omega
end Go.Proofs.YtibhkijaafdkoaaGreatDoor

namespace Go.Proofs.YtibhkijaafdkoaaGreatDoor
open Go.RowKit
theorem Tryz.methodCome (x : Value) (w : World) : (Go.method 403 164 x "Come").run Tryz.prog w = .ok (218, x) w := by kernel_rfl
theorem Tryz.methodPick (x : Value) (w : World) : (Go.method 403 164 x "Pick").run Tryz.prog w = .ok (219, x) w := by kernel_rfl
theorem Tryz.methodRest (x : Value) (w : World) : (Go.method 403 164 x "Rest").run Tryz.prog w = .ok (220, x) w := by kernel_rfl
set_option maxRecDepth 100000 in
set_option maxHeartbeats 4000000 in
theorem send_held {σ : Type} (Q : Que σ) (Held : World → (Nat → Prop) → σ → Prop) (per : Int) (ps : List Pk) (q0 : σ) (B : Nat) (x1 x2 x3 : Value) (hm : QueMem Held B) (hlaw : QueLaw Q per ps q0) (ho : OkPks ps) (h1 : 1 ≤ per) (h2 : per ≤ 1000)
  (hCome : ∀ w D s p, Reaches Q per ps q0 s → ps[s.next]? = some p → Held w D s.q → Calls Tryz.prog 218 #[.agg #[x1, x2, x3], .int .i64 s.next] w fun e w' => e = .returned (.tuple #[]) ∧ QueLeft Held w w' D (Q.come s.q s.next))
  (hPick : ∀ w D s, Reaches Q per ps q0 s → 0 < Q.rest s.q → Held w D s.q → Calls Tryz.prog 219 #[.agg #[x1, x2, x3]] w fun e w' => e = .returned (.int .i64 (Q.pick s.q : Nat)) ∧ QueLeft Held w w' D (Q.left s.q))
  (hRest : ∀ w D s, Reaches Q per ps q0 s → Held w D s.q → Calls Tryz.prog 220 #[.agg #[x1, x2, x3]] w fun e w' => e = .returned (.int .i64 (Q.rest s.q : Nat)) ∧ QueLeft Held w w' D (Q.asked s.q))
  (a : Option Addr) (cap : Nat) (w : World) (hl : LiesP w a ps) (hB : B ≤ w.heap.size) (ha : ∀ ad, a = some ad → 0 < ps.length → ad.block < B) (D0 : Nat → Prop) (h0 : Held w D0 q0) :
  Calls Tryz.prog 59 #[.slice a ps.length cap, .int .i64 per, .iface 164 (.agg #[x1, x2, x3])] w fun e w' => ∃ s v, e = .returned v ∧ Reaches Q per ps q0 s ∧ ¬ s.next < ps.length ∧ Q.rest s.q = 0 ∧ OwnS w' w.heap.size v s.out ∧ Below B w w' ∧ ∃ D, Held w' D (Q.asked s.q) := by
 have HM : Hid (QueMem Held B ∧ B ≤ w.heap.size ∧ LiesP w a ps ∧ (∀ ad, a = some ad → 0 < ps.length → ad.block < B)) := ⟨hm, hB, hl, ha⟩
 have HL : Hid (QueLaw Q per ps q0 ∧ OkPks ps) := ⟨hlaw, ho⟩
 have HCome : Hid (∀ w D s p, Reaches Q per ps q0 s → ps[s.next]? = some p → Held w D s.q → Calls Tryz.prog 218 #[.agg #[x1, x2, x3], .int .i64 s.next] w fun e w' => e = .returned (.tuple #[]) ∧ QueLeft Held w w' D (Q.come s.q s.next)) := hCome
 have HPick : Hid (∀ w D s, Reaches Q per ps q0 s → 0 < Q.rest s.q → Held w D s.q → Calls Tryz.prog 219 #[.agg #[x1, x2, x3]] w fun e w' => e = .returned (.int .i64 (Q.pick s.q : Nat)) ∧ QueLeft Held w w' D (Q.left s.q)) := hPick
 have HRest : Hid (∀ w D s, Reaches Q per ps q0 s → Held w D s.q → Calls Tryz.prog 220 #[.agg #[x1, x2, x3]] w fun e w' => e = .returned (.int .i64 (Q.rest s.q : Nat)) ∧ QueLeft Held w w' D (Q.asked s.q)) := hRest
 have HS0 : Hid (SendAt Q Held per ps q0 B w w (.slice none 0 0) ⟨[], 0, 0, q0⟩ D0) := ⟨.start, World.ownsRow_nil _ _ _ _, h0, fun g hg => (by cases hg), Below.refl _ _⟩
 obtain ⟨i0, hi, hz0, hz1, hz2⟩ := info_parts Tryz.infoSent
 have hfew := ho.few
 have m1 := Tryz.methodCome
 have m2 := Tryz.methodPick
 have m3 := Tryz.methodRest
 clear hm hlaw ho hCome hPick hRest hl hB ha h0
 obtain ⟨n, hn⟩ : ∃ n, ps.length = n := ⟨_, rfl⟩
 have HN : Hid (ps.length = n) := hn
 rw [hn] at hfew ⊢
 clear hn
 go_enter Tryz.func59, Tryz.ntmps59
 go_wp2_with fail
 go_loopg [7, 8, 9] (leftOf ps (⟨[], 0, 0, q0⟩ : St σ)) (fun gk v t i wr => ∃ s D, gk = leftOf ps s ∧ t = .int .i64 s.now ∧ i = .int .i64 (s.next : Nat) ∧ SendAt Q Held per ps q0 B w wr v s D)
 case atStart => exact ⟨_, D0, rfl, rfl, rfl, HS0.out⟩
 case round =>
  obtain ⟨s, D, rfl, rfl, rfl, hat⟩ := hrel
  obtain ⟨W0, hW0⟩ : ∃ W, W = wr := ⟨_, rfl⟩
  subst hW0
  have HA0 : Hid (SendAt Q Held per ps q0 B w W0 u7 s D) := hat
  obtain ⟨nw, hnw⟩ : ∃ nw, s.now = nw := ⟨_, rfl⟩
  have HNw : Hid (s.now = nw) := hnw
  rw [hnw]
  clear hat hnw
  go_wp2_with fail
  go_loopg [9] (n - s.next) (fun gi i wr2 => ∃ s2 D2, gi = n - s2.next ∧ i = .int .i64 (s2.next : Nat) ∧ s2.out = s.out ∧ s2.now = s.now ∧ s.next ≤ s2.next ∧ SendAt Q Held per ps q0 B w wr2 u7 s2 D2)
  case atStart => exact ⟨s, D, rfl, rfl, rfl, rfl, Nat.le_refl _, HA0.out⟩
  case round =>
   obtain ⟨s2, D2, rfl, rfl, e1, e2, e3, hat⟩ := hrel
   have HA : Hid (SendAt Q Held per ps q0 B w wr u7 s2 D2) := hat
   have HEq : Hid (s2.out = s.out ∧ s2.now = s.now ∧ s.next ≤ s2.next) := ⟨e1, e2, e3⟩
   obtain ⟨nx, hnx⟩ : ∃ nx, s2.next = nx := ⟨_, rfl⟩
   have hnw : s2.now = nw := e2.trans HNw.out
   have HX : Hid (s2.next = nx ∧ s2.now = nw) := ⟨hnx, hnw⟩
   have hnow := hat.reach.now_in ⟨h1, h2⟩ HL.out.2
   have hcnt := hat.reach.count HL.out.1
   have hnl := hat.reach.next_le
   rw [HN.out, hnx] at hnl
   have hol : s2.out.length ≤ 300 := by omega
   rw [hnw] at hnow
   rw [hnx]
   clear hat e1 e2 e3 hnx hnw hcnt
   have HReach : Hid (Reaches Q per ps q0 s2) := HA.out.reach
   have HC1 : Hid (∀ p, ps[nx]? = some p → Calls Tryz.prog 218 #[.agg #[x1, x2, x3], .int .i64 nx] wr fun e w' => e = .returned (.tuple #[]) ∧ QueLeft Held wr w' D2 (Q.come s2.q nx)) := fun p hp => by
    have := HCome.out wr D2 s2 p HA.out.reach (by rw [HX.out.1]; exact hp) HA.out.held
    rwa [HX.out.1] at this
   obtain ⟨rs, hrs⟩ : ∃ rs, Q.rest s2.q = rs := ⟨_, rfl⟩
   have HRS : Hid (Q.rest s2.q = rs) := hrs
   have hcnt := HA.out.reach.count HL.out.1
   rw [hrs, HX.out.1] at hcnt
   have hrs3 : rs ≤ 300 := by omega
   have HR1 : Hid (Calls Tryz.prog 220 #[.agg #[x1, x2, x3]] wr fun e w' => e = .returned (.int .i64 (rs : Nat)) ∧ QueLeft Held wr w' D2 (Q.asked s2.q)) := by
    have := HRest.out wr D2 s2 HA.out.reach HA.out.held
    rwa [hrs] at this
   have HCnt : Hid (s2.out.length + rs = nx) := hcnt
   have HAsk : Hid (0 < rs → Q.asked s2.q = s2.q) := fun h => if_neg (by rw [hrs]; omega)
   clear hrs hcnt
   by_cases hgo : nx < n ∧ tickOf ps nx ≤ nw
   ·
    obtain ⟨hlt, htk⟩ := hgo
    obtain ⟨p, hp, -⟩ := get_some ps nx (by rw [HN.out]; exact hlt)
    obtain ⟨b, off, rfl, hbl, hc⟩ := HM.out.2.2.1.place (by rw [HN.out]; omega)
    have c1 : wr.cell? ⟨b, off + nx * 3 + 2, none⟩ = some (.int .i64 p.tick) := by rw [HA.out.below.cell (p := ⟨b, off + nx * 3 + 2, none⟩) (HM.out.2.2.2 ⟨b, off, none⟩ rfl (by rw [HN.out]; omega))]; exact (hc nx p hp).2.2
    have HP : Hid (ps[nx]? = some p) := hp
    rw [tickOf_get hp] at htk
    have HTk : Hid (p.tick ≤ nw) := htk
    clear hc hp
    go_wp2_with fail
    refine (HC1.out p HP.out).mono ?_
    rintro e w1 ⟨rfl, hq⟩
    have HQ : Hid (QueLeft Held wr w1 D2 (Q.come s2.q nx)) := hq
    clear hq
    go_wp2_with fail
    go_roundg (n - (nx + 1))
    case measure => have := HX.out.1; omega
    case rel =>
     have hr : Reaches Q per ps q0 ⟨s2.out, s2.now, s2.next + 1, Q.come s2.q s2.next⟩ := .come s2 p HReach.out (by rw [HX.out.1]; exact HP.out) (by rw [HX.out.2]; exact HTk.out)
     rw [HX.out.1] at hr
     obtain ⟨D3, h3⟩ := HA.out.called (s' := ⟨s2.out, s2.now, nx + 1, Q.come s2.q nx⟩) HM.out.1 HM.out.2.1 HQ.out hr rfl
     have e3 := HEq.out.2.2
     rw [HX.out.1] at e3
     exact ⟨⟨s2.out, s2.now, nx + 1, Q.come s2.q nx⟩, D3, rfl, by go_num, HEq.out.1, HEq.out.2.1, Nat.le_succ_of_le e3, h3⟩
   ·
    have HStop : Hid (∀ r, ps[s2.next]? = some r → s2.now < r.tick) := fun r hr => by
     rw [HX.out.1] at hr
     rw [HX.out.2]
     have h1 := lt_of_get hr
     rw [HN.out] at h1
     have h2 := tickOf_get hr
     rcases Int.lt_or_le nw r.tick with h3 | h3
     · exact h3
     · exact absurd ⟨h1, by rw [h2]; exact h3⟩ hgo
    have HSend : Hid (0 < rs → ∀ W1 D3 , SendAt Q Held per ps q0 B w W1 u7 s2 D3 → ∃ k p, k < n ∧ ps[k]? = some p ∧ okPk p = true ∧ (Calls Tryz.prog 219 #[.agg #[x1, x2, x3]] W1 fun e w' => e = .returned (.int .i64 (k : Nat)) ∧ ∃ D4, SendMid Held B w w' u7 s2.out (Q.left s2.q) D4) ∧
      (∀ W2, LiesP W2 a ps → Calls Tryz.prog 99 #[.slice a n cap, .int .i64 per, .int .i64 k, .int .i64 nw] W2 fun e w' => e = .returned (.agg #[.int .i64 k, .int .i64 nw, .int .i64 (nw + per * p.size)]) ∧ Below W2.heap.size W2 w') ∧
      Reaches Q per ps q0 ⟨s2.out ++ [⟨(k : Nat), nw, nw + per * p.size⟩], nw + per * p.size, nx, Q.left s2.q⟩) := fun hpos W1 D3 hA1 => by
     have hpos' : 0 < Q.rest s2.q := by rw [HRS.out]; exact hpos
     have hk := HL.out.1.pick s2 HReach.out hpos'
     rw [HX.out.1] at hk
     obtain ⟨p, hp, -⟩ := get_some ps (Q.pick s2.q) (by rw [HN.out]; omega)
     have hok := (HL.out.2.each _ p hp).1
     refine ⟨Q.pick s2.q, p, by omega, hp, hok, ?_, fun W2 hl2 => ?_, ?_⟩
     ·
      refine (HPick.out W1 D3 s2 HReach.out hpos' hA1.held).mono ?_
      rintro e w' ⟨rfl, hq⟩
      obtain ⟨D4, g1, g2, g3, g4⟩ := hA1.parts HM.out.1 HM.out.2.1 hq
      exact ⟨rfl, D4, g1, g2, g3, g4⟩
     ·
      have := sendOne_ok a cap ps per nw (Q.pick s2.q) p W2 hl2 (by rw [HN.out]; exact hfew) hp hok h1 h2 hnow.1 (by omega)
      rwa [HN.out] at this
     ·
      have := Reaches.send s2 p HReach.out HStop.out hpos' hp
      rwa [HX.out.1, HX.out.2] at this
    have hway : (¬ nx < n) ∨ (nx < n ∧ nw < tickOf ps nx) := by omega
    have HWay : Hid ((¬ nx < n) ∨ (nx < n ∧ nw < tickOf ps nx)) := hway
    have HCell : Hid (nx < n → ∃ b off, a = some ⟨b, off, none⟩ ∧ ∀ W, Below B w W → W.cell? ⟨b, off + nx * 3 + 2, none⟩ = some (.int .i64 (tickOf ps nx))) := fun hlt => by
     obtain ⟨p, hp, -⟩ := get_some ps nx (by rw [HN.out]; exact hlt)
     obtain ⟨b, off, rfl, hbl, hc⟩ := HM.out.2.2.1.place (by rw [HN.out]; omega)
     refine ⟨b, off, rfl, fun W hW => ?_⟩
     rw [hW.cell (p := ⟨b, off + nx * 3 + 2, none⟩) (HM.out.2.2.2 ⟨b, off, none⟩ rfl (by rw [HN.out]; omega)), tickOf_get hp]
     exact (hc nx p hp).2.2
    clear hgo hway
    by_cases hrest : 0 < rs
    ·
     rcases HWay.out with hlt | ⟨hlt, htk⟩
     ·
      go_wp2_with fail
      refine HR1.out.mono ?_
      rintro e w1 ⟨rfl, hq⟩
      rw [HAsk.out hrest] at hq
      obtain ⟨D3, h3⟩ := HA.out.called HM.out.1 HM.out.2.1 hq HReach.out rfl
      obtain ⟨k, p, hkn, hp, hok, hpick, hone, hreach⟩ := HSend.out hrest w1 D3 h3
      have HPk : Hid (Calls Tryz.prog 219 #[.agg #[x1, x2, x3]] w1 fun e w' => e = .returned (.int .i64 (k : Nat)) ∧ ∃ D4, SendMid Held B w w' u7 s2.out (Q.left s2.q) D4) := hpick
      have HOne : Hid (∀ W2, LiesP W2 a ps → Calls Tryz.prog 99 #[.slice a n cap, .int .i64 per, .int .i64 k, .int .i64 nw] W2 fun e w' => e = .returned (.agg #[.int .i64 k, .int .i64 nw, .int .i64 (nw + per * p.size)]) ∧ Below W2.heap.size W2 w') := hone
      obtain ⟨uz, hto⟩ : ∃ uz, nw + per * p.size = uz := ⟨_, rfl⟩
      rw [hto] at hreach
      have HTo : Hid (nw + per * p.size = uz) := hto
      have HRe : Hid (Reaches Q per ps q0 ⟨s2.out ++ [⟨(k : Nat), nw, uz⟩], uz, nx, Q.left s2.q⟩) := hreach
      clear hq h3 hpick hone hreach hp hok hto
      go_wp2_with fail
      refine HPk.out.mono ?_
      rintro e w2 ⟨rfl, D4, hmid⟩
      have HMid : Hid (SendMid Held B w w2 u7 s2.out (Q.left s2.q) D4) := hmid
      have HLies : Hid (LiesP w2 a ps) := HM.out.2.2.1.bel HM.out.2.2.2 hmid.below
      clear hmid
      go_wp2_with fail
      refine (HOne.out w2 HLies.out).mono ?_
      rintro e w3 ⟨rfl, hb3⟩
      rw [HTo.out]
      have HMid3 : Hid (SendMid Held B w w3 u7 s2.out (Q.left s2.q) D4) := HMid.out.later HM.out.1 HM.out.2.1 hb3
      clear hb3
      have HMid4 : Hid (SendMid Held B w ((w3.alloc (.cells #[.int .i64 k, .int .i64 nw, .int .i64 uz] 78)).alloc (.cells #[.int .i64 k, .int .i64 nw, .int .i64 uz] 78)) u7 s2.out (Q.left s2.q) D4) := HMid3.out.later HM.out.1 HM.out.2.1 (((Below.refl _ _).alloc (Nat.le_refl _) _).alloc (by simp) _)
      have HNews : Hid (∀ j u, (cellsS [⟨k, nw, uz⟩])[j]? = some u → ((w3.alloc (.cells #[.int .i64 k, .int .i64 nw, .int .i64 uz] 78)).alloc (.cells #[.int .i64 k, .int .i64 nw, .int .i64 uz] 78)).cell? ((⟨w3.heap.size + 1, 0, none⟩ : Addr).add j) = some u) := World.news_of_block (cs := #[.int .i64 k, .int .i64 nw, .int .i64 uz]) (t := 78) (by have := heap_alloc_new (w3.alloc (.cells #[.int .i64 k, .int .i64 nw, .int .i64 uz] 78)) (.cells #[.int .i64 k, .int .i64 nw, .int .i64 uz] 78); simpa using this)
      have HCel : Hid (((w3.alloc (.cells #[.int .i64 k, .int .i64 nw, .int .i64 uz] 78)).alloc (.cells #[.int .i64 k, .int .i64 nw, .int .i64 uz] 78)).cell? ⟨w3.heap.size, 2, none⟩ = some (.int .i64 uz)) := cell_later ((Below.refl _ _).alloc (Nat.le_refl _) _) (by simp)
      have HBs : Hid (w.heap.size ≤ ((w3.alloc (.cells #[.int .i64 k, .int .i64 nw, .int .i64 uz] 78)).alloc (.cells #[.int .i64 k, .int .i64 nw, .int .i64 uz] 78)).heap.size ∧ w3.heap.size < ((w3.alloc (.cells #[.int .i64 k, .int .i64 nw, .int .i64 uz] 78)).alloc (.cells #[.int .i64 k, .int .i64 nw, .int .i64 uz] 78)).heap.size) := ⟨HMid4.out.below.size, by simp; omega⟩
      have HNe : Hid (some w3.heap.size ≠ u7.ownBlock) := fun e => by
       have := (ownsRow_lt HMid3.out.own e.symm).2
       omega
      go_wp2_with (at_builtin; go_must (refine wpList_append_lies _ rfl _ _ 45 rfl w.heap.size 78 i0 (.agg #[.int .i64 0, .int .i64 0, .int .i64 0]) 3 24 Tryz.underlying45 hi hz0 hz1 hz2 rfl (by decide) u7 s2.out.length (cellsS s2.out) rfl HMid4.out.own ⟨w3.heap.size + 1, 0, none⟩ 1 1 (cellsS [⟨k, nw, uz⟩]) rfl rfl HNews.out (cellsS_one _) (by decide) (by unfold maxLen; omega) (by omega) HBs.out.1 _ rfl ?_; intro g5 cap5 w5 ho5 hg5 hat5 hlt5; have c5 : w5.cell? ⟨w3.heap.size, 2, none⟩ = some (.int .i64 uz) := (hg5.cell_far ⟨w3.heap.size, 2, none⟩ HBs.out.2 HNe.out).trans HCel.out; have H5 : Hid (SendAt Q Held per ps q0 B w w5 (.slice (some ⟨g5, 0, none⟩) (s2.out.length + 1) cap5) ⟨s2.out ++ [⟨(k : Nat), nw, uz⟩], uz, nx, Q.left s2.q⟩ D4) := SendAt.grown HM.out.1 HM.out.2.1 HMid4.out ho5 hg5 hat5 _ HRe.out rfl rfl; clear ho5 hg5 hat5 hlt5))
      go_roundg (leftOf ps (⟨s2.out ++ [⟨(k : Nat), nw, uz⟩], uz, nx, Q.left s2.q⟩ : St σ))
      case measure =>
       refine left_send ?_ ?_
       · simp [HEq.out.1]
       ·
        have h3 := HCnt.out
        rw [HEq.out.1] at h3
        rw [HN.out]
        omega
      case rel => exact ⟨_, D4, rfl, rfl, rfl, H5.out⟩
     ·
      obtain ⟨b, off, rfl, hcell⟩ := HCell.out hlt
      have c1 := hcell wr HA.out.below
      clear hcell
      go_wp2_with fail
      refine HR1.out.mono ?_
      rintro e w1 ⟨rfl, hq⟩
      rw [HAsk.out hrest] at hq
      obtain ⟨D3, h3⟩ := HA.out.called HM.out.1 HM.out.2.1 hq HReach.out rfl
      obtain ⟨k, p, hkn, hp, hok, hpick, hone, hreach⟩ := HSend.out hrest w1 D3 h3
      have HPk : Hid (Calls Tryz.prog 219 #[.agg #[x1, x2, x3]] w1 fun e w' => e = .returned (.int .i64 (k : Nat)) ∧ ∃ D4, SendMid Held B w w' u7 s2.out (Q.left s2.q) D4) := hpick
      have HOne : Hid (∀ W2, LiesP W2 (some ⟨b, off, none⟩) ps → Calls Tryz.prog 99 #[.slice (some ⟨b, off, none⟩) n cap, .int .i64 per, .int .i64 k, .int .i64 nw] W2 fun e w' => e = .returned (.agg #[.int .i64 k, .int .i64 nw, .int .i64 (nw + per * p.size)]) ∧ Below W2.heap.size W2 w') := hone
      obtain ⟨uz, hto⟩ : ∃ uz, nw + per * p.size = uz := ⟨_, rfl⟩
      rw [hto] at hreach
      have HTo : Hid (nw + per * p.size = uz) := hto
      have HRe : Hid (Reaches Q per ps q0 ⟨s2.out ++ [⟨(k : Nat), nw, uz⟩], uz, nx, Q.left s2.q⟩) := hreach
      clear hq h3 hpick hone hreach hp hok hto
      go_wp2_with fail
      refine HPk.out.mono ?_
      rintro e w2 ⟨rfl, D4, hmid⟩
      have HMid : Hid (SendMid Held B w w2 u7 s2.out (Q.left s2.q) D4) := hmid
      have HLies : Hid (LiesP w2 (some ⟨b, off, none⟩) ps) := HM.out.2.2.1.bel HM.out.2.2.2 hmid.below
      clear hmid
      go_wp2_with fail
      refine (HOne.out w2 HLies.out).mono ?_
      rintro e w3 ⟨rfl, hb3⟩
      rw [HTo.out]
      have HMid3 : Hid (SendMid Held B w w3 u7 s2.out (Q.left s2.q) D4) := HMid.out.later HM.out.1 HM.out.2.1 hb3
      clear hb3
      have HMid4 : Hid (SendMid Held B w ((w3.alloc (.cells #[.int .i64 k, .int .i64 nw, .int .i64 uz] 78)).alloc (.cells #[.int .i64 k, .int .i64 nw, .int .i64 uz] 78)) u7 s2.out (Q.left s2.q) D4) := HMid3.out.later HM.out.1 HM.out.2.1 (((Below.refl _ _).alloc (Nat.le_refl _) _).alloc (by simp) _)
      have HNews : Hid (∀ j u, (cellsS [⟨k, nw, uz⟩])[j]? = some u → ((w3.alloc (.cells #[.int .i64 k, .int .i64 nw, .int .i64 uz] 78)).alloc (.cells #[.int .i64 k, .int .i64 nw, .int .i64 uz] 78)).cell? ((⟨w3.heap.size + 1, 0, none⟩ : Addr).add j) = some u) := World.news_of_block (cs := #[.int .i64 k, .int .i64 nw, .int .i64 uz]) (t := 78) (by have := heap_alloc_new (w3.alloc (.cells #[.int .i64 k, .int .i64 nw, .int .i64 uz] 78)) (.cells #[.int .i64 k, .int .i64 nw, .int .i64 uz] 78); simpa using this)
      have HCel : Hid (((w3.alloc (.cells #[.int .i64 k, .int .i64 nw, .int .i64 uz] 78)).alloc (.cells #[.int .i64 k, .int .i64 nw, .int .i64 uz] 78)).cell? ⟨w3.heap.size, 2, none⟩ = some (.int .i64 uz)) := cell_later ((Below.refl _ _).alloc (Nat.le_refl _) _) (by simp)
      have HBs : Hid (w.heap.size ≤ ((w3.alloc (.cells #[.int .i64 k, .int .i64 nw, .int .i64 uz] 78)).alloc (.cells #[.int .i64 k, .int .i64 nw, .int .i64 uz] 78)).heap.size ∧ w3.heap.size < ((w3.alloc (.cells #[.int .i64 k, .int .i64 nw, .int .i64 uz] 78)).alloc (.cells #[.int .i64 k, .int .i64 nw, .int .i64 uz] 78)).heap.size) := ⟨HMid4.out.below.size, by simp; omega⟩
      have HNe : Hid (some w3.heap.size ≠ u7.ownBlock) := fun e => by
       have := (ownsRow_lt HMid3.out.own e.symm).2
       omega
      go_wp2_with (at_builtin; go_must (refine wpList_append_lies _ rfl _ _ 45 rfl w.heap.size 78 i0 (.agg #[.int .i64 0, .int .i64 0, .int .i64 0]) 3 24 Tryz.underlying45 hi hz0 hz1 hz2 rfl (by decide) u7 s2.out.length (cellsS s2.out) rfl HMid4.out.own ⟨w3.heap.size + 1, 0, none⟩ 1 1 (cellsS [⟨k, nw, uz⟩]) rfl rfl HNews.out (cellsS_one _) (by decide) (by unfold maxLen; omega) (by omega) HBs.out.1 _ rfl ?_; intro g5 cap5 w5 ho5 hg5 hat5 hlt5; have c5 : w5.cell? ⟨w3.heap.size, 2, none⟩ = some (.int .i64 uz) := (hg5.cell_far ⟨w3.heap.size, 2, none⟩ HBs.out.2 HNe.out).trans HCel.out; have H5 : Hid (SendAt Q Held per ps q0 B w w5 (.slice (some ⟨g5, 0, none⟩) (s2.out.length + 1) cap5) ⟨s2.out ++ [⟨(k : Nat), nw, uz⟩], uz, nx, Q.left s2.q⟩ D4) := SendAt.grown HM.out.1 HM.out.2.1 HMid4.out ho5 hg5 hat5 _ HRe.out rfl rfl; clear ho5 hg5 hat5 hlt5))
      go_roundg (leftOf ps (⟨s2.out ++ [⟨(k : Nat), nw, uz⟩], uz, nx, Q.left s2.q⟩ : St σ))
      case measure =>
       refine left_send ?_ ?_
       · simp [HEq.out.1]
       ·
        have h3 := HCnt.out
        rw [HEq.out.1] at h3
        rw [HN.out]
        omega
      case rel => exact ⟨_, D4, rfl, rfl, rfl, H5.out⟩
    ·
     rcases HWay.out with hlt | ⟨hlt, htk⟩
     ·
      go_wp2_with fail
      refine HR1.out.mono ?_
      rintro e w1 ⟨rfl, hq⟩
      have HQ : Hid (QueLeft Held wr w1 D2 (Q.asked s2.q)) := hq
      clear hq
      go_wp2_with fail
      go_ret
      obtain ⟨D3, h31, h32, -, h34⟩ := HA.out.parts HM.out.1 HM.out.2.1 HQ.out
      exact ⟨s2, u7, rfl, HReach.out, by rw [HX.out.1]; omega, by rw [HRS.out]; omega, h31, h34, D3, h32⟩
     ·
      obtain ⟨b, off, rfl, hcell⟩ := HCell.out hlt
      have c1 := hcell wr HA.out.below
      have HCl : Hid (∀ W, Below B w W → W.cell? ⟨b, off + nx * 3 + 2, none⟩ = some (.int .i64 (tickOf ps nx))) := hcell
      clear hcell
      go_wp2_with fail
      refine HR1.out.mono ?_
      rintro e w1 ⟨rfl, hq⟩
      have hask : Q.asked s2.q = Q.idle s2.q := if_pos (by rw [HRS.out]; omega)
      rw [hask] at hq
      obtain ⟨D3, h31, h32, h33, h34⟩ := HA.out.parts HM.out.1 HM.out.2.1 hq
      have c2 := HCl.out w1 h34
      have H3 : Hid (OwnS w1 w.heap.size u7 s2.out ∧ Held w1 D3 (Q.idle s2.q) ∧ (∀ g, u7.ownBlock = some g → ¬ D3 g) ∧ Below B w w1) := ⟨h31, h32, h33, h34⟩
      clear hq hask h31 h32 h33 h34
      go_wp2_with fail
      go_roundg (leftOf ps (⟨s2.out, tickOf ps nx, nx, Q.idle s2.q⟩ : St σ))
      case measure =>
       have h3 := HCnt.out
       have h4 := HEq.out.2.2
       have h5 := HA0.out.reach.count HL.out.1
       rw [HEq.out.1] at h3
       rw [HX.out.1] at h4
       have h6 : s.next = nx := by omega
       refine left_idle (by simp [HEq.out.1]) h6.symm ?_ ?_ ?_
       · rw [HN.out, h6]; exact hlt
       · rw [h6, HNw.out]; exact htk
       · rw [h6]; exact Int.le_refl _
      case rel =>
       obtain ⟨p, hp, -⟩ := get_some ps nx (by rw [HN.out]; exact hlt)
       have hr : Reaches Q per ps q0 ⟨s2.out, p.tick, s2.next, Q.idle s2.q⟩ := .idle s2 p HReach.out (by rw [HX.out.1]; exact hp) (by rw [HX.out.2, ← tickOf_get hp]; exact htk) (by rw [HRS.out]; omega)
       rw [HX.out.1, ← tickOf_get hp] at hr
       exact ⟨_, D3, rfl, rfl, rfl, hr, H3.out.1, H3.out.2.1, H3.out.2.2.1, H3.out.2.2.2⟩
theorem send_any {σ : Type} (Q : Que σ) (Held : World → (Nat → Prop) → σ → Prop) (per : Int) (ps : List Pk) (q0 : σ) (B : Nat) (x1 x2 x3 : Value) (hm : QueMem Held B) (hlaw : QueLaw Q per ps q0) (ho : OkPks ps) (h1 : 1 ≤ per) (h2 : per ≤ 1000)
  (hCome : ∀ w D s p, Reaches Q per ps q0 s → ps[s.next]? = some p → Held w D s.q → Calls Tryz.prog 218 #[.agg #[x1, x2, x3], .int .i64 s.next] w fun e w' => e = .returned (.tuple #[]) ∧ QueLeft Held w w' D (Q.come s.q s.next))
  (hPick : ∀ w D s, Reaches Q per ps q0 s → 0 < Q.rest s.q → Held w D s.q → Calls Tryz.prog 219 #[.agg #[x1, x2, x3]] w fun e w' => e = .returned (.int .i64 (Q.pick s.q : Nat)) ∧ QueLeft Held w w' D (Q.left s.q))
  (hRest : ∀ w D s, Reaches Q per ps q0 s → Held w D s.q → Calls Tryz.prog 220 #[.agg #[x1, x2, x3]] w fun e w' => e = .returned (.int .i64 (Q.rest s.q : Nat)) ∧ QueLeft Held w w' D (Q.asked s.q))
  (a : Option Addr) (cap : Nat) (w : World) (hl : LiesP w a ps) (hB : B ≤ w.heap.size) (ha : ∀ ad, a = some ad → 0 < ps.length → ad.block < B) (D0 : Nat → Prop) (h0 : Held w D0 q0) :
  Calls Tryz.prog 59 #[.slice a ps.length cap, .int .i64 per, .iface 164 (.agg #[x1, x2, x3])] w fun e w' => ∃ s v, e = .returned v ∧ Reaches Q per ps q0 s ∧ ¬ s.next < ps.length ∧ Q.rest s.q = 0 ∧ OwnS w' w.heap.size v s.out ∧ Below B w w' :=
 (send_held Q Held per ps q0 B x1 x2 x3 hm hlaw ho h1 h2 hCome hPick hRest a cap w hl hB ha D0 h0).mono fun _ _ ⟨s, v, e, g1, g2, g3, g4, g5, _⟩ => ⟨s, v, e, g1, g2, g3, g4, g5⟩
end Go.Proofs.YtibhkijaafdkoaaGreatDoor

namespace Go.Proofs.YtibhkijaafdkoaaGreatDoor
open Go.RowKit
def delRen : Go.Shelf.Ren where
 f := fun _ => 165
 t := fun k => match k with | 0 => 0 | 3 => 3 | 4 => 4 | _ => 23
 g := fun k => k
theorem delLays : Go.Proofs.Lays2.n23 Tryz.prog delRen where
 mixed := by kernel_rfl
 f23 := by kernel_rfl
 t0 := by kernel_rfl
 a0 := fun w => by kernel_rfl
 z0 := fun w => by kernel_rfl
 v0 := fun w => by kernel_rfl
 t3 := by kernel_rfl
 a3 := fun w => by kernel_rfl
 z3 := fun w => by kernel_rfl
 v3 := fun w => by kernel_rfl
 t4 := by kernel_rfl
 a4 := fun w => by kernel_rfl
 z4 := fun w => by kernel_rfl
 v4 := fun w => by kernel_rfl
 t22 := by kernel_rfl
 a22 := fun w => by kernel_rfl
 z22 := fun w => by kernel_rfl
 v22 := fun w => by kernel_rfl
 i3 := by kernel_rfl
theorem delete_one (B g cap i : Nat) (zs : List Int) (w : World) (h : w.ownsRow B 3 1 (.slice (some ⟨g, 0, none⟩) zs.length cap) zs.length (ints zs)) (hi : i < zs.length) (hcap : zs.length ≤ cap) (hm : cap ≤ maxLen) :
  Calls Tryz.prog 165 #[.slice (some ⟨g, 0, none⟩) zs.length cap, .int .i64 (i : Int), .int .i64 ((i : Int) + 1)] w fun e w' => e = .returned (.slice (some ⟨g, 0, none⟩) (zs.length - 1) cap) ∧ w'.ownsRow B 3 1 (.slice (some ⟨g, 0, none⟩) (zs.length - 1) cap) (zs.length - 1) (ints (zs.eraseIdx i)) ∧ But (fun k => k = g) w w' := by
 have hd := Any.slices_Delete_int delLays g 0 cap i (i + 1) zs w (holds_of_own h) hcap (by unfold maxLen at hm; omega) (by omega) (by omega)
 refine hd.mono ?_
 rintro e w' ⟨rfl, q, rfl⟩
 exact ⟨by rw [show i + 1 - i = 1 by omega], own_deleted h i q hi⟩
end Go.Proofs.YtibhkijaafdkoaaGreatDoor

namespace Go.Proofs.YtibhkijaafdkoaaGreatDoor
open Go.RowKit
def asInts (q : List Nat) : List Int := q.map fun (k : Nat) => (k : Int)
theorem asInts_length (q : List Nat) : (asInts q).length = q.length := by simp [asInts]
theorem asInts_get {q : List Nat} {j k : Nat} (h : q[j]? = some k) : (asInts q)[j]? = some (k : Int) := by simp [asInts, h]
theorem asInts_snoc (q : List Nat) (k : Nat) : ints (asInts (q ++ [k])) = ints (asInts q) ++ [.int .i64 (k : Int)] := by simp [asInts, ints]
theorem asInts_more (L : List Nat) (i : Nat) : asInts (L ++ [i]) = asInts L ++ [(i : Int)] := by simp [asInts]
theorem asInts_erase (q : List Nat) (i : Nat) : (asInts q).eraseIdx i = asInts (q.eraseIdx i) := by
 simp only [asInts, List.eraseIdx_eq_take_drop_succ, List.map_append, List.map_take, List.map_drop]
structure HeldR (B : Nat) (W0 : World) (g gm : Nat) (mv : Value) (w : World) (D : Nat → Prop) (q : List Nat) : Prop where
 env : Below B W0 w
 row : ∃ v, w.heap[g]? = some (.cells #[v] 23 (0, 0)) ∧ w.ownsRow B 3 1 v q.length (ints (asInts q)) ∧ v.ownBlock ≠ some g ∧ v.ownBlock ≠ some gm ∧ (∀ k, D k ↔ k = g ∨ k = gm ∨ v.ownBlock = some k)
 mea : w.heap[gm]? = some (.cells #[mv] 199 (0, 0))
 apart : g ≠ gm ∧ B ≤ g ∧ B ≤ gm
section
variable {B : Nat} {W0 : World} {g gm : Nat} {mv : Value} {w w' : World} {D : Nat → Prop} {q : List Nat}
theorem HeldR.foot (h : HeldR B W0 g gm mv w D q) : ∀ k, D k → B ≤ k ∧ k < w.heap.size := by
 obtain ⟨v, h1, h2, -, -, h5⟩ := h.row
 intro k hk
 rcases (h5 k).1 hk with rfl | rfl | hk
 · exact ⟨h.apart.2.1, lt_of_block h1⟩
 · exact ⟨h.apart.2.2, lt_of_block h.mea⟩
 · exact ownsRow_lt h2 hk
theorem HeldR.but {S : Nat → Prop} (h : HeldR B W0 g gm mv w D q) (hb : But S w w') (hs : ∀ k, D k → ¬ S k) (hB : ∀ k, S k → B ≤ k) : HeldR B W0 g gm mv w' D q := by
 obtain ⟨v, h1, h2, h3, h4, h5⟩ := h.row
 have hsz : B ≤ w.heap.size := Nat.le_trans h.apart.2.1 (Nat.le_of_lt (lt_of_block h1))
 exact ⟨h.env.trans (hb.below hsz hB), ⟨v, (hb.block g (lt_of_block h1) (hs g ((h5 g).2 (.inl rfl)))).trans h1, ownsRow_of_block h2 (fun k hv hk => hb.block k hk (hs k ((h5 k).2 (.inr (.inr hv))))), h3, h4, h5⟩, (hb.block gm (lt_of_block h.mea) (hs gm ((h5 gm).2 (.inr (.inl rfl))))).trans h.mea, h.apart⟩
theorem HeldR.later (h : HeldR B W0 g gm mv w D q) (hb : Below w.heap.size w w') : HeldR B W0 g gm mv w' D q :=
 h.but (S := fun _ => False) (.ofBelow hb) (fun _ _ h => h) (fun _ h => h.elim)
theorem HeldR.alloc (h : HeldR B W0 g gm mv w D q) (o : Obj) : HeldR B W0 g gm mv (w.alloc o) D q := h.later ((Below.refl _ _).alloc (Nat.le_refl _) _)
theorem HeldR.stored {v v' : Value} {w1 w2 : World} {q' : List Nat} (h : HeldR B W0 g gm mv w D q) (hv : w.heap[g]? = some (.cells #[v] 23 (0, 0))) (hb1 : Below w.heap.size w w1) (hbut : But (fun k => v.ownBlock = some k) w1 w2)
  (hown : w2.ownsRow B 3 1 v' q'.length (ints (asInts q'))) (hnew : ∀ k, v'.ownBlock = some k → v.ownBlock = some k ∨ w1.heap.size ≤ k) :
  QueLeft (HeldR B W0 g gm mv) w (w2.setCell ⟨g, 0, none⟩ v') D q' := by
 obtain ⟨u, h1, h2, h3, h4, h5⟩ := h.row
 have e : u = v := by
  rw [hv] at h1
  injection h1 with h1
  injection h1 with h1
  simp at h1
  exact h1.symm
 subst e
 have hgl := lt_of_block h1
 have hml := lt_of_block h.mea
 have hsz : B ≤ w.heap.size := Nat.le_trans h.apart.2.1 (Nat.le_of_lt hgl)
 have hs1 := hb1.size
 have hg2 : w2.heap[g]? = some (.cells #[u] 23 (0, 0)) := (hbut.block g (by omega) h3).trans ((hb1.block g hgl).trans h1)
 have hm2 : w2.heap[gm]? = some (.cells #[mv] 199 (0, 0)) := (hbut.block gm (by omega) h4).trans ((hb1.block gm hml).trans h.mea)
 have hb2 : But (fun k => k = g) w2 (w2.setCell ⟨g, 0, none⟩ v') := But.setCell (S := fun k => k = g) (But.refl _ w2) (p := ⟨g, 0, none⟩) rfl v'
 have hvg : v'.ownBlock ≠ some g := fun e => by
  rcases hnew g e with h' | h'
  · exact h3 h'
  · omega
 have hvm : v'.ownBlock ≠ some gm := fun e => by
  rcases hnew gm e with h' | h'
  · exact h4 h'
  · omega
 have hall : But D w (w2.setCell ⟨g, 0, none⟩ v') := ((But.ofBelow hb1).trans (hbut.mono fun k hk => (h5 k).2 (.inr (.inr hk)))).trans (hb2.mono fun k hk => (h5 k).2 (.inl hk))
 refine ⟨fun k => k = g ∨ k = gm ∨ v'.ownBlock = some k, ⟨h.env.trans (hall.below hsz fun k hk => (h.foot k hk).1), ⟨v', one_setCell hg2, ownsRow_of_block hown (fun k hv' hk => hb2.block k hk (fun e => hvg (by rw [← e]; exact hv'))), hvg, hvm, fun k => Iff.rfl⟩, (hb2.block gm (lt_of_block hm2) (fun e => h.apart.1 e.symm)).trans hm2, h.apart⟩, hall, fun k hk => ?_⟩
 rcases hk with rfl | rfl | hk
 · exact .inl ((h5 _).2 (.inl rfl))
 · exact .inl ((h5 _).2 (.inr (.inl rfl)))
 ·
  rcases hnew k hk with h' | h'
  · exact .inl ((h5 k).2 (.inr (.inr h')))
  · exact .inr (by omega)
theorem HeldR.same (h : HeldR B W0 g gm mv w D q) (hb : Below w.heap.size w w') : QueLeft (HeldR B W0 g gm mv) w w' D q := ⟨D, h.later hb, .ofBelow hb, fun _ hk => .inl hk⟩
theorem QueLeft.after {σ : Type} {Held : World → (Nat → Prop) → σ → Prop} {w w1 w' : World} {D : Nat → Prop} {q : σ} (hb : Below w.heap.size w w1) (h : QueLeft Held w1 w' D q) : QueLeft Held w w' D q := by
 obtain ⟨D', h1, h2, h3⟩ := h
 refine ⟨D', h1, (But.ofBelow hb).trans h2, fun k hk => ?_⟩
 rcases h3 k hk with h | h
 · exact .inl h
 · exact .inr (Nat.le_trans hb.size h)
end
theorem rankMem (B : Nat) (W0 : World) (g gm : Nat) (mv : Value) : QueMem (HeldR B W0 g gm mv) B := ⟨fun _ _ _ h => h.foot, fun _ _ _ _ _ h hb hs hB => h.but hb hs hB⟩
set_option maxRecDepth 100000 in
set_option maxHeartbeats 1000000 in
theorem rankCome (B : Nat) (W0 : World) (g gm : Nat) (mv : Value) (D : Nat → Prop) (q : List Nat) (k : Nat) (w : World) (h : HeldR B W0 g gm mv w D q) (hn : q.length ≤ 1000) :
  Calls Tryz.prog 157 #[.int .i64 (k : Int), .pointer (some ⟨g, 0, none⟩)] w fun e w' => e = .returned (.tuple #[]) ∧ QueLeft (HeldR B W0 g gm mv) w w' D (q ++ [k]) := by
 obtain ⟨i0, hi, hz0, hz1, hz2⟩ := info_parts Tryz.infoInt
 have HH : Hid (HeldR B W0 g gm mv w D q) := h
 obtain ⟨v, h1, h2, h3, h4, h5⟩ := h.row
 have hgl := lt_of_block h1
 have c0 := cell_of_one h1
 have H1 : Hid (w.heap[g]? = some (.cells #[v] 23 (0, 0)) ∧ v.ownBlock ≠ some g ∧ B ≤ w.heap.size) := ⟨h1, h3, Nat.le_trans h.apart.2.1 (Nat.le_of_lt hgl)⟩
 have hb0 : Below w.heap.size w (w.alloc (.cells #[.int .i64 (k : Int)] 3)) := (Below.refl _ _).alloc (Nat.le_refl _) _
 have H2 : Hid ((w.alloc (.cells #[.int .i64 (k : Int)] 3)).ownsRow B 3 1 v q.length (ints (asInts q))) := ownsRow_of_block h2 (fun g' _ hg' => hb0.block g' hg')
 have HNew : Hid (∀ j u, (ints [(k : Int)])[j]? = some u → (w.alloc (.cells #[.int .i64 (k : Int)] 3)).cell? (Addr.add ⟨w.heap.size, 0, none⟩ j) = some u) := by
  intro j u hu
  cases j with
  | zero => simp [ints] at hu; subst hu; simp [Addr.add]
  | succ j => simp [ints] at hu
 have HBs : Hid (B ≤ (w.alloc (.cells #[.int .i64 (k : Int)] 3)).heap.size) := Nat.le_trans H1.out.2.2 hb0.size
 clear h1 h2 h3 h4 h5 h hb0
 go_enter Tryz.func157, Tryz.ntmps157
 go_wp2_with (at_builtin; go_must (refine wpList_append_lies _ rfl _ _ 23 rfl B 3 i0 (.int .i64 0) 1 8 Tryz.underlying23 hi hz0 hz1 hz2 rfl (by decide) v q.length (ints (asInts q)) rfl H2.out ⟨w.heap.size, 0, none⟩ 1 1 (ints [(k : Int)]) rfl rfl HNew.out (ints_one _) (by decide) (by unfold maxLen; omega) (by omega) HBs.out _ rfl ?_; intro g5 cap5 w5 ho5 hg5 hat5 hlt5; have hbut : But (fun k => v.ownBlock = some k) (w.alloc (.cells #[.int .i64 (k : Int)] 3)) w5 := ⟨hg5.os, hg5.tape, hg5.output, hg5.size, fun k hk hn => hg5.block k hk (fun e => hn e.symm)⟩; have hgb : w5.heap[g]? = some (.cells #[v] 23 (0, 0)) := (hbut.block g (by simp; omega) H1.out.2.1).trans ((Below.heap_alloc w _ g hgl).trans H1.out.1); have c5 := cell_of_one hgb; have f5 := free_of_one hgb; have H5 : Hid (w5.ownsRow B 3 1 (.slice (some ⟨g5, 0, none⟩) (q.length + 1) cap5) (q.length + 1) (ints (asInts q) ++ ints [(k : Int)]) ∧ But (fun k => v.ownBlock = some k) (w.alloc (.cells #[.int .i64 (k : Int)] 3)) w5 ∧ (v.ownBlock = some g5 ∨ g5 = (w.alloc (.cells #[.int .i64 (k : Int)] 3)).heap.size)) := ⟨ho5, hbut, hat5⟩; clear ho5 hg5 hat5 hlt5 hbut hgb))
 go_end0
 refine ⟨rfl, HH.out.stored H1.out.1 ((Below.refl _ _).alloc (Nat.le_refl _) _) H5.out.2.1 ?_ ?_⟩
 ·
  rw [asInts_snoc, List.length_append]
  exact H5.out.1
 ·
  intro j hj
  have e : g5 = j := Option.some.inj hj
  rcases H5.out.2.2 with h | h
  · exact .inl (by rw [← e]; exact h)
  · exact .inr (by rw [← e, h]; exact Nat.le_refl _)
end Go.Proofs.YtibhkijaafdkoaaGreatDoor
