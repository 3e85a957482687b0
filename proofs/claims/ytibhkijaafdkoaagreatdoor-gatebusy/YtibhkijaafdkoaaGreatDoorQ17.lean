/- Own facts, put together: no statement of its own. -/
import Derived.Test.YtibhkijaafdkoaaGreatDoorQ14
import Derived.Test.YtibhkijaafdkoaaGreatDoorQ03
import Derived.Test.YtibhkijaafdkoaaGreatDoorQ13
import Derived.Test.YtibhkijaafdkoaaGreatDoorQ04
import Derived.Deep.AppendLies
namespace Go.Proofs.YtibhkijaafdkoaaGreatDoor
open Go.RowKit
theorem linkCheck_ok (a : Option Addr) (cap : Nat) (ps : List Pk) (per : Int) (w : World) (hl : LiesP w a ps) (ho : OkPks ps) (h1 : 1 ≤ per) (h2 : per ≤ 1000) :
  Calls Tryz.prog 52 #[.slice a ps.length cap, .int .i64 per] w fun e w' => e = .returned .nilIface ∧ Below w.heap.size w w' := by
 have HC : Hid (Calls Tryz.prog 49 #[.slice a ps.length cap] w fun e w' => e = .returned .nilIface ∧ Below w.heap.size w w') := pcheck_ok a cap ps w hl ho
 clear hl ho
 go_enter Tryz.func52, Tryz.ntmps52
 go_wp2_with fail
 refine HC.out.mono ?_
 rintro e w1 ⟨rfl, hb⟩
 have HB : Hid (Below w.heap.size w w1) := hb
 clear hb
 go_wp2_with fail
 go_ret
 exact ⟨rfl, HB.out⟩
theorem linkCheck_err {R : TypeId → Value → World → Prop} (a : Option Addr) (n cap : Nat) (per : Int) (w : World) (h : Calls Tryz.prog 49 #[.slice a n cap] w fun e w' => ∃ ty v, e = .returned (.iface ty v) ∧ R ty v w') :
  Calls Tryz.prog 52 #[.slice a n cap, .int .i64 per] w fun e w' => ∃ ty v, e = .returned (.iface ty v) ∧ R ty v w' := by
 have HC : Hid (Calls Tryz.prog 49 #[.slice a n cap] w fun e w' => ∃ ty v, e = .returned (.iface ty v) ∧ R ty v w') := h
 clear h
 go_enter Tryz.func52, Tryz.ntmps52
 go_wp2_with fail
 refine HC.out.mono ?_
 rintro e w1 ⟨ty, v, rfl, hR⟩
 have HR : Hid (R ty v w1) := hR
 clear hR
 go_wp2_with fail
 go_ret
 exact ⟨ty, v, rfl, HR.out⟩
theorem linkCheck_per (a : Option Addr) (cap : Nat) (ps : List Pk) (per : Int) (w : World) (ad : Nat → Addr) (he : ErrsBO w ad) (hl : LiesP w a ps) (ho : OkPks ps) (h : per < 1 ∨ 1000 < per) :
  Calls Tryz.prog 52 #[.slice a ps.length cap, .int .i64 per] w fun e w' => e = .returned (.iface 271 (.pointer (some (ad 1)))) ∧ Below w.heap.size w w' := by
 have HC : Hid (Calls Tryz.prog 49 #[.slice a ps.length cap] w fun e w' => e = .returned .nilIface ∧ Below w.heap.size w w') := pcheck_ok a cap ps w hl ho
 have HE : Hid (ErrsBO w ad) := he
 clear hl ho he
 by_cases h1 : per < 1
 ·
  clear h
  go_enter Tryz.func52, Tryz.ntmps52
  go_wp2_with fail
  refine HC.out.mono ?_
  rintro e w1 ⟨rfl, hb⟩
  have c1 := cell_later hb HE.out.c1
  have HB : Hid (Below w.heap.size w w1) := hb
  clear hb
  go_wp2_with fail
  go_ret
  exact ⟨rfl, HB.out⟩
 ·
  have h2 : 1000 < per := by omega
  clear h
  go_enter Tryz.func52, Tryz.ntmps52
  go_wp2_with fail
  refine HC.out.mono ?_
  rintro e w1 ⟨rfl, hb⟩
  have c1 := cell_later hb HE.out.c1
  have HB : Hid (Below w.heap.size w w1) := hb
  clear hb
  go_wp2_with fail
  go_ret
  exact ⟨rfl, HB.out⟩
set_option maxHeartbeats 1000000 in
theorem sendOne_ok (a : Option Addr) (cap : Nat) (ps : List Pk) (per now : Int) (k : Nat) (p : Pk) (w : World) (hl : LiesP w a ps) (hn : ps.length ≤ 300) (hk : ps[k]? = some p) (hp : okPk p = true) (h1 : 1 ≤ per) (h2 : per ≤ 1000) (n0 : 0 ≤ now) (n1 : now ≤ 1100000000000000) :
  Calls Tryz.prog 99 #[.slice a ps.length cap, .int .i64 per, .int .i64 k, .int .i64 now] w fun e w' => e = .returned (.agg #[.int .i64 k, .int .i64 now, .int .i64 (now + per * p.size)]) ∧ Below w.heap.size w w' := by
 have hkl := lt_of_get hk
 obtain ⟨b, off, rfl, hlt, hc⟩ := hl.place (by omega)
 have c1 := (hc k p hk).2.1
 obtain ⟨-, -, s1, s2, -, -⟩ := okPk_true hp
 have a1 : 0 ≤ per * p.size := Int.mul_nonneg (by omega) (by omega)
 have a2 : per * p.size ≤ 1000 * 1500 := Int.mul_le_mul (by omega) s2 (by omega) (by omega)
 have c1' : (w.alloc (.cells #[.int .i64 0, .int .i64 0, .int .i64 0] 78)).cell? ⟨b, off + k * 3 + 1, none⟩ = some (.int .i64 p.size) := cell_later ((Below.refl _ _).alloc (Nat.le_refl _) _) c1
 generalize p.size = y at *
 generalize hm : per * y = m at *
 have HM : Hid (per * y = m) := hm
 have hw : IntKind.i64.wrap (per * y) = m := by rw [hm]; exact IntWalk.i64_in (by omega) (by omega)
 clear hl hc hp hk hm
 go_enter Tryz.func99, Tryz.ntmps99
 go_wp2_with fail
 exact bodyPost_ret (v := .agg #[.int .i64 k, .int .i64 now, .int .i64 (now + m)]) (by simp [results, Tryz.results99, go_sem]) rfl ⟨rfl, (Below.refl _ _).alloc (Nat.le_refl _) _⟩
end Go.Proofs.YtibhkijaafdkoaaGreatDoor

namespace Go.Proofs.YtibhkijaafdkoaaGreatDoor
open Go.RowKit
def LiesS (w : World) (a : Option Addr) (ps : List Sn) : Prop :=
 ps = [] ∨ ∃ b off, a = some ⟨b, off, none⟩ ∧ b < w.heap.size ∧ ∀ (i : Nat) p, ps[i]? = some p → w.cell? ⟨b, off + i * 3, none⟩ = some (.int .i64 p.num) ∧ w.cell? ⟨b, off + i * 3 + 1, none⟩ = some (.int .i64 p.beg) ∧ w.cell? ⟨b, off + i * 3 + 2, none⟩ = some (.int .i64 p.fin)
theorem LiesS.place {w : World} {a : Option Addr} {ps : List Sn} (h : LiesS w a ps) (h1 : 1 ≤ ps.length) :
  ∃ b off, a = some ⟨b, off, none⟩ ∧ b < w.heap.size ∧ ∀ (i : Nat) p, ps[i]? = some p → w.cell? ⟨b, off + i * 3, none⟩ = some (.int .i64 p.num) ∧ w.cell? ⟨b, off + i * 3 + 1, none⟩ = some (.int .i64 p.beg) ∧ w.cell? ⟨b, off + i * 3 + 2, none⟩ = some (.int .i64 p.fin) := by
 rcases h with rfl | h
 · simp at h1
 · exact h
theorem LiesS.but {S : Nat → Prop} {w w' : World} {a : Option Addr} {ps : List Sn} (h : LiesS w a ps) (hb : But S w w') (hs : ∀ ad, a = some ad → ¬ S ad.block) : LiesS w' a ps := by
 rcases h with rfl | ⟨b, off, rfl, hlt, hc⟩
 · exact .inl rfl
 ·
  have hn : ¬ S b := hs _ rfl
  refine .inr ⟨b, off, rfl, Nat.lt_of_lt_of_le hlt hb.size, fun i p hi => ?_⟩
  have := hc i p hi
  exact ⟨by rw [hb.cell (p := ⟨b, off + i * 3, none⟩) hlt hn]; exact this.1, by rw [hb.cell (p := ⟨b, off + i * 3 + 1, none⟩) hlt hn]; exact this.2.1, by rw [hb.cell (p := ⟨b, off + i * 3 + 2, none⟩) hlt hn]; exact this.2.2⟩
theorem LiesS.below {w w' : World} {a : Option Addr} {ps : List Sn} (h : LiesS w a ps) (hb : Below w.heap.size w w') : LiesS w' a ps :=
 h.but (S := fun _ => False) (.ofBelow hb) (fun _ _ h => h)
def cellsS (ps : List Sn) : List Value := ps.flatMap fun p => [.int .i64 p.num, .int .i64 p.beg, .int .i64 p.fin]
theorem cellsS_cons (p : Sn) (r : List Sn) : cellsS (p :: r) = .int .i64 p.num :: .int .i64 p.beg :: .int .i64 p.fin :: cellsS r := rfl
theorem cellsS_append (a b : List Sn) : cellsS (a ++ b) = cellsS a ++ cellsS b := by simp [cellsS]
theorem cellsS_get (ps : List Sn) : ∀ (i : Nat) p, ps[i]? = some p → (cellsS ps)[i * 3]? = some (.int .i64 p.num) ∧ (cellsS ps)[i * 3 + 1]? = some (.int .i64 p.beg) ∧ (cellsS ps)[i * 3 + 2]? = some (.int .i64 p.fin) := by
 induction ps with
 | nil => intro i p h; simp at h
 | cons q r ih =>
  intro i p h
  rw [cellsS_cons]
  cases i with
  | zero => simp at h; subst h; exact ⟨rfl, rfl, rfl⟩
  | succ i =>
   have := ih i p (by simpa using h)
   rw [show (i + 1) * 3 = i * 3 + 1 + 1 + 1 by omega]
   exact ⟨by simpa using this.1, by simpa using this.2.1, by simpa using this.2.2⟩
theorem cellsS_at (ps : List Sn) : ∀ j u, (cellsS ps)[j]? = some u → ∃ (i : Nat) (p : Sn), ps[i]? = some p ∧ ((j = i * 3 ∧ u = .int .i64 p.num) ∨ (j = i * 3 + 1 ∧ u = .int .i64 p.beg) ∨ (j = i * 3 + 2 ∧ u = .int .i64 p.fin)) := by
 induction ps with
 | nil => intro j u h; simp [cellsS] at h
 | cons p r ih =>
  intro j u h
  rw [cellsS_cons] at h
  match j, h with
  | 0, h => exact ⟨0, p, rfl, .inl ⟨rfl, by simpa using h.symm⟩⟩
  | 1, h => exact ⟨0, p, rfl, .inr (.inl ⟨rfl, by simpa using h.symm⟩)⟩
  | 2, h => exact ⟨0, p, rfl, .inr (.inr ⟨rfl, by simpa using h.symm⟩)⟩
  | j + 3, h =>
   obtain ⟨i, q, hi, hj⟩ := ih j u (by simpa using h)
   refine ⟨i + 1, q, by simpa using hi, ?_⟩
   rcases hj with ⟨e, f⟩ | ⟨e, f⟩ | ⟨e, f⟩
   · exact .inl ⟨by omega, f⟩
   · exact .inr (.inl ⟨by omega, f⟩)
   · exact .inr (.inr ⟨by omega, f⟩)
theorem cellsS_one (ps : List Sn) : ∀ u ∈ cellsS ps, u.oneCell' = true := by
 intro u hu
 obtain ⟨j, hj⟩ := List.mem_iff_getElem?.1 hu
 obtain ⟨i, p, -, h⟩ := cellsS_at ps j u hj
 rcases h with ⟨-, rfl⟩ | ⟨-, rfl⟩ | ⟨-, rfl⟩ <;> rfl
def OwnS (w : World) (B : Nat) (v : Value) (ps : List Sn) : Prop := w.ownsRow B 78 3 v ps.length (cellsS ps)
theorem OwnS.open {w : World} {B : Nat} {v : Value} {ps : List Sn} (h : OwnS w B v ps) :
  ∃ a cap, v = .slice a ps.length cap ∧ ps.length ≤ cap ∧ cap ≤ maxLen ∧ LiesS w a ps ∧ (∀ ad, a = some ad → B ≤ ad.block) ∧ (a = none → ps = [] ∧ cap = 0) := by
 obtain ⟨hlen, ⟨rfl, h0⟩ | ⟨g, cap, cur, rfl, hB, hg, hn, hm, hc, ht⟩⟩ := h
 · exact ⟨none, 0, by rw [h0], by omega, by simp [maxLen], .inl (List.length_eq_zero_iff.1 h0), (fun ad e => by cases e), fun _ => ⟨List.length_eq_zero_iff.1 h0, rfl⟩⟩
 ·
  refine ⟨_, cap, rfl, hn, hm, .inr ⟨g, 0, rfl, ?_, fun i p hi => ?_⟩, (fun ad e => by cases e; exact hB), fun e => by cases e⟩
  ·
   rcases Nat.lt_or_ge g w.heap.size with h | h
   · exact h
   · simp [Array.getElem?_eq_none h] at hg
  ·
   have hh : w.ownsRow B 78 3 (.slice (some ⟨g, 0, none⟩) ps.length cap) ps.length (cellsS ps) := ⟨hlen, .inr ⟨g, cap, cur, rfl, hB, hg, hn, hm, hc, ht⟩⟩
   have hil : i < ps.length := by
    rcases Nat.lt_or_ge i ps.length with h | h
    · exact h
    · simp [List.getElem?_eq_none h] at hi
   have := cellsS_get ps i p hi
   rw [hh.cellAt _ (by omega), hh.cellAt _ (by omega), hh.cellAt _ (by omega), Nat.zero_add]
   exact this
theorem Tryz.infoSent : (Tryz.prog.info? 78).map (fun i => (i.zero, i.size, i.bytes)) = some (some (.agg #[.int .i64 0, .int .i64 0, .int .i64 0]), 3, 24) := by kernel_rfl
end Go.Proofs.YtibhkijaafdkoaaGreatDoor

namespace Go.Proofs.YtibhkijaafdkoaaGreatDoor
open Go.RowKit
theorem LiesP.bel {w w' : World} {B : Nat} {a : Option Addr} {ps : List Pk} (h : LiesP w a ps) (ha : ∀ ad, a = some ad → 0 < ps.length → ad.block < B) (hb : Below B w w') : LiesP w' a ps := by
 rcases h with rfl | ⟨b, off, rfl, hlt, hc⟩
 · exact .inl rfl
 ·
  by_cases h0 : 0 < ps.length
  ·
   have hB : b < B := ha ⟨b, off, none⟩ rfl h0
   refine .inr ⟨b, off, rfl, Nat.lt_of_lt_of_le hlt hb.size, fun i p hi => ?_⟩
   have := hc i p hi
   exact ⟨by rw [hb.cell (p := ⟨b, off + i * 3, none⟩) hB]; exact this.1, by rw [hb.cell (p := ⟨b, off + i * 3 + 1, none⟩) hB]; exact this.2.1, by rw [hb.cell (p := ⟨b, off + i * 3 + 2, none⟩) hB]; exact this.2.2⟩
  · exact .inl (List.length_eq_zero_iff.1 (by omega))
structure QueMem {σ : Type} (Held : World → (Nat → Prop) → σ → Prop) (B : Nat) : Prop where
 foot : ∀ w D q, Held w D q → ∀ k, D k → B ≤ k ∧ k < w.heap.size
 but : ∀ (S : Nat → Prop) w w' D q, Held w D q → But S w w' → (∀ k, D k → ¬ S k) → (∀ k, S k → B ≤ k) → Held w' D q
def QueLeft {σ : Type} (Held : World → (Nat → Prop) → σ → Prop) (w w' : World) (D : Nat → Prop) (q : σ) : Prop := ∃ D', Held w' D' q ∧ But D w w' ∧ ∀ k, D' k → D k ∨ w.heap.size ≤ k
structure SendAt {σ : Type} (Q : Que σ) (Held : World → (Nat → Prop) → σ → Prop) (per : Int) (ps : List Pk) (q0 : σ) (B : Nat) (w wr : World) (v : Value) (s : St σ) (D : Nat → Prop) : Prop where
 reach : Reaches Q per ps q0 s
 own : OwnS wr w.heap.size v s.out
 held : Held wr D s.q
 apart : ∀ g, v.ownBlock = some g → ¬ D g
 below : Below B w wr
section
variable {σ : Type} {Q : Que σ} {Held : World → (Nat → Prop) → σ → Prop} {per : Int} {ps : List Pk} {q0 : σ} {B : Nat} {w wr wr' : World} {v : Value} {s s' : St σ} {D : Nat → Prop}
theorem SendAt.later (hm : QueMem Held B) (h : SendAt Q Held per ps q0 B w wr v s D) (hB : B ≤ w.heap.size) (hb : Below wr.heap.size wr wr') : SendAt Q Held per ps q0 B w wr' v s D :=
 ⟨h.reach, ownsRow_of_block h.own (fun g _ hg => hb.block g hg), hm.but (fun _ => False) _ _ _ _ h.held (.ofBelow hb) (fun _ _ h => h) (fun _ h => h.elim), h.apart, h.below.trans (hb.mono (Nat.le_trans hB h.below.size))⟩
theorem SendAt.called (hm : QueMem Held B) (h : SendAt Q Held per ps q0 B w wr v s D) (hB : B ≤ w.heap.size) (hq : QueLeft Held wr wr' D s'.q) (hr : Reaches Q per ps q0 s') (ho : s'.out = s.out) : ∃ D', SendAt Q Held per ps q0 B w wr' v s' D' := by
 obtain ⟨D', h1, h2, h3⟩ := hq
 refine ⟨D', hr, by rw [ho]; exact ownsRow_of_block h.own (fun g hv hg => h2.block g hg (h.apart g hv)), h1, fun g hg hD => ?_, h.below.trans (h2.below (Nat.le_trans hB h.below.size) (fun k hk => (hm.foot _ _ _ h.held k hk).1))⟩
 rcases h3 g hD with h' | h'
 · exact h.apart g hg h'
 ·
  have := (ownsRow_lt h.own hg).2
  omega
theorem SendAt.parts (hm : QueMem Held B) (h : SendAt Q Held per ps q0 B w wr v s D) (hB : B ≤ w.heap.size) {q : σ} (hq : QueLeft Held wr wr' D q) :
  ∃ D', OwnS wr' w.heap.size v s.out ∧ Held wr' D' q ∧ (∀ g, v.ownBlock = some g → ¬ D' g) ∧ Below B w wr' := by
 obtain ⟨D', h1, h2, h3⟩ := hq
 refine ⟨D', ownsRow_of_block h.own (fun g hv hg => h2.block g hg (h.apart g hv)), h1, fun g hg hD => ?_, h.below.trans (h2.below (Nat.le_trans hB h.below.size) (fun k hk => (hm.foot _ _ _ h.held k hk).1))⟩
 rcases h3 g hD with h' | h'
 · exact h.apart g hg h'
 ·
  have := (ownsRow_lt h.own hg).2
  omega
structure SendMid (Held : World → (Nat → Prop) → σ → Prop) (B : Nat) (w wr : World) (v : Value) (out : List Sn) (q : σ) (D : Nat → Prop) : Prop where
 own : OwnS wr w.heap.size v out
 held : Held wr D q
 apart : ∀ g, v.ownBlock = some g → ¬ D g
 below : Below B w wr
theorem SendMid.later {out : List Sn} {q : σ} (hm : QueMem Held B) (h : SendMid Held B w wr v out q D) (hB : B ≤ w.heap.size) (hb : Below wr.heap.size wr wr') : SendMid Held B w wr' v out q D :=
 ⟨ownsRow_of_block h.own (fun g _ hg => hb.block g hg), hm.but (fun _ => False) _ _ _ _ h.held (.ofBelow hb) (fun _ _ h => h) (fun _ h => h.elim), h.apart, h.below.trans (hb.mono (Nat.le_trans hB h.below.size))⟩
theorem SendAt.grown (hm : QueMem Held B) (hB : B ≤ w.heap.size) {x : Sn} {q : σ} {g cap : Nat} {w1 w2 : World} {out : List Sn} (hmid : SendMid Held B w w1 v out q D)
  (h1 : w2.ownsRow w.heap.size 78 3 (.slice (some ⟨g, 0, none⟩) (out.length + 1) cap) (out.length + 1) (cellsS out ++ cellsS [x])) (h2 : w1.grownBy w2 v.ownBlock) (h3 : v.ownBlock = some g ∨ g = w1.heap.size) (s' : St σ) (hr : Reaches Q per ps q0 s') (ho : s'.out = out ++ [x]) (hq : s'.q = q) :
  SendAt Q Held per ps q0 B w w2 (.slice (some ⟨g, 0, none⟩) (out.length + 1) cap) s' D := by
 obtain ⟨hown, hheld, hap, hbel⟩ := hmid
 have hb : But (fun k => v.ownBlock = some k) w1 w2 := ⟨h2.os, h2.tape, h2.output, h2.size, fun k hk hn => h2.block k hk (fun e => hn e.symm)⟩
 refine ⟨hr, ?_, by rw [hq]; exact hm.but _ _ _ _ _ hheld hb (fun k hk hv => hap k hv hk) (fun k hk => Nat.le_trans hB (ownsRow_lt hown hk).1), fun g' hg' hD => ?_, hbel.trans (hb.below (Nat.le_trans hB hbel.size) fun k hk => Nat.le_trans hB (ownsRow_lt hown hk).1)⟩
 ·
  rw [ho]
  unfold OwnS
  rw [List.length_append, cellsS_append]
  exact h1
 ·
  have e : g = g' := Option.some.inj hg'
  subst e
  rcases h3 with h3 | h3
  · exact hap _ h3 hD
  ·
   have := (hm.foot _ _ _ hheld _ hD).2
   omega
end
def flagOf {σ : Type} (ps : List Pk) (s : St σ) : Nat := match ps[s.next]? with | some p => (if p.tick ≤ s.now then 0 else 1) | none => 1
def leftOf {σ : Type} (ps : List Pk) (s : St σ) : Nat := 2 * (ps.length - s.out.length) + flagOf ps s
theorem flagOf_le {σ : Type} (ps : List Pk) (s : St σ) : flagOf ps s ≤ 1 := by
 unfold flagOf
 split
 · split <;> omega
 · omega
theorem left_send {σ : Type} {ps : List Pk} {s s' : St σ} (h1 : s'.out.length = s.out.length + 1) (h2 : s.out.length < ps.length) : leftOf ps s' < leftOf ps s := by
 have := flagOf_le ps s'
 unfold leftOf
 omega
theorem left_idle {σ : Type} {ps : List Pk} {s s' : St σ} (h1 : s'.out.length = s.out.length) (h2 : s'.next = s.next) (h3 : s.next < ps.length) (h4 : s.now < tickOf ps s.next) (h5 : tickOf ps s.next ≤ s'.now) : leftOf ps s' < leftOf ps s := by
 have e : ps[s.next]? = some ps[s.next] := List.getElem?_eq_getElem h3
 have f0 : flagOf ps s' = 0 := by
  unfold flagOf
  rw [h2, e]
  rw [tickOf_get e] at h5
  simp only
  rw [if_pos h5]
 have f1 : flagOf ps s = 1 := by
  unfold flagOf
  rw [e]
  rw [tickOf_get e] at h4
  simp only
  rw [if_neg (by omega)]
 unfold leftOf
 omega
end Go.Proofs.YtibhkijaafdkoaaGreatDoor
