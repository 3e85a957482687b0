/- Own facts, put together: no statement of its own. -/
import Derived.Deep.AppendLies
import Derived.Test.YtibhkijaafdkoaaGreatDoorK17
import Derived.Test.YtibhkijaafdkoaaGreatDoorK18
import Derived.Test.YtibhkijaafdkoaaGreatDoorK11
import Derived.Test.YtibhkijaafdkoaaGreatDoorK22
import Derived.Shelf.Slices.Delete
import Derived.Deep.LoopGhost
import Derived.Test.YtibhkijaafdkoaaGreatDoorK12
namespace Go.Proofs.YtibhkijaafdkoaaGreatDoor
open Go.RowKit
theorem OwnP.mono {w : World} {B B' : Nat} {v : Value} {ps : List Pk} (h : OwnP w B v ps) (hb : B' ≤ B) : OwnP w B' v ps := ownsRow_mono h hb
theorem OwnP.later {w w' : World} {B : Nat} {v : Value} {ps : List Pk} (h : OwnP w B v ps) (hb : Below w.heap.size w w') : OwnP w' B v ps := ownsRow_of_block h fun g _ hg => hb.block g hg
theorem run_append_pks (w : World) (ty : TypeId) (B : Nat) (v : Value) (ps qs : List Pk) (xa : Option Addr) (xcap : Nat) (hown : OwnP w B v ps) (hl : LiesP w xa qs) (hxa : xa = none → qs = [] ∧ xcap = 0) (hn : ps.length + qs.length ≤ 1000) (hB : B ≤ w.heap.size) :
  ∃ v' w', (Builtin.append_ #[43, 43] ty #[v, .slice xa qs.length xcap]).run Tryz.prog w = .ok v' w' ∧ OwnP w' B v' (ps ++ qs) ∧ Below B w w' := by
 obtain ⟨i0, hi, hz0, hz1, hz2⟩ := info_parts Tryz.infoPkt
 cases xa with
 | none =>
  obtain ⟨rfl, rfl⟩ := hxa rfl
  exact ⟨v, w, run_append_owned_none (P := Tryz.prog) w B 43 ty 52 i0 3 Tryz.underlying43 hi v ps.length (cellsP ps) hown, by rw [List.append_nil]; exact hown, Below.refl _ _⟩
 | some ad =>
  obtain ⟨v', w', hrun, h1, h2, -⟩ := run_append_own (P := Tryz.prog) w B 43 ty 52 i0 (.agg #[.int .i64 0, .int .i64 0, .int .i64 0]) 3 24 Tryz.underlying43 hi hz0 hz1 hz2 rfl (by decide) v ps.length (cellsP ps) hown ad qs.length xcap (cellsP qs) (cellsP_length qs) (liesP_news hl) (cellsP_one qs) (by unfold maxLen; omega) (by omega) hB
  refine ⟨v', w', hrun, ?_, (Below.refl _ _).grown h2 hB fun k hk => (ownsRow_lt hown hk).1⟩
  unfold OwnP
  rw [List.length_append, cellsP_append]
  exact h1
theorem wpList_append_pks (w : World) {ops : Array Oper} {rest : List Oper} {o : Oper} {a : Act} {Q : Exit → Act → World → Prop} (hgd : o.guard = none) (s x : Operand)
  (ho : o.op = .call { callee := .builtin .append, args := #[s, x], argTypes := #[43, 43] })
  (B : Nat) (v : Value) (ps qs : List Pk) (xa : Option Addr) (m xcap : Nat) (hm : qs.length = m) (hs : a.eval s = v) (hx : a.eval x = .slice xa m xcap) (hown : OwnP w B v ps) (hl : LiesP w xa qs) (hxa : xa = none → qs = [] ∧ xcap = 0) (hn : ps.length + qs.length ≤ 1000) (hB : B ≤ w.heap.size)
  (hK : ∀ v' w', OwnP w' B v' (ps ++ qs) ∧ Below B w w' → wpList Tryz.prog ops Q rest (a.put o.dst v') w') : wpList Tryz.prog ops Q (o :: rest) a w := by
 subst hm
 refine wpList_plain hgd fun K hK' => ?_
 obtain ⟨v', w', hrun, g1, g2⟩ := run_append_pks w o.type B v ps qs xa xcap hown hl hxa hn hB
 unfold Oper.wp
 simp [execOp, ho, resolve, invoke, builtin, hs, hx, hrun, Result.andThen]
 exact hK' _ _ (hK v' w' ⟨g1, g2⟩)
structure Both (w : World) (B : Nat) (v1 v2 : Value) (ps : List Pk) (ns : List Int) : Prop where
 pks : OwnP w B v1 ps
 nums : w.ownsRow B 3 1 v2 ns.length (ints ns)
 apart : ∀ g, v1.ownBlock = some g → v2.ownBlock ≠ some g
theorem both_nil (w : World) (B : Nat) : Both w B (.slice none 0 0) (.slice none 0 0) [] [] := ⟨World.ownsRow_nil _ _ _ _, World.ownsRow_nil _ _ _ _, fun g h => by cases h⟩
theorem Both.later {w w' : World} {B : Nat} {v1 v2 : Value} {ps : List Pk} {ns : List Int} (h : Both w B v1 v2 ps ns) (hb : Below w.heap.size w w') : Both w' B v1 v2 ps ns := ⟨h.pks.later hb, ownsRow_of_block h.nums fun g _ hg => hb.block g hg, h.apart⟩
theorem wpList_both_num (w : World) {ops : Array Oper} {rest : List Oper} {o : Oper} {a : Act} {Q : Exit → Act → World → Prop} (hgd : o.guard = none) (s x : Operand)
  (ho : o.op = .call { callee := .builtin .append, args := #[s, x], argTypes := #[23, 23] })
  (B : Nat) (v1 v2 : Value) (ps : List Pk) (ns : List Int) (z : Int) (ad : Addr) (hs : a.eval s = v2) (hx : a.eval x = .slice (some ad) 1 1) (hown : Both w B v1 v2 ps ns) (hl : w.cell? ad = some (.int .i64 z)) (hn : ns.length ≤ 1000) (hB : B ≤ w.heap.size)
  (hK : ∀ v' w', Both w' B v1 v' ps (ns ++ [z]) ∧ Below B w w' → wpList Tryz.prog ops Q rest (a.put o.dst v') w') : wpList Tryz.prog ops Q (o :: rest) a w := by
 obtain ⟨i0, hi, hz0, hz1, hz2⟩ := info_parts Tryz.infoInt
 refine wpList_append_lies w hgd s x 23 ho B 3 i0 (.int .i64 0) 1 8 Tryz.underlying23 hi hz0 hz1 hz2 rfl (by decide) v2 ns.length (ints ns) hs hown.nums ad 1 1 (ints [z]) hx rfl ?_ (ints_one _) (by decide) (by unfold maxLen; omega) (by omega) hB _ rfl ?_
 ·
  intro j u hj
  cases j with
  | zero =>
   have : u = .int .i64 z := by simpa [ints] using hj.symm
   rw [this]
   simpa [Addr.add] using hl
  | succ j => simp [ints] at hj
 intro g cap w' h1 h2 h3 h4
 refine hK _ _ ⟨⟨?_, ?_, ?_⟩, (Below.refl _ _).grown h2 hB fun k hk => (ownsRow_lt hown.nums hk).1⟩
 ·
  exact World.ownsRow.kept hown.pks h2 (by
   cases e : v1.ownBlock with
   | none => exact .inl rfl
   | some k => exact .inr fun e' => hown.apart k e e'.symm)
 ·
  rw [List.length_append, show ints (ns ++ [z]) = ints ns ++ ints [z] by simp [ints]]
  exact h1
 ·
  intro k hk e
  obtain rfl : g = k := Option.some.inj e
  rcases h3 with h3 | h3
  · exact hown.apart g hk h3
  ·
   have := (ownsRow_lt hown.pks hk).2
   omega
theorem liesP_new (w : World) (x y z : Int) : LiesP (w.alloc (.cells #[.int .i64 x, .int .i64 y, .int .i64 z] 52)) (some ⟨w.heap.size, 0, none⟩) [⟨x, y, z⟩] := by
 refine .inr ⟨w.heap.size, 0, rfl, by simp, fun j q hj => ?_⟩
 cases j with
 | zero =>
  obtain rfl := Option.some.inj hj
  exact ⟨by simp, by simp, by simp⟩
 | succ j => simp at hj
end Go.Proofs.YtibhkijaafdkoaaGreatDoor

namespace Go.Proofs.YtibhkijaafdkoaaGreatDoor
open Go.RowKit
theorem linkCheck_ok (a : Option Addr) (cap : Nat) (ps : List Pk) (per : Int) (w : World) (hl : LiesP w a ps) (ho : OkPks ps) (h1 : 1 ≤ per) (h2 : per ≤ 1000) :
  Calls Tryz.prog 52 #[.slice a ps.length cap, .int .i64 per] w fun e w' => e = .returned .nilIface ∧ Below w.heap.size w w' := by
 have HC : Hid (Calls Tryz.prog 49 #[.slice a ps.length cap] w fun e w' => e = .returned .nilIface ∧ Below w.heap.size w w') := pcheck_ok a cap ps w hl ho
 clear hl ho
 go_enter Tryz.func52, Tryz.ntmps52
 go_wp2_with fail
 refine HC.out.mono ?_
 rintro e w1 ⟨rfl, hb⟩
 have HB : Hid (Below w.heap.size w w1) := hb
 clear hb
 go_wp2_with fail
 go_ret
 exact ⟨rfl, HB.out⟩
theorem linkCheck_err {R : TypeId → Value → World → Prop} (a : Option Addr) (n cap : Nat) (per : Int) (w : World) (h : Calls Tryz.prog 49 #[.slice a n cap] w fun e w' => ∃ ty v, e = .returned (.iface ty v) ∧ R ty v w') :
  Calls Tryz.prog 52 #[.slice a n cap, .int .i64 per] w fun e w' => ∃ ty v, e = .returned (.iface ty v) ∧ R ty v w' := by
 have HC : Hid (Calls Tryz.prog 49 #[.slice a n cap] w fun e w' => ∃ ty v, e = .returned (.iface ty v) ∧ R ty v w') := h
 clear h
 go_enter Tryz.func52, Tryz.ntmps52
 go_wp2_with fail
 refine HC.out.mono ?_
 rintro e w1 ⟨ty, v, rfl, hR⟩
 have HR : Hid (R ty v w1) := hR
 clear hR
 go_wp2_with fail
 go_ret
 exact ⟨ty, v, rfl, HR.out⟩
theorem linkCheck_per (a : Option Addr) (cap : Nat) (ps : List Pk) (per : Int) (w : World) (ad : Nat → Addr) (he : ErrsBO w ad) (hl : LiesP w a ps) (ho : OkPks ps) (h : per < 1 ∨ 1000 < per) :
  Calls Tryz.prog 52 #[.slice a ps.length cap, .int .i64 per] w fun e w' => e = .returned (.iface 271 (.pointer (some (ad 1)))) ∧ Below w.heap.size w w' := by
 have HC : Hid (Calls Tryz.prog 49 #[.slice a ps.length cap] w fun e w' => e = .returned .nilIface ∧ Below w.heap.size w w') := pcheck_ok a cap ps w hl ho
 have HE : Hid (ErrsBO w ad) := he
 clear hl ho he
 by_cases h1 : per < 1
 ·
  clear h
  go_enter Tryz.func52, Tryz.ntmps52
  go_wp2_with fail
  refine HC.out.mono ?_
  rintro e w1 ⟨rfl, hb⟩
  have c1 := cell_later hb HE.out.c1
  have HB : Hid (Below w.heap.size w w1) := hb
  clear hb
  go_wp2_with fail
  go_ret
  exact ⟨rfl, HB.out⟩
 ·
  have h2 : 1000 < per := by omega
  clear h
  go_enter Tryz.func52, Tryz.ntmps52
  go_wp2_with fail
  refine HC.out.mono ?_
  rintro e w1 ⟨rfl, hb⟩
  have c1 := cell_later hb HE.out.c1
  have HB : Hid (Below w.heap.size w w1) := hb
  clear hb
  go_wp2_with fail
  go_ret
  exact ⟨rfl, HB.out⟩
set_option maxHeartbeats 1000000 in
theorem sendOne_ok (a : Option Addr) (cap : Nat) (ps : List Pk) (per now : Int) (k : Nat) (p : Pk) (w : World) (hl : LiesP w a ps) (hn : ps.length ≤ 300) (hk : ps[k]? = some p) (hp : okPk p = true) (h1 : 1 ≤ per) (h2 : per ≤ 1000) (n0 : 0 ≤ now) (n1 : now ≤ 1100000000000000) :
  Calls Tryz.prog 99 #[.slice a ps.length cap, .int .i64 per, .int .i64 k, .int .i64 now] w fun e w' => e = .returned (.agg #[.int .i64 k, .int .i64 now, .int .i64 (now + per * p.size)]) ∧ Below w.heap.size w w' := by
 have hkl := lt_of_get hk
 obtain ⟨b, off, rfl, hlt, hc⟩ := hl.place (by omega)
 have c1 := (hc k p hk).2.1
 obtain ⟨-, -, s1, s2, -, -⟩ := okPk_true hp
 have a1 : 0 ≤ per * p.size := Int.mul_nonneg (by omega) (by omega)
 have a2 : per * p.size ≤ 1000 * 1500 := Int.mul_le_mul (by omega) s2 (by omega) (by omega)
 have c1' : (w.alloc (.cells #[.int .i64 0, .int .i64 0, .int .i64 0] 78)).cell? ⟨b, off + k * 3 + 1, none⟩ = some (.int .i64 p.size) := cell_later ((Below.refl _ _).alloc (Nat.le_refl _) _) c1
 generalize p.size = y at *
 generalize hm : per * y = m at *
 have HM : Hid (per * y = m) := hm
 have hw : IntKind.i64.wrap (per * y) = m := by rw [hm]; exact IntWalk.i64_in (by omega) (by omega)
 clear hl hc hp hk hm
 go_enter Tryz.func99, Tryz.ntmps99
 go_wp2_with fail
 exact bodyPost_ret (v := .agg #[.int .i64 k, .int .i64 now, .int .i64 (now + m)]) (by simp [results, Tryz.results99, go_sem]) rfl ⟨rfl, (Below.refl _ _).alloc (Nat.le_refl _) _⟩
end Go.Proofs.YtibhkijaafdkoaaGreatDoor

namespace Go.Proofs.YtibhkijaafdkoaaGreatDoor
open Go.RowKit
theorem LiesP.bel {w w' : World} {B : Nat} {a : Option Addr} {ps : List Pk} (h : LiesP w a ps) (ha : ∀ ad, a = some ad → 0 < ps.length → ad.block < B) (hb : Below B w w') : LiesP w' a ps := by
 rcases h with rfl | ⟨b, off, rfl, hlt, hc⟩
 · exact .inl rfl
 ·
  by_cases h0 : 0 < ps.length
  ·
   have hB : b < B := ha ⟨b, off, none⟩ rfl h0
   refine .inr ⟨b, off, rfl, Nat.lt_of_lt_of_le hlt hb.size, fun i p hi => ?_⟩
   have := hc i p hi
   exact ⟨by rw [hb.cell (p := ⟨b, off + i * 3, none⟩) hB]; exact this.1, by rw [hb.cell (p := ⟨b, off + i * 3 + 1, none⟩) hB]; exact this.2.1, by rw [hb.cell (p := ⟨b, off + i * 3 + 2, none⟩) hB]; exact this.2.2⟩
  · exact .inl (List.length_eq_zero_iff.1 (by omega))
structure QueMem {σ : Type} (Held : World → (Nat → Prop) → σ → Prop) (B : Nat) : Prop where
 foot : ∀ w D q, Held w D q → ∀ k, D k → B ≤ k ∧ k < w.heap.size
 but : ∀ (S : Nat → Prop) w w' D q, Held w D q → But S w w' → (∀ k, D k → ¬ S k) → (∀ k, S k → B ≤ k) → Held w' D q
def QueLeft {σ : Type} (Held : World → (Nat → Prop) → σ → Prop) (w w' : World) (D : Nat → Prop) (q : σ) : Prop := ∃ D', Held w' D' q ∧ But D w w' ∧ ∀ k, D' k → D k ∨ w.heap.size ≤ k
structure SendAt {σ : Type} (Q : Que σ) (Held : World → (Nat → Prop) → σ → Prop) (per : Int) (ps : List Pk) (q0 : σ) (B : Nat) (w wr : World) (v : Value) (s : St σ) (D : Nat → Prop) : Prop where
 reach : Reaches Q per ps q0 s
 own : OwnS wr w.heap.size v s.out
 held : Held wr D s.q
 apart : ∀ g, v.ownBlock = some g → ¬ D g
 below : Below B w wr
section
variable {σ : Type} {Q : Que σ} {Held : World → (Nat → Prop) → σ → Prop} {per : Int} {ps : List Pk} {q0 : σ} {B : Nat} {w wr wr' : World} {v : Value} {s s' : St σ} {D : Nat → Prop}
theorem SendAt.later (hm : QueMem Held B) (h : SendAt Q Held per ps q0 B w wr v s D) (hB : B ≤ w.heap.size) (hb : Below wr.heap.size wr wr') : SendAt Q Held per ps q0 B w wr' v s D :=
 ⟨h.reach, ownsRow_of_block h.own (fun g _ hg => hb.block g hg), hm.but (fun _ => False) _ _ _ _ h.held (.ofBelow hb) (fun _ _ h => h) (fun _ h => h.elim), h.apart, h.below.trans (hb.mono (Nat.le_trans hB h.below.size))⟩
theorem SendAt.called (hm : QueMem Held B) (h : SendAt Q Held per ps q0 B w wr v s D) (hB : B ≤ w.heap.size) (hq : QueLeft Held wr wr' D s'.q) (hr : Reaches Q per ps q0 s') (ho : s'.out = s.out) : ∃ D', SendAt Q Held per ps q0 B w wr' v s' D' := by
 obtain ⟨D', h1, h2, h3⟩ := hq
 refine ⟨D', hr, by rw [ho]; exact ownsRow_of_block h.own (fun g hv hg => h2.block g hg (h.apart g hv)), h1, fun g hg hD => ?_, h.below.trans (h2.below (Nat.le_trans hB h.below.size) (fun k hk => (hm.foot _ _ _ h.held k hk).1))⟩
 rcases h3 g hD with h' | h'
 · exact h.apart g hg h'
 ·
  have := (ownsRow_lt h.own hg).2
  omega
theorem SendAt.parts (hm : QueMem Held B) (h : SendAt Q Held per ps q0 B w wr v s D) (hB : B ≤ w.heap.size) {q : σ} (hq : QueLeft Held wr wr' D q) :
  ∃ D', OwnS wr' w.heap.size v s.out ∧ Held wr' D' q ∧ (∀ g, v.ownBlock = some g → ¬ D' g) ∧ Below B w wr' := by
 obtain ⟨D', h1, h2, h3⟩ := hq
 refine ⟨D', ownsRow_of_block h.own (fun g hv hg => h2.block g hg (h.apart g hv)), h1, fun g hg hD => ?_, h.below.trans (h2.below (Nat.le_trans hB h.below.size) (fun k hk => (hm.foot _ _ _ h.held k hk).1))⟩
 rcases h3 g hD with h' | h'
 · exact h.apart g hg h'
 ·
  have := (ownsRow_lt h.own hg).2
  omega
structure SendMid (Held : World → (Nat → Prop) → σ → Prop) (B : Nat) (w wr : World) (v : Value) (out : List Sn) (q : σ) (D : Nat → Prop) : Prop where
 own : OwnS wr w.heap.size v out
 held : Held wr D q
 apart : ∀ g, v.ownBlock = some g → ¬ D g
 below : Below B w wr
theorem SendMid.later {out : List Sn} {q : σ} (hm : QueMem Held B) (h : SendMid Held B w wr v out q D) (hB : B ≤ w.heap.size) (hb : Below wr.heap.size wr wr') : SendMid Held B w wr' v out q D :=
 ⟨ownsRow_of_block h.own (fun g _ hg => hb.block g hg), hm.but (fun _ => False) _ _ _ _ h.held (.ofBelow hb) (fun _ _ h => h) (fun _ h => h.elim), h.apart, h.below.trans (hb.mono (Nat.le_trans hB h.below.size))⟩
theorem SendAt.grown (hm : QueMem Held B) (hB : B ≤ w.heap.size) {x : Sn} {q : σ} {g cap : Nat} {w1 w2 : World} {out : List Sn} (hmid : SendMid Held B w w1 v out q D)
  (h1 : w2.ownsRow w.heap.size 78 3 (.slice (some ⟨g, 0, none⟩) (out.length + 1) cap) (out.length + 1) (cellsS out ++ cellsS [x])) (h2 : w1.grownBy w2 v.ownBlock) (h3 : v.ownBlock = some g ∨ g = w1.heap.size) (s' : St σ) (hr : Reaches Q per ps q0 s') (ho : s'.out = out ++ [x]) (hq : s'.q = q) :
  SendAt Q Held per ps q0 B w w2 (.slice (some ⟨g, 0, none⟩) (out.length + 1) cap) s' D := by
 obtain ⟨hown, hheld, hap, hbel⟩ := hmid
 have hb : But (fun k => v.ownBlock = some k) w1 w2 := ⟨h2.os, h2.tape, h2.output, h2.size, fun k hk hn => h2.block k hk (fun e => hn e.symm)⟩
 refine ⟨hr, ?_, by rw [hq]; exact hm.but _ _ _ _ _ hheld hb (fun k hk hv => hap k hv hk) (fun k hk => Nat.le_trans hB (ownsRow_lt hown hk).1), fun g' hg' hD => ?_, hbel.trans (hb.below (Nat.le_trans hB hbel.size) fun k hk => Nat.le_trans hB (ownsRow_lt hown hk).1)⟩
 ·
  rw [ho]
  unfold OwnS
  rw [List.length_append, cellsS_append]
  exact h1
 ·
  have e : g = g' := Option.some.inj hg'
  subst e
  rcases h3 with h3 | h3
  · exact hap _ h3 hD
  ·
   have := (hm.foot _ _ _ hheld _ hD).2
   omega
end
def flagOf {σ : Type} (ps : List Pk) (s : St σ) : Nat := match ps[s.next]? with | some p => (if p.tick ≤ s.now then 0 else 1) | none => 1
def leftOf {σ : Type} (ps : List Pk) (s : St σ) : Nat := 2 * (ps.length - s.out.length) + flagOf ps s
theorem flagOf_le {σ : Type} (ps : List Pk) (s : St σ) : flagOf ps s ≤ 1 := by
 unfold flagOf
 split
 · split <;> omega
 · omega
theorem left_send {σ : Type} {ps : List Pk} {s s' : St σ} (h1 : s'.out.length = s.out.length + 1) (h2 : s.out.length < ps.length) : leftOf ps s' < leftOf ps s := by
 have := flagOf_le ps s'
 unfold leftOf
 omega
theorem left_idle {σ : Type} {ps : List Pk} {s s' : St σ} (h1 : s'.out.length = s.out.length) (h2 : s'.next = s.next) (h3 : s.next < ps.length) (h4 : s.now < tickOf ps s.next) (h5 : tickOf ps s.next ≤ s'.now) : leftOf ps s' < leftOf ps s := by
 have e : ps[s.next]? = some ps[s.next] := List.getElem?_eq_getElem h3
 have f0 : flagOf ps s' = 0 := by
  unfold flagOf
  rw [h2, e]
  rw [tickOf_get e] at h5
  simp only
  rw [if_pos h5]
 have f1 : flagOf ps s = 1 := by
  unfold flagOf
  rw [e]
  rw [tickOf_get e] at h4
  simp only
  rw [if_neg (by omega)]
 unfold leftOf
 omega
end Go.Proofs.YtibhkijaafdkoaaGreatDoor

namespace Go.Proofs.YtibhkijaafdkoaaGreatDoor
open Go.RowKit
def delRen : Go.Shelf.Ren where
 f := fun _ => 165
 t := fun k => match k with | 0 => 0 | 3 => 3 | 4 => 4 | _ => 23
 g := fun k => k
theorem delLays : Go.Proofs.Lays2.n23 Tryz.prog delRen where
 mixed := by kernel_rfl
 f23 := by kernel_rfl
 t0 := by kernel_rfl
 a0 := fun w => by kernel_rfl
 z0 := fun w => by kernel_rfl
 v0 := fun w => by kernel_rfl
 t3 := by kernel_rfl
 a3 := fun w => by kernel_rfl
 z3 := fun w => by kernel_rfl
 v3 := fun w => by kernel_rfl
 t4 := by kernel_rfl
 a4 := fun w => by kernel_rfl
 z4 := fun w => by kernel_rfl
 v4 := fun w => by kernel_rfl
 t22 := by kernel_rfl
 a22 := fun w => by kernel_rfl
 z22 := fun w => by kernel_rfl
 v22 := fun w => by kernel_rfl
 i3 := by kernel_rfl
theorem delete_one (B g cap i : Nat) (zs : List Int) (w : World) (h : w.ownsRow B 3 1 (.slice (some ⟨g, 0, none⟩) zs.length cap) zs.length (ints zs)) (hi : i < zs.length) (hcap : zs.length ≤ cap) (hm : cap ≤ maxLen) :
  Calls Tryz.prog 165 #[.slice (some ⟨g, 0, none⟩) zs.length cap, .int .i64 (i : Int), .int .i64 ((i : Int) + 1)] w fun e w' => e = .returned (.slice (some ⟨g, 0, none⟩) (zs.length - 1) cap) ∧ w'.ownsRow B 3 1 (.slice (some ⟨g, 0, none⟩) (zs.length - 1) cap) (zs.length - 1) (ints (zs.eraseIdx i)) ∧ But (fun k => k = g) w w' := by
 have hd := Any.slices_Delete_int delLays g 0 cap i (i + 1) zs w (holds_of_own h) hcap (by unfold maxLen at hm; omega) (by omega) (by omega)
 refine hd.mono ?_
 rintro e w' ⟨rfl, q, rfl⟩
 exact ⟨by rw [show i + 1 - i = 1 by omega], own_deleted h i q hi⟩
end Go.Proofs.YtibhkijaafdkoaaGreatDoor

namespace Go.Proofs.YtibhkijaafdkoaaGreatDoor
open Go.RowKit
def asInts (q : List Nat) : List Int := q.map fun (k : Nat) => (k : Int)
theorem asInts_length (q : List Nat) : (asInts q).length = q.length := by simp [asInts]
theorem asInts_get {q : List Nat} {j k : Nat} (h : q[j]? = some k) : (asInts q)[j]? = some (k : Int) := by simp [asInts, h]
theorem asInts_snoc (q : List Nat) (k : Nat) : ints (asInts (q ++ [k])) = ints (asInts q) ++ [.int .i64 (k : Int)] := by simp [asInts, ints]
theorem asInts_more (L : List Nat) (i : Nat) : asInts (L ++ [i]) = asInts L ++ [(i : Int)] := by simp [asInts]
theorem asInts_erase (q : List Nat) (i : Nat) : (asInts q).eraseIdx i = asInts (q.eraseIdx i) := by
 simp only [asInts, List.eraseIdx_eq_take_drop_succ, List.map_append, List.map_take, List.map_drop]
structure HeldR (B : Nat) (W0 : World) (g gm : Nat) (mv : Value) (w : World) (D : Nat → Prop) (q : List Nat) : Prop where
 env : Below B W0 w
 row : ∃ v, w.heap[g]? = some (.cells #[v] 23 (0, 0)) ∧ w.ownsRow B 3 1 v q.length (ints (asInts q)) ∧ v.ownBlock ≠ some g ∧ v.ownBlock ≠ some gm ∧ (∀ k, D k ↔ k = g ∨ k = gm ∨ v.ownBlock = some k)
 mea : w.heap[gm]? = some (.cells #[mv] 199 (0, 0))
 apart : g ≠ gm ∧ B ≤ g ∧ B ≤ gm
section
variable {B : Nat} {W0 : World} {g gm : Nat} {mv : Value} {w w' : World} {D : Nat → Prop} {q : List Nat}
theorem HeldR.foot (h : HeldR B W0 g gm mv w D q) : ∀ k, D k → B ≤ k ∧ k < w.heap.size := by
 obtain ⟨v, h1, h2, -, -, h5⟩ := h.row
 intro k hk
 rcases (h5 k).1 hk with rfl | rfl | hk
 · exact ⟨h.apart.2.1, lt_of_block h1⟩
 · exact ⟨h.apart.2.2, lt_of_block h.mea⟩
 · exact ownsRow_lt h2 hk
theorem HeldR.but {S : Nat → Prop} (h : HeldR B W0 g gm mv w D q) (hb : But S w w') (hs : ∀ k, D k → ¬ S k) (hB : ∀ k, S k → B ≤ k) : HeldR B W0 g gm mv w' D q := by
 obtain ⟨v, h1, h2, h3, h4, h5⟩ := h.row
 have hsz : B ≤ w.heap.size := Nat.le_trans h.apart.2.1 (Nat.le_of_lt (lt_of_block h1))
 exact ⟨h.env.trans (hb.below hsz hB), ⟨v, (hb.block g (lt_of_block h1) (hs g ((h5 g).2 (.inl rfl)))).trans h1, ownsRow_of_block h2 (fun k hv hk => hb.block k hk (hs k ((h5 k).2 (.inr (.inr hv))))), h3, h4, h5⟩, (hb.block gm (lt_of_block h.mea) (hs gm ((h5 gm).2 (.inr (.inl rfl))))).trans h.mea, h.apart⟩
theorem HeldR.later (h : HeldR B W0 g gm mv w D q) (hb : Below w.heap.size w w') : HeldR B W0 g gm mv w' D q :=
 h.but (S := fun _ => False) (.ofBelow hb) (fun _ _ h => h) (fun _ h => h.elim)
theorem HeldR.alloc (h : HeldR B W0 g gm mv w D q) (o : Obj) : HeldR B W0 g gm mv (w.alloc o) D q := h.later ((Below.refl _ _).alloc (Nat.le_refl _) _)
theorem HeldR.stored {v v' : Value} {w1 w2 : World} {q' : List Nat} (h : HeldR B W0 g gm mv w D q) (hv : w.heap[g]? = some (.cells #[v] 23 (0, 0))) (hb1 : Below w.heap.size w w1) (hbut : But (fun k => v.ownBlock = some k) w1 w2)
  (hown : w2.ownsRow B 3 1 v' q'.length (ints (asInts q'))) (hnew : ∀ k, v'.ownBlock = some k → v.ownBlock = some k ∨ w1.heap.size ≤ k) :
  QueLeft (HeldR B W0 g gm mv) w (w2.setCell ⟨g, 0, none⟩ v') D q' := by
 obtain ⟨u, h1, h2, h3, h4, h5⟩ := h.row
 have e : u = v := by
  rw [hv] at h1
  injection h1 with h1
  injection h1 with h1
  simp at h1
  exact h1.symm
 subst e
 have hgl := lt_of_block h1
 have hml := lt_of_block h.mea
 have hsz : B ≤ w.heap.size := Nat.le_trans h.apart.2.1 (Nat.le_of_lt hgl)
 have hs1 := hb1.size
 have hg2 : w2.heap[g]? = some (.cells #[u] 23 (0, 0)) := (hbut.block g (by omega) h3).trans ((hb1.block g hgl).trans h1)
 have hm2 : w2.heap[gm]? = some (.cells #[mv] 199 (0, 0)) := (hbut.block gm (by omega) h4).trans ((hb1.block gm hml).trans h.mea)
 have hb2 : But (fun k => k = g) w2 (w2.setCell ⟨g, 0, none⟩ v') := But.setCell (S := fun k => k = g) (But.refl _ w2) (p := ⟨g, 0, none⟩) rfl v'
 have hvg : v'.ownBlock ≠ some g := fun e => by
  rcases hnew g e with h' | h'
  · exact h3 h'
  · omega
 have hvm : v'.ownBlock ≠ some gm := fun e => by
  rcases hnew gm e with h' | h'
  · exact h4 h'
  · omega
 have hall : But D w (w2.setCell ⟨g, 0, none⟩ v') := ((But.ofBelow hb1).trans (hbut.mono fun k hk => (h5 k).2 (.inr (.inr hk)))).trans (hb2.mono fun k hk => (h5 k).2 (.inl hk))
 refine ⟨fun k => k = g ∨ k = gm ∨ v'.ownBlock = some k, ⟨h.env.trans (hall.below hsz fun k hk => (h.foot k hk).1), ⟨v', one_setCell hg2, ownsRow_of_block hown (fun k hv' hk => hb2.block k hk (fun e => hvg (by rw [← e]; exact hv'))), hvg, hvm, fun k => Iff.rfl⟩, (hb2.block gm (lt_of_block hm2) (fun e => h.apart.1 e.symm)).trans hm2, h.apart⟩, hall, fun k hk => ?_⟩
 rcases hk with rfl | rfl | hk
 · exact .inl ((h5 _).2 (.inl rfl))
 · exact .inl ((h5 _).2 (.inr (.inl rfl)))
 ·
  rcases hnew k hk with h' | h'
  · exact .inl ((h5 k).2 (.inr (.inr h')))
  · exact .inr (by omega)
theorem HeldR.same (h : HeldR B W0 g gm mv w D q) (hb : Below w.heap.size w w') : QueLeft (HeldR B W0 g gm mv) w w' D q := ⟨D, h.later hb, .ofBelow hb, fun _ hk => .inl hk⟩
theorem QueLeft.after {σ : Type} {Held : World → (Nat → Prop) → σ → Prop} {w w1 w' : World} {D : Nat → Prop} {q : σ} (hb : Below w.heap.size w w1) (h : QueLeft Held w1 w' D q) : QueLeft Held w w' D q := by
 obtain ⟨D', h1, h2, h3⟩ := h
 refine ⟨D', h1, (But.ofBelow hb).trans h2, fun k hk => ?_⟩
 rcases h3 k hk with h | h
 · exact .inl h
 · exact .inr (Nat.le_trans hb.size h)
end
theorem rankMem (B : Nat) (W0 : World) (g gm : Nat) (mv : Value) : QueMem (HeldR B W0 g gm mv) B := ⟨fun _ _ _ h => h.foot, fun _ _ _ _ _ h hb hs hB => h.but hb hs hB⟩
set_option maxRecDepth 100000 in
set_option maxHeartbeats 1000000 in
theorem rankCome (B : Nat) (W0 : World) (g gm : Nat) (mv : Value) (D : Nat → Prop) (q : List Nat) (k : Nat) (w : World) (h : HeldR B W0 g gm mv w D q) (hn : q.length ≤ 1000) :
  Calls Tryz.prog 157 #[.int .i64 (k : Int), .pointer (some ⟨g, 0, none⟩)] w fun e w' => e = .returned (.tuple #[]) ∧ QueLeft (HeldR B W0 g gm mv) w w' D (q ++ [k]) := by
 obtain ⟨i0, hi, hz0, hz1, hz2⟩ := info_parts Tryz.infoInt
 have HH : Hid (HeldR B W0 g gm mv w D q) := h
 obtain ⟨v, h1, h2, h3, h4, h5⟩ := h.row
 have hgl := lt_of_block h1
 have c0 := cell_of_one h1
 have H1 : Hid (w.heap[g]? = some (.cells #[v] 23 (0, 0)) ∧ v.ownBlock ≠ some g ∧ B ≤ w.heap.size) := ⟨h1, h3, Nat.le_trans h.apart.2.1 (Nat.le_of_lt hgl)⟩
 have hb0 : Below w.heap.size w (w.alloc (.cells #[.int .i64 (k : Int)] 3)) := (Below.refl _ _).alloc (Nat.le_refl _) _
 have H2 : Hid ((w.alloc (.cells #[.int .i64 (k : Int)] 3)).ownsRow B 3 1 v q.length (ints (asInts q))) := ownsRow_of_block h2 (fun g' _ hg' => hb0.block g' hg')
 have HNew : Hid (∀ j u, (ints [(k : Int)])[j]? = some u → (w.alloc (.cells #[.int .i64 (k : Int)] 3)).cell? (Addr.add ⟨w.heap.size, 0, none⟩ j) = some u) := by
  intro j u hu
  cases j with
  | zero => simp [ints] at hu; subst hu; simp [Addr.add]
  | succ j => simp [ints] at hu
 have HBs : Hid (B ≤ (w.alloc (.cells #[.int .i64 (k : Int)] 3)).heap.size) := Nat.le_trans H1.out.2.2 hb0.size
 clear h1 h2 h3 h4 h5 h hb0
 go_enter Tryz.func157, Tryz.ntmps157
 go_wp2_with (at_builtin; go_must (refine wpList_append_lies _ rfl _ _ 23 rfl B 3 i0 (.int .i64 0) 1 8 Tryz.underlying23 hi hz0 hz1 hz2 rfl (by decide) v q.length (ints (asInts q)) rfl H2.out ⟨w.heap.size, 0, none⟩ 1 1 (ints [(k : Int)]) rfl rfl HNew.out (ints_one _) (by decide) (by unfold maxLen; omega) (by omega) HBs.out _ rfl ?_; intro g5 cap5 w5 ho5 hg5 hat5 hlt5; have hbut : But (fun k => v.ownBlock = some k) (w.alloc (.cells #[.int .i64 (k : Int)] 3)) w5 := ⟨hg5.os, hg5.tape, hg5.output, hg5.size, fun k hk hn => hg5.block k hk (fun e => hn e.symm)⟩; have hgb : w5.heap[g]? = some (.cells #[v] 23 (0, 0)) := (hbut.block g (by simp; omega) H1.out.2.1).trans ((Below.heap_alloc w _ g hgl).trans H1.out.1); have c5 := cell_of_one hgb; have f5 := free_of_one hgb; have H5 : Hid (w5.ownsRow B 3 1 (.slice (some ⟨g5, 0, none⟩) (q.length + 1) cap5) (q.length + 1) (ints (asInts q) ++ ints [(k : Int)]) ∧ But (fun k => v.ownBlock = some k) (w.alloc (.cells #[.int .i64 (k : Int)] 3)) w5 ∧ (v.ownBlock = some g5 ∨ g5 = (w.alloc (.cells #[.int .i64 (k : Int)] 3)).heap.size)) := ⟨ho5, hbut, hat5⟩; clear ho5 hg5 hat5 hlt5 hbut hgb))
 go_end0
 refine ⟨rfl, HH.out.stored H1.out.1 ((Below.refl _ _).alloc (Nat.le_refl _) _) H5.out.2.1 ?_ ?_⟩
 ·
  rw [asInts_snoc, List.length_append]
  exact H5.out.1
 ·
  intro j hj
  have e : g5 = j := Option.some.inj hj
  rcases H5.out.2.2 with h | h
  · exact .inl (by rw [← e]; exact h)
  · exact .inr (by rw [← e, h]; exact Nat.le_refl _)
end Go.Proofs.YtibhkijaafdkoaaGreatDoor
