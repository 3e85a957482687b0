/- Own facts, put together: no statement of its own. -/
import Derived.Test.YtibhkijaafdkoaaGreatDoorR20
import Derived.Test.YtibhkijaafdkoaaGreatDoorR10
import Derived.Test.YtibhkijaafdkoaaGreatDoorR05
import Derived.Deep.AppendLies
import Derived.Deep.LoopGhost
import Derived.Test.YtibhkijaafdkoaaGreatDoorR09
import Derived.Test.YtibhkijaafdkoaaGreatDoorR12
namespace Go.Proofs.YtibhkijaafdkoaaGreatDoor
open Go.RowKit
structure CameAt (w : World) (g n next : Nat) : Prop where
 cell : ∀ i, i < n → w.cell? ⟨g, i, none⟩ = some (.bool (decide (i < next)))
 frozen : ∀ i, w.frozen? ⟨g, i, none⟩ = false
 lt : g < w.heap.size
structure CredAt (w : World) (g : Nat) (cr : Nat → Int) : Prop where
 cell : ∀ f, f < 8 → w.cell? ⟨g, f, none⟩ = some (.int .i64 (cr f))
 frozen : ∀ i, w.frozen? ⟨g, i, none⟩ = false
 lt : g < w.heap.size
theorem came_made (w : World) (n : Nat) (t : TypeId) : CameAt (w.alloc (.cells (madeCells #[.bool false] n) t)) w.heap.size n 0 := by
 refine ⟨fun i hi => ?_, fun i => World.frozen?_alloc_new w _ _ i, by simp⟩
 rw [World.cell?_alloc_at _ _ _ _ rfl]
 simpa using made_get _ _ _ hi
theorem cred_made (w : World) (t : TypeId) : CredAt (w.alloc (.cells (madeCells #[.int .i64 0] 8) t)) w.heap.size (fun _ => 0) := by
 refine ⟨fun i hi => ?_, fun i => World.frozen?_alloc_new w _ _ i, by simp⟩
 rw [World.cell?_alloc_at _ _ _ _ rfl]
 exact made_get _ _ _ hi
theorem CameAt.of_block {w w' : World} {g n k : Nat} (h : CameAt w g n k) (hb : w'.heap[g]? = w.heap[g]?) (hs : w.heap.size ≤ w'.heap.size) : CameAt w' g n k :=
 ⟨fun i hi => (World.cell?_of_block (a := ⟨g, i, none⟩) hb).trans (h.cell i hi), fun i => (World.frozen?_of_block (a := ⟨g, i, none⟩) hb).trans (h.frozen i), Nat.lt_of_lt_of_le h.lt hs⟩
theorem CredAt.of_block {w w' : World} {g : Nat} {cr : Nat → Int} (h : CredAt w g cr) (hb : w'.heap[g]? = w.heap[g]?) (hs : w.heap.size ≤ w'.heap.size) : CredAt w' g cr :=
 ⟨fun i hi => (World.cell?_of_block (a := ⟨g, i, none⟩) hb).trans (h.cell i hi), fun i => (World.frozen?_of_block (a := ⟨g, i, none⟩) hb).trans (h.frozen i), Nat.lt_of_lt_of_le h.lt hs⟩
theorem CameAt.put {w : World} {g n k : Nat} (h : CameAt w g n k) (hk : k < n) : CameAt (w.setCell ⟨g, k, none⟩ (.bool true)) g n (k + 1) := by
 refine ⟨fun i hi => ?_, fun i => by rw [World.frozen?_setCell]; exact h.frozen i, by simp [World.setCell]; exact h.lt⟩
 by_cases e : k = i
 ·
  subst e
  rw [World.cell?_setCell_same' _ _ _ (by rw [h.cell k hk]; rfl)]
  simp
 ·
  rw [World.cell?_setCell_other _ _ _ _ (by intro e'; cases e'; exact e rfl), h.cell i hi]
  congr 2
  simp only [decide_eq_decide]
  omega
theorem CredAt.put {w : World} {g : Nat} {cr : Nat → Int} (h : CredAt w g cr) {f : Nat} (hf : f < 8) (x : Int) : CredAt (w.setCell ⟨g, f, none⟩ (.int .i64 x)) g (put1 cr f x) := by
 refine ⟨fun i hi => ?_, fun i => by rw [World.frozen?_setCell]; exact h.frozen i, by simp [World.setCell]; exact h.lt⟩
 by_cases e : f = i
 ·
  subst e
  rw [World.cell?_setCell_same' _ _ _ (by rw [h.cell f hf]; rfl), put1_same]
 · rw [World.cell?_setCell_other _ _ _ _ (by intro e'; cases e'; exact e rfl), h.cell i hi, put1_other _ _ (fun e' => e e'.symm)]
structure RoMem (w wr : World) (gd gc gk n : Nat) (v : Value) (out : List Sn) (next : Nat) (cr : Nat → Int) (rv : Value) (F : Nat → Prop) (row : List Nat) : Prop where
 own : OwnS wr w.heap.size v out
 done : DoneAt wr gd n out
 came : CameAt wr gc n next
 cred : CredAt wr gk cr
 row : Slides wr w.heap.size rv F row
 ne : gd ≠ gc ∧ gd ≠ gk ∧ gc ≠ gk
 vne : v.ownBlock ≠ some gd ∧ v.ownBlock ≠ some gc ∧ v.ownBlock ≠ some gk
 fne : ¬ F gd ∧ ¬ F gc ∧ ¬ F gk ∧ ∀ k, F k → v.ownBlock ≠ some k
 new : w.heap.size ≤ gd ∧ w.heap.size ≤ gc ∧ w.heap.size ≤ gk
 below : Below w.heap.size w wr
section
variable {w wr wr' : World} {gd gc gk n : Nat} {v : Value} {out : List Sn} {next : Nat} {cr : Nat → Int} {rv : Value} {F : Nat → Prop} {row : List Nat}
theorem RoMem.later (h : RoMem w wr gd gc gk n v out next cr rv F row) (hb : Below wr.heap.size wr wr') : RoMem w wr' gd gc gk n v out next cr rv F row :=
 ⟨ownsRow_of_block h.own (fun g _ hg => hb.block g hg), h.done.of_block (hb.block gd h.done.lt) hb.size, h.came.of_block (hb.block gc h.came.lt) hb.size, h.cred.of_block (hb.block gk h.cred.lt) hb.size, h.row.but (S := fun _ => False) (.ofBelow hb) (fun _ _ h => h), h.ne, h.vne, h.fne, h.new, h.below.trans (hb.mono h.below.size)⟩
theorem butOne (w : World) (g i : Nat) (v : Value) : But (fun k => k = g) w (w.setCell ⟨g, i, none⟩ v) := But.setCell (S := fun k => k = g) (But.refl _ w) (p := ⟨g, i, none⟩) rfl v
theorem size_setCell (w : World) (a : Addr) (v : Value) : (w.setCell a v).heap.size = w.heap.size := by simp [World.setCell]
theorem RoMem.setCame (h : RoMem w wr gd gc gk n v out next cr rv F row) (hn : next < n) : RoMem w (wr.setCell ⟨gc, next, none⟩ (.bool true)) gd gc gk n v out (next + 1) cr rv F row := by
 have hb := butOne wr gc next (.bool true)
 exact ⟨ownsRow_of_block h.own (fun g hg hlt => hb.block g hlt (fun e => h.vne.2.1 (by rw [← e]; exact hg))), h.done.of_block (hb.block gd h.done.lt h.ne.1) hb.size, h.came.put hn, h.cred.of_block (hb.block gk h.cred.lt (fun e => h.ne.2.2 e.symm)) hb.size, h.row.but hb (fun k hk e => h.fne.2.1 (by rw [← e]; exact hk)), h.ne, h.vne, h.fne, h.new, h.below.trans (hb.below h.below.size fun k hk => by rw [hk]; exact h.new.2.1)⟩
theorem RoMem.setCred (h : RoMem w wr gd gc gk n v out next cr rv F row) {f : Nat} (hf : f < 8) (x : Int) : RoMem w (wr.setCell ⟨gk, f, none⟩ (.int .i64 x)) gd gc gk n v out next (put1 cr f x) rv F row := by
 have hb := butOne wr gk f (.int .i64 x)
 exact ⟨ownsRow_of_block h.own (fun g hg hlt => hb.block g hlt (fun e => h.vne.2.2 (by rw [← e]; exact hg))), h.done.of_block (hb.block gd h.done.lt h.ne.2.1) hb.size, h.came.of_block (hb.block gc h.came.lt h.ne.2.2) hb.size, h.cred.put hf x, h.row.but hb (fun k hk e => h.fne.2.2.1 (by rw [← e]; exact hk)), h.ne, h.vne, h.fne, h.new, h.below.trans (hb.below h.below.size fun k hk => by rw [hk]; exact h.new.2.2)⟩
theorem RoMem.setRow (h : RoMem w wr gd gc gk n v out next cr rv F row) {w2 : World} {rv' : Value} {F' : Nat → Prop} {row' : List Nat} (hb : But F wr w2) (hs : Slides w2 w.heap.size rv' F' row') (hF : ∀ k, F' k → F k ∨ wr.heap.size ≤ k) : RoMem w w2 gd gc gk n v out next cr rv' F' row' := by
 have hne : ∀ g, g < wr.heap.size → ¬ F g → ¬ F' g := fun g hg hn h' => by
  rcases hF g h' with h1 | h1
  · exact hn h1
  · omega
 refine ⟨ownsRow_of_block h.own (fun g hg hlt => hb.block g hlt (fun e => h.fne.2.2.2 g e hg)), h.done.of_block (hb.block gd h.done.lt h.fne.1) hb.size, h.came.of_block (hb.block gc h.came.lt h.fne.2.1) hb.size, h.cred.of_block (hb.block gk h.cred.lt h.fne.2.2.1) hb.size, hs, h.ne, h.vne, ⟨hne gd h.done.lt h.fne.1, hne gc h.came.lt h.fne.2.1, hne gk h.cred.lt h.fne.2.2.1, fun k hk e => ?_⟩, h.new, h.below.trans (hb.below h.below.size fun k hk => (h.row.foot k hk).1)⟩
 have hlt := (ownsRow_lt h.own e).2
 rcases hF k hk with h1 | h1
 · exact h.fne.2.2.2 k h1 e
 · omega
theorem RoMem.setDone (h : RoMem w wr gd gc gk n v out next cr rv F row) (b : Nat) (hb : b < n) {w2 : World} {f t : Int} {g' cap : Nat} (w1 : World) (hw1 : w1 = wr.setCell ⟨gd, b, none⟩ (.bool true)) {w1' : World} (hb1 : Below w1.heap.size w1 w1')
  (h1 : w2.ownsRow w.heap.size 78 3 (.slice (some ⟨g', 0, none⟩) (out.length + 1) cap) (out.length + 1) (cellsS out ++ cellsS [⟨b, f, t⟩])) (h2 : w1'.grownBy w2 v.ownBlock) (h3 : v.ownBlock = some g' ∨ g' = w1'.heap.size) : RoMem w w2 gd gc gk n (.slice (some ⟨g', 0, none⟩) (out.length + 1) cap) (out ++ [⟨b, f, t⟩]) next cr rv F row := by
 have hbut := butOne wr gd b (.bool true)
 have hs1 : w1.heap.size = wr.heap.size := by rw [hw1]; exact size_setCell _ _ _
 have hg' : ∀ g, g < wr.heap.size → v.ownBlock ≠ some g → g' ≠ g := fun g hg hne e => by
  rcases h3 with h3 | h3
  · exact hne (by rw [h3, e])
  · have := hb1.size; omega
 have hb2 : But (fun k => v.ownBlock = some k) w1' w2 := ⟨h2.os, h2.tape, h2.output, h2.size, fun k hk hn => h2.block k hk (fun e => hn e.symm)⟩
 have hd : DoneAt w1 gd n (out ++ [⟨b, f, t⟩]) := by rw [hw1]; exact h.done.put b hb f t
 have hbw : But (fun k => k = gd) wr w1 := by rw [hw1]; exact hbut
 have hb12 : But (fun k => k = gd ∨ v.ownBlock = some k) wr w2 := ((hbw.mono fun k hk => .inl hk).trans (.ofBelow hb1)).trans (hb2.mono fun k hk => .inr hk)
 have blk : ∀ g, g < wr.heap.size → g ≠ gd → v.ownBlock ≠ some g → w2.heap[g]? = wr.heap[g]? := fun g hg h1 h2 => hb12.block g hg (fun e => by rcases e with e | e; exact h1 e; exact h2 e)
 refine ⟨?_, ?_, h.came.of_block (blk gc h.came.lt (fun e => h.ne.1 e.symm) h.vne.2.1) hb12.size, h.cred.of_block (blk gk h.cred.lt (fun e => h.ne.2.1 e.symm) h.vne.2.2) hb12.size, h.row.but hb12 (fun k hk e => ?_), h.ne, ⟨fun e => hg' gd h.done.lt h.vne.1 (Option.some.inj e), fun e => hg' gc h.came.lt h.vne.2.1 (Option.some.inj e), fun e => hg' gk h.cred.lt h.vne.2.2 (Option.some.inj e)⟩, ⟨h.fne.1, h.fne.2.1, h.fne.2.2.1, fun k hk e => hg' k (h.row.foot k hk).2 (h.fne.2.2.2 k hk) (Option.some.inj e)⟩, h.new, ?_⟩
 ·
  unfold OwnS
  rw [List.length_append, cellsS_append]
  exact h1
 ·
  have hlt : gd < w1.heap.size := by rw [hs1]; exact h.done.lt
  exact (hd.of_block (hb1.block gd hlt) hb1.size).of_block (hb2.block gd (Nat.lt_of_lt_of_le hlt hb1.size) h.vne.1) hb2.size
 ·
  rcases e with e | e
  · exact h.fne.1 (by rw [← e]; exact hk)
  · exact h.fne.2.2.2 k hk e
 ·
  refine h.below.trans (hb12.below h.below.size fun k hk => ?_)
  rcases hk with rfl | hk
  · exact h.new.1
  · exact (ownsRow_lt h.own hk).1
end
end Go.Proofs.YtibhkijaafdkoaaGreatDoor

namespace Go.Proofs.YtibhkijaafdkoaaGreatDoor
open Go.RowKit
theorem waitL_succ (ps : List Pk) (out : List Sn) (f : Nat) (now : Int) (n : Nat) : waitL ps out f now (n + 1) = waitL ps out f now n ++ if flowOf ps n = f ∧ isDone out n = false ∧ tickOf ps n ≤ now then [n] else [] := by
 unfold waitL
 rw [List.range_succ, List.filter_append]
 congr 1
 by_cases h : flowOf ps n = f ∧ isDone out n = false ∧ tickOf ps n ≤ now
 · rw [if_pos h]; simp [h.1, h.2.1, h.2.2]
 ·
  rw [if_neg h]
  simp only [List.filter_cons, List.filter_nil]
  rw [if_neg]
  intro h'
  rw [Bool.and_eq_true, Bool.and_eq_true, beq_iff_eq, Bool.not_eq_true', decide_eq_true_eq] at h'
  exact h ⟨h'.1.1, h'.1.2, h'.2⟩
theorem waitL_le (ps : List Pk) (out : List Sn) (f : Nat) (now : Int) (n : Nat) : (waitL ps out f now n).length ≤ n := by
 have := List.length_filter_le (fun i => flowOf ps i == f && !isDone out i && decide (tickOf ps i ≤ now)) (List.range n)
 rwa [List.length_range] at this
def OwnQ (w : World) (B : Nat) (v : Value) (xs : List Nat) : Prop := w.ownsRow B 3 1 v xs.length (ints (asInts xs))
set_option maxRecDepth 100000 in
set_option maxHeartbeats 4000000 in
theorem waiting_any (pa : Option Addr) (pcap : Nat) (ps : List Pk) (gd : Nat) (out : List Sn) (f : Nat) (now : Int) (w : World) (hp : LiesP w pa ps) (ho : OkPks ps) (hd : DoneAt w gd ps.length out) :
  Calls Tryz.prog 143 #[.slice pa ps.length pcap, .slice (some ⟨gd, 0, none⟩) ps.length ps.length, .int .i64 (f : Int), .int .i64 now] w fun e w' => ∃ v, e = .returned v ∧ OwnQ w' w.heap.size v (waitL ps out f now ps.length) ∧ Below w.heap.size w w' := by
 obtain ⟨i0, hi, hz0, hz1, hz2⟩ := info_parts Tryz.infoInt
 have HP : Hid (LiesP w pa ps ∧ OkPks ps) := ⟨hp, ho⟩
 have HD : Hid (DoneAt w gd ps.length out) := hd
 have hfew := ho.few
 clear hp ho hd
 obtain ⟨n, hnn⟩ : ∃ n, ps.length = n := ⟨_, rfl⟩
 have HNN : Hid (ps.length = n) := hnn
 rw [hnn] at hfew HD ⊢
 clear hnn
 go_enter Tryz.func143, Tryz.ntmps143
 go_wp2_with fail
 go_loopg [9, 10] n (fun gk v iv wr => ∃ k : Nat, gk = n - k ∧ k ≤ n ∧ iv = .int .i64 (k : Int) ∧ OwnQ wr w.heap.size v (waitL ps out f now k) ∧ Below w.heap.size w wr)
 case atStart => exact ⟨0, rfl, Nat.zero_le _, rfl, World.ownsRow_nil _ _ _ _, Below.refl _ _⟩
 case round =>
  obtain ⟨k, rfl, hkn', rfl, hown, hb⟩ := hrel
  have HO : Hid (OwnQ wr w.heap.size u9 (waitL ps out f now k) ∧ Below w.heap.size w wr) := ⟨hown, hb⟩
  have hwl := waitL_le ps out f now k
  obtain ⟨q, hq⟩ : ∃ q, waitL ps out f now k = q := ⟨_, rfl⟩
  rw [hq] at hwl
  have HQ : Hid (waitL ps out f now k = q) := hq
  have HOq : Hid (OwnQ wr w.heap.size u9 q ∧ Below w.heap.size w wr) := by rw [← hq]; exact HO.out
  clear hown hb hq
  by_cases hkn : k < n
  ·
   obtain ⟨p, hpk, -⟩ := get_some ps k (by rw [HNN.out]; exact hkn)
   obtain ⟨fl, hfl, hf, hfo⟩ := flow_at HP.out.2 hpk
   obtain ⟨b2, o2, rfl, -, hc2⟩ := HP.out.1.place (by rw [HNN.out]; omega)
   obtain ⟨tk, htk⟩ : ∃ tk, p.tick = tk := ⟨_, rfl⟩
   have e1 : wr.cell? ⟨b2, o2 + k * 3, none⟩ = some (.int .i64 fl) := by rw [← hf]; exact cell_later HO.out.2 (hc2 k _ hpk).1
   have e3 : wr.cell? ⟨b2, o2 + k * 3 + 2, none⟩ = some (.int .i64 tk) := by rw [← htk]; exact cell_later HO.out.2 (hc2 k _ hpk).2.2
   have d1 : wr.cell? ⟨gd, k, none⟩ = some (.bool (isDone out k)) := cell_later HO.out.2 (HD.out.cell k hkn)
   obtain ⟨D, hD⟩ : ∃ D, isDone out k = D := ⟨_, rfl⟩
   rw [hD] at d1
   have HW : Hid (waitL ps out f now (k + 1) = q ++ if fl = f ∧ D = false ∧ tk ≤ now then [k] else []) := by
    show _ = _
    rw [waitL_succ, HQ.out, hfo, hD, tickOf_get hpk, htk]
   clear hc2 hpk hf hfo htk hD
   by_cases hff : fl = f
   ·
    have hd0 : ((fl : Int) == (f : Int)) = true := by simp; omega
    cases D with
    | true =>
     have HN : Hid (waitL ps out f now (k + 1) = q) := by
      show _ = _
      rw [HW.out, if_neg (fun h => by cases h.2.1), List.append_nil]
     clear HW
     go_wp2_with fail
     go_roundg (n - (k + 1))
     case measure => omega
     case rel => exact ⟨k + 1, rfl, by omega, by go_num, by rw [HN.out]; exact HOq.out.1, HOq.out.2⟩
    | false =>
     by_cases htt : tk ≤ now
     ·
      have HN : Hid (waitL ps out f now (k + 1) = q ++ [k]) := by
       show _ = _
       rw [HW.out, if_pos ⟨hff, rfl, htt⟩]
      have hb0 : Below wr.heap.size wr (wr.alloc (.cells #[.int .i64 (k : Int)] 3)) := (Below.refl _ _).alloc (Nat.le_refl _) _
      have HA : Hid ((wr.alloc (.cells #[.int .i64 (k : Int)] 3)).ownsRow w.heap.size 3 1 u9 q.length (ints (asInts q))) := ownsRow_of_block HOq.out.1 (fun g' _ hg' => hb0.block g' hg')
      have HNew : Hid (∀ j u, (ints [(k : Int)])[j]? = some u → (wr.alloc (.cells #[.int .i64 (k : Int)] 3)).cell? (Addr.add ⟨wr.heap.size, 0, none⟩ j) = some u) := World.news_of_block (cs := #[.int .i64 (k : Int)]) (t := 3) (heap_alloc_new wr _)
      have HBs : Hid (w.heap.size ≤ (wr.alloc (.cells #[.int .i64 (k : Int)] 3)).heap.size ∧ Below w.heap.size w (wr.alloc (.cells #[.int .i64 (k : Int)] 3))) := ⟨Nat.le_trans HOq.out.2.size hb0.size, HOq.out.2.trans (hb0.mono HOq.out.2.size)⟩
      clear HW hff hb0
      go_wp2_with (at_builtin; go_must (refine wpList_append_lies _ rfl _ _ 23 rfl w.heap.size 3 i0 (.int .i64 0) 1 8 Tryz.underlying23 hi hz0 hz1 hz2 rfl (by decide) u9 q.length (ints (asInts q)) rfl HA.out ⟨wr.heap.size, 0, none⟩ 1 1 (ints [(k : Int)]) rfl rfl HNew.out (ints_one _) (by decide) (by unfold maxLen; omega) (by omega) HBs.out.1 _ rfl ?_; intro g5 cap5 w5 ho5 hg5 hat5 hlt5; have H5 : Hid (OwnQ w5 w.heap.size (.slice (some ⟨g5, 0, none⟩) (q.length + 1) cap5) (q ++ [k]) ∧ Below w.heap.size w w5) := ⟨(by unfold OwnQ; rw [List.length_append, asInts_snoc]; exact ho5), HBs.out.2.grown hg5 HBs.out.2.size (fun j hj => (ownsRow_lt HA.out hj).1)⟩; clear ho5 hg5 hat5 hlt5))
      go_roundg (n - (k + 1))
      case measure => omega
      case rel => exact ⟨k + 1, rfl, by omega, by go_num, by rw [HN.out]; exact H5.out.1, H5.out.2⟩
     ·
      have HN : Hid (waitL ps out f now (k + 1) = q) := by
       show _ = _
       rw [HW.out, if_neg (fun h => htt h.2.2), List.append_nil]
      clear HW
      go_wp2_with fail
      go_roundg (n - (k + 1))
      case measure => omega
      case rel => exact ⟨k + 1, rfl, by omega, by go_num, by rw [HN.out]; exact HOq.out.1, HOq.out.2⟩
   ·
    have hd0 : ((fl : Int) == (f : Int)) = false := by simp; omega
    have HN : Hid (waitL ps out f now (k + 1) = q) := by
     show _ = _
     rw [HW.out, if_neg (fun h => hff h.1), List.append_nil]
    clear HW
    go_wp2_with fail
    go_roundg (n - (k + 1))
    case measure => omega
    case rel => exact ⟨k + 1, rfl, by omega, by go_num, by rw [HN.out]; exact HOq.out.1, HOq.out.2⟩
  ·
   obtain rfl : k = n := by omega
   go_wp2_with fail
   go_ret
   exact ⟨u9, rfl, HO.out.1, HO.out.2⟩
end Go.Proofs.YtibhkijaafdkoaaGreatDoor

namespace Go.Proofs.YtibhkijaafdkoaaGreatDoor
open Go.RowKit
theorem nums_ints (xs : List Nat) : nums xs = ints (asInts xs) := by simp [nums, ints, asInts]
theorem Slides.of_own {w : World} {B e : Nat} {v : Value} {xs : List Nat} (h : w.ownsRow B e 1 v xs.length (ints (asInts xs))) : Slides w B v (fun k => v.ownBlock = some k) xs := by
 have hh := h
 obtain ⟨hlen, ⟨rfl, h0⟩ | ⟨g, cap', cur, rfl, hBg, hgc, hn, hmx, hcz, ht⟩⟩ := h
 ·
  have hx : xs = [] := List.length_eq_zero_iff.1 h0
  subst hx
  obtain ⟨ao, b, off, cap, h1, h2, h3, h4⟩ := (Slides.nil w B).made
  exact ⟨⟨ao, b, off, cap, h1, h2, h3, fun h => (h4 h).elim⟩, fun k hk => by cases hk⟩
 ·
  have hglt : g < w.heap.size := lt_of_block hgc
  refine ⟨⟨_, g, 0, cap', rfl, ⟨hn, fun _ => rfl, fun _ => hglt, by rw [nums_length, Nat.mul_one], fun j u hu => ?_, fun j hj => ?_⟩, hmx, fun _ => rfl⟩, fun i hi => ?_⟩
  ·
   rw [nums_ints] at hu
   have hl := (List.getElem?_eq_some_iff.1 hu).1
   rw [ints_length, asInts_length] at hl
   rw [Nat.zero_add, hh.cellAt _ (by omega)]
   exact hu
  ·
   have hjc : xs.length + j < cur.size := by omega
   rw [show 0 + xs.length * 1 + j = xs.length + j by omega]
   exact ⟨by rw [cell_of_row w g _ cur e (0, 0) hgc, Array.getElem?_eq_getElem hjc]; rfl, frozen_of_row w g _ cur e hgc⟩
  ·
   have e : g = i := Option.some.inj hi
   subst e
   exact ⟨hBg, hglt⟩
theorem Slides.cells {w : World} {B : Nat} {v : Value} {F : Nat → Prop} {xs : List Nat} (h : Slides w B v F xs) : ∃ ao cap, v = .slice ao xs.length cap ∧ xs.length ≤ cap ∧ cap ≤ maxLen ∧ (ao = none → xs = [] ∧ cap = 0) ∧ LiesN w ao (asInts xs) ∧ ∀ ad, ao = some ad → ∀ (j k : Nat), xs[j]? = some k → w.cell? ⟨ad.block, ad.off + j, none⟩ = some (.int .i64 (k : Int)) := by
 obtain ⟨ao, b, off, cap, rfl, hc, hm, hB⟩ := h.made
 have hle := hc.le
 have key : ∀ (j k : Nat), xs[j]? = some k → ao = some ⟨b, off, none⟩ ∧ w.cell? ⟨b, off + j, none⟩ = some (.int .i64 (k : Int)) := fun j k hj => by
  have hl := (List.getElem?_eq_some_iff.1 hj).1
  refine ⟨hc.addr (by omega), hc.olds j _ ?_⟩
  simp [nums, hj]
 refine ⟨ao, cap, rfl, hle, hm, fun e => ?_, ?_, fun ad had j k hj => ?_⟩
 ·
  have h0 : cap = 0 := by
   rcases Nat.eq_zero_or_pos cap with h0 | h0
   · exact h0
   · rw [hc.addr h0] at e; cases e
  exact ⟨List.length_eq_zero_iff.1 (by omega), h0⟩
 ·
  cases xs with
  | nil => exact .inl rfl
  | cons k r =>
   refine .inr ⟨b, off, (key 0 k rfl).1, hc.lt (by simp at hle; omega), fun i x hx => ?_⟩
   simp only [asInts, List.getElem?_map] at hx
   cases hi : (k :: r)[i]? with
   | none => rw [hi] at hx; cases hx
   | some z =>
    rw [hi] at hx
    have e : (z : Int) = x := by simpa using hx
    rw [← e]
    exact (key i z hi).2
 ·
  obtain ⟨e1, e2⟩ := key j k hj
  rw [e1] at had
  cases had
  exact e2
theorem run_append_copy {P : Program} (w : World) (t ty e : TypeId) (i : TypeInfo) (z : Value) (ht : P.underlying t = some (.slice e)) (hi : P.info? e = some i) (hz : i.zero = some z) (hsize : i.size = 1) (hby : i.bytes = 8) (hzs : z.cells.size = 1)
  (na : Option Addr) (ncap : Nat) (ns : List Int) (hl : LiesN w na ns) (hna : na = none → ns = [] ∧ ncap = 0) (hn : ns.length ≤ 1000) :
  ∃ v w', (Builtin.append_ #[t, t] ty #[.slice none 0 0, .slice na ns.length ncap]).run P w = .ok v w' ∧ w'.ownsRow w.heap.size e 1 v ns.length (ints ns) ∧ Below w.heap.size w w' := by
 cases na with
 | none =>
  obtain ⟨rfl, rfl⟩ := hna rfl
  exact ⟨_, w, run_append_owned_none (P := P) w w.heap.size t ty e i 1 ht hi (.slice none 0 0) 0 [] (World.ownsRow_nil _ _ _ _), World.ownsRow_nil _ _ _ _, Below.refl _ _⟩
 | some ad =>
  have hnews : ∀ j u, (ints ns)[j]? = some u → w.cell? (ad.add j) = some u := by
   intro j u hu
   rcases hl with rfl | ⟨b, off, e', -, hc⟩
   · simp [ints] at hu
   ·
    cases e'
    rw [Addr.add_lit]
    simp only [ints, List.getElem?_map] at hu
    cases hx : ns[j]? with
    | none => rw [hx] at hu; cases hu
    | some x =>
     rw [hx] at hu
     rw [hc j x hx]
     simpa using hu
  obtain ⟨v', w', hrun, h1, h2, h3⟩ := run_append_own (P := P) w w.heap.size t ty e i z 1 8 ht hi hz hsize hby hzs (by decide) (.slice none 0 0) 0 [] (World.ownsRow_nil _ _ _ _) ad ns.length ncap (ints ns) (by rw [ints_length, Nat.mul_one]) hnews (ints_one _) (by unfold maxLen; omega) (by omega) (Nat.le_refl _)
  rw [Nat.zero_add, List.nil_append] at h1
  exact ⟨v', w', hrun, h1, (Below.refl _ _).grown h2 (Nat.le_refl _) (fun k hk => by cases hk)⟩
theorem wpList_append_copy {P : Program} (w : World) {ops : Array Oper} {rest : List Oper} {o : Oper} {a : Act} {Q : Exit → Act → World → Prop} (hgd : o.guard = none) (s x : Operand) (t : TypeId)
  (ho : o.op = .call { callee := .builtin .append, args := #[s, x], argTypes := #[t, t] })
  (e : TypeId) (i : TypeInfo) (z : Value) (ht : P.underlying t = some (.slice e)) (hi : P.info? e = some i) (hz : i.zero = some z) (hsize : i.size = 1) (hby : i.bytes = 8) (hzs : z.cells.size = 1)
  (na : Option Addr) (ncap n : Nat) (ns : List Int) (hnn : ns.length = n) (hs : a.eval s = .slice none 0 0) (hx : a.eval x = .slice na n ncap) (hl : LiesN w na ns) (hna : na = none → ns = [] ∧ ncap = 0) (hn : n ≤ 1000)
  (hK : ∀ v w', w'.ownsRow w.heap.size e 1 v n (ints ns) ∧ Below w.heap.size w w' → wpList P ops Q rest (a.put o.dst v) w') : wpList P ops Q (o :: rest) a w := by
 subst hnn
 refine wpList_plain hgd fun K hK' => ?_
 obtain ⟨v, w', hrun, g1, g2⟩ := run_append_copy (P := P) w t o.type e i z ht hi hz hsize hby hzs na ncap ns hl hna hn
 unfold Oper.wp
 simp [execOp, ho, resolve, invoke, builtin, hs, hx, hrun, Result.andThen]
 exact hK' _ _ (hK v w' ⟨g1, g2⟩)
theorem roMem_new (w : World) (n : Nat) (t u : TypeId) : RoMem w (((w.alloc (.cells (madeCells #[.bool false] n) t)).alloc (.cells (madeCells #[.bool false] n) t)).alloc (.cells (madeCells #[.int .i64 0] 8) u)) w.heap.size (w.heap.size + 1) (w.heap.size + 2) n (.slice none 0 0) [] 0 (fun _ => 0) (.slice none 0 0) (fun _ => False) [] := by
 have s1 : (w.alloc (.cells (madeCells #[.bool false] n) t)).heap.size = w.heap.size + 1 := by simp
 have s2 : ((w.alloc (.cells (madeCells #[.bool false] n) t)).alloc (.cells (madeCells #[.bool false] n) t)).heap.size = w.heap.size + 2 := by simp
 have b1 : Below w.heap.size w (w.alloc (.cells (madeCells #[.bool false] n) t)) := (Below.refl _ _).alloc (Nat.le_refl _) _
 have b2 : Below w.heap.size w ((w.alloc (.cells (madeCells #[.bool false] n) t)).alloc (.cells (madeCells #[.bool false] n) t)) := b1.alloc b1.size _
 have b3 := b2.alloc b2.size (.cells (madeCells #[.int .i64 0] 8) u)
 have d0 := done_made w n t
 have c0 := came_made (w.alloc (.cells (madeCells #[.bool false] n) t)) n t
 have k0 := cred_made ((w.alloc (.cells (madeCells #[.bool false] n) t)).alloc (.cells (madeCells #[.bool false] n) t)) u
 rw [s1] at c0
 rw [s2] at k0
 have x1 : Below (w.alloc (.cells (madeCells #[.bool false] n) t)).heap.size (w.alloc (.cells (madeCells #[.bool false] n) t)) ((w.alloc (.cells (madeCells #[.bool false] n) t)).alloc (.cells (madeCells #[.bool false] n) t)) := (Below.refl _ _).alloc (Nat.le_refl _) _
 have x2 : Below ((w.alloc (.cells (madeCells #[.bool false] n) t)).alloc (.cells (madeCells #[.bool false] n) t)).heap.size ((w.alloc (.cells (madeCells #[.bool false] n) t)).alloc (.cells (madeCells #[.bool false] n) t)) (((w.alloc (.cells (madeCells #[.bool false] n) t)).alloc (.cells (madeCells #[.bool false] n) t)).alloc (.cells (madeCells #[.int .i64 0] 8) u)) := (Below.refl _ _).alloc (Nat.le_refl _) _
 have d1 := d0.of_block (x1.block _ d0.lt) x1.size
 exact ⟨World.ownsRow_nil _ _ _ _, d1.of_block (x2.block _ d1.lt) x2.size, c0.of_block (x2.block _ c0.lt) x2.size, k0, Slides.nil _ _, ⟨by omega, by omega, by omega⟩, ⟨(fun e => by cases e), (fun e => by cases e), (fun e => by cases e)⟩, ⟨id, id, id, fun _ h => h.elim⟩, ⟨Nat.le_refl _, by omega, by omega⟩, b3⟩
end Go.Proofs.YtibhkijaafdkoaaGreatDoor
