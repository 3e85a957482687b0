/- Own facts, put together: no statement of its own. -/
import Derived.Shelf.Slices.Delete
import Derived.Deep.LoopGhost
import Derived.Test.YtibhkijaafdkoaaGreatDoorQ17
import Derived.Test.YtibhkijaafdkoaaGreatDoorQ15
import Derived.Test.YtibhkijaafdkoaaGreatDoorQ05
namespace Go.Proofs.YtibhkijaafdkoaaGreatDoor
open Go.RowKit
def delRen : Go.Shelf.Ren where
 f := fun _ => 165
 t := fun k => match k with | 0 => 0 | 3 => 3 | 4 => 4 | _ => 23
 g := fun k => k
theorem delLays : Go.Proofs.Lays2.n23 Tryz.prog delRen where
 mixed := by kernel_rfl
 f23 := by kernel_rfl
 t0 := by kernel_rfl
 a0 := fun w => by kernel_rfl
 z0 := fun w => by kernel_rfl
 v0 := fun w => by kernel_rfl
 t3 := by kernel_rfl
 a3 := fun w => by kernel_rfl
 z3 := fun w => by kernel_rfl
 v3 := fun w => by kernel_rfl
 t4 := by kernel_rfl
 a4 := fun w => by kernel_rfl
 z4 := fun w => by kernel_rfl
 v4 := fun w => by kernel_rfl
 t22 := by kernel_rfl
 a22 := fun w => by kernel_rfl
 z22 := fun w => by kernel_rfl
 v22 := fun w => by kernel_rfl
 i3 := by kernel_rfl
theorem delete_one (B g cap i : Nat) (zs : List Int) (w : World) (h : w.ownsRow B 3 1 (.slice (some ⟨g, 0, none⟩) zs.length cap) zs.length (ints zs)) (hi : i < zs.length) (hcap : zs.length ≤ cap) (hm : cap ≤ maxLen) :
  Calls Tryz.prog 165 #[.slice (some ⟨g, 0, none⟩) zs.length cap, .int .i64 (i : Int), .int .i64 ((i : Int) + 1)] w fun e w' => e = .returned (.slice (some ⟨g, 0, none⟩) (zs.length - 1) cap) ∧ w'.ownsRow B 3 1 (.slice (some ⟨g, 0, none⟩) (zs.length - 1) cap) (zs.length - 1) (ints (zs.eraseIdx i)) ∧ But (fun k => k = g) w w' := by
 have hd := Any.slices_Delete_int delLays g 0 cap i (i + 1) zs w (holds_of_own h) hcap (by unfold maxLen at hm; omega) (by omega) (by omega)
 refine hd.mono ?_
 rintro e w' ⟨rfl, q, rfl⟩
 exact ⟨by rw [show i + 1 - i = 1 by omega], own_deleted h i q hi⟩
end Go.Proofs.YtibhkijaafdkoaaGreatDoor

namespace Go.Proofs.YtibhkijaafdkoaaGreatDoor
open Go.RowKit
def asInts (q : List Nat) : List Int := q.map fun (k : Nat) => (k : Int)
theorem asInts_length (q : List Nat) : (asInts q).length = q.length := by simp [asInts]
theorem asInts_get {q : List Nat} {j k : Nat} (h : q[j]? = some k) : (asInts q)[j]? = some (k : Int) := by simp [asInts, h]
theorem asInts_snoc (q : List Nat) (k : Nat) : ints (asInts (q ++ [k])) = ints (asInts q) ++ [.int .i64 (k : Int)] := by simp [asInts, ints]
theorem asInts_more (L : List Nat) (i : Nat) : asInts (L ++ [i]) = asInts L ++ [(i : Int)] := by simp [asInts]
theorem asInts_erase (q : List Nat) (i : Nat) : (asInts q).eraseIdx i = asInts (q.eraseIdx i) := by
 simp only [asInts, List.eraseIdx_eq_take_drop_succ, List.map_append, List.map_take, List.map_drop]
structure HeldR (B : Nat) (W0 : World) (g gm : Nat) (mv : Value) (w : World) (D : Nat → Prop) (q : List Nat) : Prop where
 env : Below B W0 w
 row : ∃ v, w.heap[g]? = some (.cells #[v] 23 (0, 0)) ∧ w.ownsRow B 3 1 v q.length (ints (asInts q)) ∧ v.ownBlock ≠ some g ∧ v.ownBlock ≠ some gm ∧ (∀ k, D k ↔ k = g ∨ k = gm ∨ v.ownBlock = some k)
 mea : w.heap[gm]? = some (.cells #[mv] 199 (0, 0))
 apart : g ≠ gm ∧ B ≤ g ∧ B ≤ gm
section
variable {B : Nat} {W0 : World} {g gm : Nat} {mv : Value} {w w' : World} {D : Nat → Prop} {q : List Nat}
theorem HeldR.foot (h : HeldR B W0 g gm mv w D q) : ∀ k, D k → B ≤ k ∧ k < w.heap.size := by
 obtain ⟨v, h1, h2, -, -, h5⟩ := h.row
 intro k hk
 rcases (h5 k).1 hk with rfl | rfl | hk
 · exact ⟨h.apart.2.1, lt_of_block h1⟩
 · exact ⟨h.apart.2.2, lt_of_block h.mea⟩
 · exact ownsRow_lt h2 hk
theorem HeldR.but {S : Nat → Prop} (h : HeldR B W0 g gm mv w D q) (hb : But S w w') (hs : ∀ k, D k → ¬ S k) (hB : ∀ k, S k → B ≤ k) : HeldR B W0 g gm mv w' D q := by
 obtain ⟨v, h1, h2, h3, h4, h5⟩ := h.row
 have hsz : B ≤ w.heap.size := Nat.le_trans h.apart.2.1 (Nat.le_of_lt (lt_of_block h1))
 exact ⟨h.env.trans (hb.below hsz hB), ⟨v, (hb.block g (lt_of_block h1) (hs g ((h5 g).2 (.inl rfl)))).trans h1, ownsRow_of_block h2 (fun k hv hk => hb.block k hk (hs k ((h5 k).2 (.inr (.inr hv))))), h3, h4, h5⟩, (hb.block gm (lt_of_block h.mea) (hs gm ((h5 gm).2 (.inr (.inl rfl))))).trans h.mea, h.apart⟩
theorem HeldR.later (h : HeldR B W0 g gm mv w D q) (hb : Below w.heap.size w w') : HeldR B W0 g gm mv w' D q :=
 h.but (S := fun _ => False) (.ofBelow hb) (fun _ _ h => h) (fun _ h => h.elim)
theorem HeldR.alloc (h : HeldR B W0 g gm mv w D q) (o : Obj) : HeldR B W0 g gm mv (w.alloc o) D q := h.later ((Below.refl _ _).alloc (Nat.le_refl _) _)
theorem HeldR.stored {v v' : Value} {w1 w2 : World} {q' : List Nat} (h : HeldR B W0 g gm mv w D q) (hv : w.heap[g]? = some (.cells #[v] 23 (0, 0))) (hb1 : Below w.heap.size w w1) (hbut : But (fun k => v.ownBlock = some k) w1 w2)
  (hown : w2.ownsRow B 3 1 v' q'.length (ints (asInts q'))) (hnew : ∀ k, v'.ownBlock = some k → v.ownBlock = some k ∨ w1.heap.size ≤ k) :
  QueLeft (HeldR B W0 g gm mv) w (w2.setCell ⟨g, 0, none⟩ v') D q' := by
 obtain ⟨u, h1, h2, h3, h4, h5⟩ := h.row
 have e : u = v := by
  rw [hv] at h1
  injection h1 with h1
  injection h1 with h1
  simp at h1
  exact h1.symm
 subst e
 have hgl := lt_of_block h1
 have hml := lt_of_block h.mea
 have hsz : B ≤ w.heap.size := Nat.le_trans h.apart.2.1 (Nat.le_of_lt hgl)
 have hs1 := hb1.size
 have hg2 : w2.heap[g]? = some (.cells #[u] 23 (0, 0)) := (hbut.block g (by omega) h3).trans ((hb1.block g hgl).trans h1)
 have hm2 : w2.heap[gm]? = some (.cells #[mv] 199 (0, 0)) := (hbut.block gm (by omega) h4).trans ((hb1.block gm hml).trans h.mea)
 have hb2 : But (fun k => k = g) w2 (w2.setCell ⟨g, 0, none⟩ v') := But.setCell (S := fun k => k = g) (But.refl _ w2) (p := ⟨g, 0, none⟩) rfl v'
 have hvg : v'.ownBlock ≠ some g := fun e => by
  rcases hnew g e with h' | h'
  · exact h3 h'
  · omega
 have hvm : v'.ownBlock ≠ some gm := fun e => by
  rcases hnew gm e with h' | h'
  · exact h4 h'
  · omega
 have hall : But D w (w2.setCell ⟨g, 0, none⟩ v') := ((But.ofBelow hb1).trans (hbut.mono fun k hk => (h5 k).2 (.inr (.inr hk)))).trans (hb2.mono fun k hk => (h5 k).2 (.inl hk))
 refine ⟨fun k => k = g ∨ k = gm ∨ v'.ownBlock = some k, ⟨h.env.trans (hall.below hsz fun k hk => (h.foot k hk).1), ⟨v', one_setCell hg2, ownsRow_of_block hown (fun k hv' hk => hb2.block k hk (fun e => hvg (by rw [← e]; exact hv'))), hvg, hvm, fun k => Iff.rfl⟩, (hb2.block gm (lt_of_block hm2) (fun e => h.apart.1 e.symm)).trans hm2, h.apart⟩, hall, fun k hk => ?_⟩
 rcases hk with rfl | rfl | hk
 · exact .inl ((h5 _).2 (.inl rfl))
 · exact .inl ((h5 _).2 (.inr (.inl rfl)))
 ·
  rcases hnew k hk with h' | h'
  · exact .inl ((h5 k).2 (.inr (.inr h')))
  · exact .inr (by omega)
theorem HeldR.same (h : HeldR B W0 g gm mv w D q) (hb : Below w.heap.size w w') : QueLeft (HeldR B W0 g gm mv) w w' D q := ⟨D, h.later hb, .ofBelow hb, fun _ hk => .inl hk⟩
theorem QueLeft.after {σ : Type} {Held : World → (Nat → Prop) → σ → Prop} {w w1 w' : World} {D : Nat → Prop} {q : σ} (hb : Below w.heap.size w w1) (h : QueLeft Held w1 w' D q) : QueLeft Held w w' D q := by
 obtain ⟨D', h1, h2, h3⟩ := h
 refine ⟨D', h1, (But.ofBelow hb).trans h2, fun k hk => ?_⟩
 rcases h3 k hk with h | h
 · exact .inl h
 · exact .inr (Nat.le_trans hb.size h)
end
theorem rankMem (B : Nat) (W0 : World) (g gm : Nat) (mv : Value) : QueMem (HeldR B W0 g gm mv) B := ⟨fun _ _ _ h => h.foot, fun _ _ _ _ _ h hb hs hB => h.but hb hs hB⟩
set_option maxRecDepth 100000 in
set_option maxHeartbeats 1000000 in
theorem rankCome (B : Nat) (W0 : World) (g gm : Nat) (mv : Value) (D : Nat → Prop) (q : List Nat) (k : Nat) (w : World) (h : HeldR B W0 g gm mv w D q) (hn : q.length ≤ 1000) :
  Calls Tryz.prog 157 #[.int .i64 (k : Int), .pointer (some ⟨g, 0, none⟩)] w fun e w' => e = .returned (.tuple #[]) ∧ QueLeft (HeldR B W0 g gm mv) w w' D (q ++ [k]) := by
 obtain ⟨i0, hi, hz0, hz1, hz2⟩ := info_parts Tryz.infoInt
 have HH : Hid (HeldR B W0 g gm mv w D q) := h
 obtain ⟨v, h1, h2, h3, h4, h5⟩ := h.row
 have hgl := lt_of_block h1
 have c0 := cell_of_one h1
 have H1 : Hid (w.heap[g]? = some (.cells #[v] 23 (0, 0)) ∧ v.ownBlock ≠ some g ∧ B ≤ w.heap.size) := ⟨h1, h3, Nat.le_trans h.apart.2.1 (Nat.le_of_lt hgl)⟩
 have hb0 : Below w.heap.size w (w.alloc (.cells #[.int .i64 (k : Int)] 3)) := (Below.refl _ _).alloc (Nat.le_refl _) _
 have H2 : Hid ((w.alloc (.cells #[.int .i64 (k : Int)] 3)).ownsRow B 3 1 v q.length (ints (asInts q))) := ownsRow_of_block h2 (fun g' _ hg' => hb0.block g' hg')
 have HNew : Hid (∀ j u, (ints [(k : Int)])[j]? = some u → (w.alloc (.cells #[.int .i64 (k : Int)] 3)).cell? (Addr.add ⟨w.heap.size, 0, none⟩ j) = some u) := by
  intro j u hu
  cases j with
  | zero => simp [ints] at hu; subst hu; simp [Addr.add]
  | succ j => simp [ints] at hu
 have HBs : Hid (B ≤ (w.alloc (.cells #[.int .i64 (k : Int)] 3)).heap.size) := Nat.le_trans H1.out.2.2 hb0.size
 clear h1 h2 h3 h4 h5 h hb0
 go_enter Tryz.func157, Tryz.ntmps157
 go_wp2_with (at_builtin; go_must (refine wpList_append_lies _ rfl _ _ 23 rfl B 3 i0 (.int .i64 0) 1 8 Tryz.underlying23 hi hz0 hz1 hz2 rfl (by decide) v q.length (ints (asInts q)) rfl H2.out ⟨w.heap.size, 0, none⟩ 1 1 (ints [(k : Int)]) rfl rfl HNew.out (ints_one _) (by decide) (by unfold maxLen; omega) (by omega) HBs.out _ rfl ?_; intro g5 cap5 w5 ho5 hg5 hat5 hlt5; have hbut : But (fun k => v.ownBlock = some k) (w.alloc (.cells #[.int .i64 (k : Int)] 3)) w5 := ⟨hg5.os, hg5.tape, hg5.output, hg5.size, fun k hk hn => hg5.block k hk (fun e => hn e.symm)⟩; have hgb : w5.heap[g]? = some (.cells #[v] 23 (0, 0)) := (hbut.block g (by simp; omega) H1.out.2.1).trans ((Below.heap_alloc w _ g hgl).trans H1.out.1); have c5 := cell_of_one hgb; have f5 := free_of_one hgb; have H5 : Hid (w5.ownsRow B 3 1 (.slice (some ⟨g5, 0, none⟩) (q.length + 1) cap5) (q.length + 1) (ints (asInts q) ++ ints [(k : Int)]) ∧ But (fun k => v.ownBlock = some k) (w.alloc (.cells #[.int .i64 (k : Int)] 3)) w5 ∧ (v.ownBlock = some g5 ∨ g5 = (w.alloc (.cells #[.int .i64 (k : Int)] 3)).heap.size)) := ⟨ho5, hbut, hat5⟩; clear ho5 hg5 hat5 hlt5 hbut hgb))
 go_end0
 refine ⟨rfl, HH.out.stored H1.out.1 ((Below.refl _ _).alloc (Nat.le_refl _) _) H5.out.2.1 ?_ ?_⟩
 ·
  rw [asInts_snoc, List.length_append]
  exact H5.out.1
 ·
  intro j hj
  have e : g5 = j := Option.some.inj hj
  rcases H5.out.2.2 with h | h
  · exact .inl (by rw [← e]; exact h)
  · exact .inr (by rw [← e, h]; exact Nat.le_refl _)
end Go.Proofs.YtibhkijaafdkoaaGreatDoor
