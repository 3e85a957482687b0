/- Own facts, put together: no statement of its own. -/
import Derived.Test.YtibhkijaafdkoaaGreatDoorR28
import Derived.Test.YtibhkijaafdkoaaGreatDoorR14
import Derived.Deep.CutRange
import Derived.Test.YtibhkijaafdkoaaGreatDoorR07
import Derived.Test.YtibhkijaafdkoaaGreatDoorR20
namespace Go.Proofs.YtibhkijaafdkoaaGreatDoor
open Go.RowKit
structure FoMem (w wr : World) (gt gc gd gl n : Nat) (v : Value) (out : List Sn) (next : Nat) (tag last : Nat → Int) : Prop where
 own : OwnS wr w.heap.size v out
 tags : NumsAt wr gt n tag
 came : CameAt wr gc n next
 done : DoneAt wr gd n out
 last : NumsAt wr gl 8 last
 ne : gt ≠ gc ∧ gt ≠ gd ∧ gt ≠ gl ∧ gc ≠ gd ∧ gc ≠ gl ∧ gd ≠ gl
 vne : v.ownBlock ≠ some gt ∧ v.ownBlock ≠ some gc ∧ v.ownBlock ≠ some gd ∧ v.ownBlock ≠ some gl
 new : w.heap.size ≤ gt ∧ w.heap.size ≤ gc ∧ w.heap.size ≤ gd ∧ w.heap.size ≤ gl
 below : Below w.heap.size w wr
section
variable {w wr wr' : World} {gt gc gd gl n : Nat} {v : Value} {out : List Sn} {next : Nat} {tag last : Nat → Int}
theorem FoMem.later (h : FoMem w wr gt gc gd gl n v out next tag last) (hb : Below wr.heap.size wr wr') : FoMem w wr' gt gc gd gl n v out next tag last :=
 ⟨ownsRow_of_block h.own (fun g _ hg => hb.block g hg), h.tags.of_block (hb.block gt h.tags.lt) hb.size, h.came.of_block (hb.block gc h.came.lt) hb.size, h.done.of_block (hb.block gd h.done.lt) hb.size, h.last.of_block (hb.block gl h.last.lt) hb.size, h.ne, h.vne, h.new, h.below.trans (hb.mono h.below.size)⟩
theorem FoMem.setCame (h : FoMem w wr gt gc gd gl n v out next tag last) (hn : next < n) : FoMem w (wr.setCell ⟨gc, next, none⟩ (.bool true)) gt gc gd gl n v out (next + 1) tag last := by
 have hb := butOne wr gc next (.bool true)
 exact ⟨ownsRow_of_block h.own (fun g hg hlt => hb.block g hlt (fun e => h.vne.2.1 (by rw [← e]; exact hg))), h.tags.but hb h.ne.1, h.came.put hn, h.done.of_block (hb.block gd h.done.lt (fun e => h.ne.2.2.2.1 e.symm)) hb.size, h.last.but hb (fun e => h.ne.2.2.2.2.1 e.symm), h.ne, h.vne, h.new, h.below.trans (hb.below h.below.size fun k hk => by rw [hk]; exact h.new.2.1)⟩
theorem FoMem.setTag (h : FoMem w wr gt gc gd gl n v out next tag last) {k : Nat} (hk : k < n) (x : Int) : FoMem w (wr.setCell ⟨gt, k, none⟩ (.int .i64 x)) gt gc gd gl n v out next (put1 tag k x) last := by
 have hb := butOne wr gt k (.int .i64 x)
 exact ⟨ownsRow_of_block h.own (fun g hg hlt => hb.block g hlt (fun e => h.vne.1 (by rw [← e]; exact hg))), h.tags.put hk x, h.came.of_block (hb.block gc h.came.lt (fun e => h.ne.1 e.symm)) hb.size, h.done.of_block (hb.block gd h.done.lt (fun e => h.ne.2.1 e.symm)) hb.size, h.last.but hb (fun e => h.ne.2.2.1 e.symm), h.ne, h.vne, h.new, h.below.trans (hb.below h.below.size fun k hk => by rw [hk]; exact h.new.1)⟩
theorem FoMem.setLast (h : FoMem w wr gt gc gd gl n v out next tag last) {f : Nat} (hf : f < 8) (x : Int) : FoMem w (wr.setCell ⟨gl, f, none⟩ (.int .i64 x)) gt gc gd gl n v out next tag (put1 last f x) := by
 have hb := butOne wr gl f (.int .i64 x)
 exact ⟨ownsRow_of_block h.own (fun g hg hlt => hb.block g hlt (fun e => h.vne.2.2.2 (by rw [← e]; exact hg))), h.tags.but hb h.ne.2.2.1, h.came.of_block (hb.block gc h.came.lt h.ne.2.2.2.2.1) hb.size, h.done.of_block (hb.block gd h.done.lt h.ne.2.2.2.2.2) hb.size, h.last.put hf x, h.ne, h.vne, h.new, h.below.trans (hb.below h.below.size fun k hk => by rw [hk]; exact h.new.2.2.2)⟩
theorem FoMem.newLast (h : FoMem w wr gt gc gd gl n v out next tag last) (t : TypeId) : FoMem w (wr.alloc (.cells (madeCells #[.int .i64 0] 8) t)) gt gc gd wr.heap.size n v out next tag (fun _ => 0) := by
 have hl := h.later ((Below.refl _ _).alloc (Nat.le_refl _) (.cells (madeCells #[.int .i64 0] 8) t))
 have h1 := h.tags.lt
 have h2 := h.came.lt
 have h3 := h.done.lt
 refine ⟨hl.own, hl.tags, hl.came, hl.done, nums_made wr 8 t, ⟨h.ne.1, h.ne.2.1, by omega, h.ne.2.2.2.1, by omega, by omega⟩, ⟨h.vne.1, h.vne.2.1, h.vne.2.2.1, fun e => ?_⟩, ⟨h.new.1, h.new.2.1, h.new.2.2.1, h.below.size⟩, hl.below⟩
 have := (ownsRow_lt h.own e).2
 omega
theorem FoMem.sent (h : FoMem w wr gt gc gd gl n v out next tag last) (b : Nat) (hb : b < n) {w1 w2 : World} {f t : Int} {g' cap : Nat} (hb1 : Below wr.heap.size wr w1)
  (h1 : w2.ownsRow w.heap.size 78 3 (.slice (some ⟨g', 0, none⟩) (out.length + 1) cap) (out.length + 1) (cellsS out ++ cellsS [⟨b, f, t⟩])) (h2 : w1.grownBy w2 v.ownBlock) (h3 : v.ownBlock = some g' ∨ g' = w1.heap.size) :
  FoMem w (w2.setCell ⟨gd, b, none⟩ (.bool true)) gt gc gd gl n (.slice (some ⟨g', 0, none⟩) (out.length + 1) cap) (out ++ [⟨b, f, t⟩]) next tag last := by
 have hg' : ∀ g, g < wr.heap.size → v.ownBlock ≠ some g → g' ≠ g := fun g hg hne e => by
  rcases h3 with h3 | h3
  · exact hne (by rw [h3, e])
  · have := hb1.size; omega
 have hb2 : But (fun k => v.ownBlock = some k) w1 w2 := ⟨h2.os, h2.tape, h2.output, h2.size, fun k hk hn => h2.block k hk (fun e => hn e.symm)⟩
 have hb12 : But (fun k => v.ownBlock = some k) wr w2 := (But.ofBelow hb1).trans hb2
 have hb3 := butOne w2 gd b (.bool true)
 have hd : DoneAt w2 gd n out := h.done.of_block (hb12.block gd h.done.lt h.vne.2.2.1) hb12.size
 have blk : ∀ g, g < wr.heap.size → g ≠ gd → v.ownBlock ≠ some g → (w2.setCell ⟨gd, b, none⟩ (.bool true)).heap[g]? = wr.heap[g]? := fun g hg e1 e2 => (hb3.block g (Nat.lt_of_lt_of_le hg hb12.size) e1).trans (hb12.block g hg e2)
 have hsz : wr.heap.size ≤ (w2.setCell ⟨gd, b, none⟩ (.bool true)).heap.size := Nat.le_trans hb12.size hb3.size
 refine ⟨?_, h.tags.of_block (blk gt h.tags.lt h.ne.2.1 h.vne.1) hsz, h.came.of_block (blk gc h.came.lt h.ne.2.2.2.1 h.vne.2.1) hsz, hd.put b hb f t, h.last.of_block (blk gl h.last.lt (fun e => h.ne.2.2.2.2.2 e.symm) h.vne.2.2.2) hsz, h.ne, ⟨fun e => hg' gt h.tags.lt h.vne.1 (Option.some.inj e), fun e => hg' gc h.came.lt h.vne.2.1 (Option.some.inj e), fun e => hg' gd h.done.lt h.vne.2.2.1 (Option.some.inj e), fun e => hg' gl h.last.lt h.vne.2.2.2 (Option.some.inj e)⟩, h.new, ?_⟩
 ·
  unfold OwnS
  rw [List.length_append, cellsS_append]
  exact ownsRow_of_block h1 (fun g hg hlt => hb3.block g hlt (fun e => hg' gd h.done.lt h.vne.2.2.1 (by rw [← e]; exact Option.some.inj hg)))
 · exact (h.below.trans (hb12.below h.below.size fun k hk => (ownsRow_lt h.own hk).1)).trans (hb3.below (Nat.le_trans h.below.size hb12.size) fun k hk => by rw [hk]; exact h.new.2.2.1)
end
theorem foMem_new (w : World) (n : Nat) (ti tb : TypeId) : FoMem w ((((w.alloc (.cells (madeCells #[.int .i64 0] n) ti)).alloc (.cells (madeCells #[.bool false] n) tb)).alloc (.cells (madeCells #[.bool false] n) tb)).alloc (.cells (madeCells #[.int .i64 0] 8) ti)) w.heap.size (w.heap.size + 1) (w.heap.size + 2) (w.heap.size + 3) n (.slice none 0 0) [] 0 (fun _ => 0) (fun _ => 0) := by
 obtain ⟨w1, hw1⟩ : ∃ w1, w.alloc (.cells (madeCells #[.int .i64 0] n) ti) = w1 := ⟨_, rfl⟩
 obtain ⟨w2, hw2⟩ : ∃ w2, w1.alloc (.cells (madeCells #[.bool false] n) tb) = w2 := ⟨_, rfl⟩
 obtain ⟨w3, hw3⟩ : ∃ w3, w2.alloc (.cells (madeCells #[.bool false] n) tb) = w3 := ⟨_, rfl⟩
 obtain ⟨w4, hw4⟩ : ∃ w4, w3.alloc (.cells (madeCells #[.int .i64 0] 8) ti) = w4 := ⟨_, rfl⟩
 have s1 : w1.heap.size = w.heap.size + 1 := by rw [← hw1]; simp
 have s2 : w2.heap.size = w.heap.size + 2 := by rw [← hw2]; simp [s1]
 have s3 : w3.heap.size = w.heap.size + 3 := by rw [← hw3]; simp [s2]
 have b1 : Below w.heap.size w w1 := by rw [← hw1]; exact (Below.refl _ _).alloc (Nat.le_refl _) _
 have b2 : Below w1.heap.size w1 w2 := by rw [← hw2]; exact (Below.refl _ _).alloc (Nat.le_refl _) _
 have b3 : Below w2.heap.size w2 w3 := by rw [← hw3]; exact (Below.refl _ _).alloc (Nat.le_refl _) _
 have b4 : Below w3.heap.size w3 w4 := by rw [← hw4]; exact (Below.refl _ _).alloc (Nat.le_refl _) _
 have t1 : NumsAt w1 w.heap.size n (fun _ => 0) := by rw [← hw1]; exact nums_made w n ti
 have t2 : CameAt w2 (w.heap.size + 1) n 0 := by rw [← hw2, ← s1]; exact came_made w1 n tb
 have t3 : DoneAt w3 (w.heap.size + 2) n [] := by rw [← hw3, ← s2]; exact done_made w2 n tb
 have t4 : NumsAt w4 (w.heap.size + 3) 8 (fun _ => 0) := by rw [← hw4, ← s3]; exact nums_made w3 8 ti
 rw [hw1, hw2, hw3, hw4]
 have b24 : Below w1.heap.size w1 w4 := (b2.trans (b3.mono b2.size)).trans (b4.mono (Nat.le_trans b2.size b3.size))
 have b34 : Below w2.heap.size w2 w4 := b3.trans (b4.mono b3.size)
 exact ⟨World.ownsRow_nil _ _ _ _, t1.of_block (b24.block _ t1.lt) b24.size, t2.of_block (b34.block _ t2.lt) b34.size, t3.of_block (b4.block _ t3.lt) b4.size, t4, by omega, ⟨(fun e => by cases e), (fun e => by cases e), (fun e => by cases e), fun e => by cases e⟩, by omega, b1.trans (b24.mono b1.size)⟩
def foLeft (ps : List Pk) (s : St FQ) : Nat := 2 * (ps.length - s.out.length) + if s.next < ps.length ∧ tickOf ps s.next ≤ s.now then 0 else 1
end Go.Proofs.YtibhkijaafdkoaaGreatDoor

namespace Go.Proofs.YtibhkijaafdkoaaGreatDoor
open Go.RowKit
def FairEnd (per : Int) (ps : List Pk) (ws : List Int) (w : World) (e : Ending) (w' : World) : Prop :=
 ∃ v gt l f, e = .returned (.tuple #[v, .slice (some ⟨gt, 0, none⟩) ps.length ps.length]) ∧ OwnS w' w.heap.size v l ∧ NumsAt w' gt ps.length f ∧ FairSent per ps ws l ((List.range ps.length).map f) ∧ Below w.heap.size w w'
theorem foLeft_send {ps : List Pk} {s s' : St FQ} (h : s'.out.length = s.out.length + 1) (hl : s.out.length < ps.length) : foLeft ps s' < foLeft ps s := by
 unfold foLeft
 rw [h]
 split <;> split <;> omega
theorem foLeft_idle {ps : List Pk} {s s' : St FQ} (h : s'.out = s.out) (hd : s'.next < ps.length ∧ tickOf ps s'.next ≤ s'.now) (hn : ¬ (s.next < ps.length ∧ tickOf ps s.next ≤ s.now)) : foLeft ps s' < foLeft ps s := by
 unfold foLeft
 rw [h, if_pos hd, if_neg hn]
 omega
set_option maxRecDepth 100000 in
set_option maxHeartbeats 40000000 in
theorem fairOf_any (pa : Option Addr) (pcap : Nat) (ps : List Pk) (per : Int) (na : Option Addr) (ncap : Nat) (ws : List Int) (w : World) (hp : LiesP w pa ps) (hnn : LiesN w na ws) (ho : OkPks ps) (h1 : 1 ≤ per) (h2 : per ≤ 1000) (hk : WtsAll ws) :
  Calls Tryz.prog 109 #[.slice pa ps.length pcap, .int .i64 per, .slice na ws.length ncap] w fun e w' => FairEnd per ps ws w e w' := by
 have HP : Hid (LiesP w pa ps ∧ OkPks ps ∧ WtsOk ws) := ⟨hp, ho, hk.ok⟩
 have hfew := ho.few
 have h8 := hk.len
 obtain ⟨b3, o3, rfl, -, hc3⟩ := hnn.place (by omega)
 have HN : Hid (∀ W f, Below w.heap.size w W → f < 8 → ∃ x, quOf ws f = x ∧ 1 ≤ x ∧ x ≤ 12 ∧ W.cell? ⟨b3, o3 + f, none⟩ = some (.int .i64 x)) := fun W f hb hf => by
  obtain ⟨x, hx, -⟩ := get_some ws f (by omega)
  have := hk.nums.each f x hx
  exact ⟨x, quOf_get hx, this.1, this.2, cell_later hb (hc3 f x hx)⟩
 obtain ⟨n, hn⟩ : ∃ n, ps.length = n := ⟨_, rfl⟩
 have HNN : Hid (ps.length = n) := hn
 clear hp hnn ho hk hc3
 rw [hn, h8]
 rw [hn] at hfew
 have hmk : ∀ w' : World, (Instr.makeSlice 104 (.int .i64 n) (.int .i64 n)).run Tryz.prog w' = .ok (.slice (some ⟨w'.heap.size, 0, none⟩) n n) (w'.alloc (.cells (madeCells #[.bool false] n) 4)) := fun w' => by
  obtain ⟨i0, hi, hz0, hz1, hz2⟩ := info_parts Tryz.infoBool
  have := run_make (P := Tryz.prog) w' 104 4 i0 (.bool false) Tryz.underlying104 hi hz0 .i64 .i64 n n (by omega) (by omega) (by rw [hz2]; omega) (by omega)
  simpa [hz1, Value.cells] using this
 have hmn : ∀ w' : World, (Instr.makeSlice 23 (.int .i64 n) (.int .i64 n)).run Tryz.prog w' = .ok (.slice (some ⟨w'.heap.size, 0, none⟩) n n) (w'.alloc (.cells (madeCells #[.int .i64 0] n) 3)) := fun w' => by
  obtain ⟨i0, hi, hz0, hz1, hz2⟩ := info_parts Tryz.infoInt
  have := run_make (P := Tryz.prog) w' 23 3 i0 (.int .i64 0) Tryz.underlying23 hi hz0 .i64 .i64 n n (by omega) (by omega) (by rw [hz2]; omega) (by omega)
  simpa [hz1, Value.cells] using this
 have hmi : ∀ w' : World, (Instr.makeSlice 23 (.int .i64 8) (.int .i64 8)).run Tryz.prog w' = .ok (.slice (some ⟨w'.heap.size, 0, none⟩) 8 8) (w'.alloc (.cells (madeCells #[.int .i64 0] 8) 3)) := fun w' => by
  obtain ⟨i0, hi, hz0, hz1, hz2⟩ := info_parts Tryz.infoInt
  have := run_make (P := Tryz.prog) w' 23 3 i0 (.int .i64 0) Tryz.underlying23 hi hz0 .i64 .i64 8 8 (by omega) (by omega) (by rw [hz2]; omega) (by omega)
  simpa [hz1, Value.cells] using this
 have HM0 : Hid (FoMem w ((((w.alloc (.cells (madeCells #[.int .i64 0] n) 3)).alloc (.cells (madeCells #[.bool false] n) 4)).alloc (.cells (madeCells #[.bool false] n) 4)).alloc (.cells (madeCells #[.int .i64 0] 8) 3)) w.heap.size (w.heap.size + 1) (w.heap.size + 2) (w.heap.size + 3) n (.slice none 0 0) [] 0 (fun _ => 0) (fun _ => 0)) := foMem_new w n _ _
 have HMi : Hid (∀ w' : World, (Instr.makeSlice 23 (.int .i64 8) (.int .i64 8)).run Tryz.prog w' = .ok (.slice (some ⟨w'.heap.size, 0, none⟩) 8 8) (w'.alloc (.cells (madeCells #[.int .i64 0] 8) 3))) := hmi
 obtain ⟨iS, hiS, hzS0, hzS1, hzS2⟩ := info_parts Tryz.infoSent
 clear hn
 go_enter Tryz.func109, Tryz.ntmps109
 go_wp2_with fail
 obtain ⟨gt, hgt⟩ : ∃ gt, w.heap.size = gt := ⟨_, rfl⟩
 obtain ⟨gc, hgc⟩ : ∃ gc, w.heap.size + 1 = gc := ⟨_, rfl⟩
 obtain ⟨gd, hgd⟩ : ∃ gd, w.heap.size + 2 = gd := ⟨_, rfl⟩
 obtain ⟨gl0, hgl⟩ : ∃ gl, w.heap.size + 3 = gl := ⟨_, rfl⟩
 obtain ⟨W1, hW1⟩ : ∃ W1, (((w.alloc (.cells (madeCells #[.int .i64 0] n) 3)).alloc (.cells (madeCells #[.bool false] n) 4)).alloc (.cells (madeCells #[.bool false] n) 4)).alloc (.cells (madeCells #[.int .i64 0] 8) 3) = W1 := ⟨_, rfl⟩
 have HM1 : Hid (FoMem w W1 gt gc gd gl0 n (.slice none 0 0) [] 0 (fun _ => 0) (fun _ => 0)) := by
  have := HM0.out
  rwa [hW1, hgl, hgd, hgc, hgt] at this
 rw [hW1, hgl, hgd, hgc, hgt]
 clear hW1 hgl hgd hgc hgt HM0 hmk hmi hmn
 go_loopg [8, 12, 13, 14] (foLeft ps ⟨[], 0, 0, fair0⟩) (fun gm v la vv t wr => ∃ s gl, gm = foLeft ps s ∧ la = .slice (some ⟨gl, 0, none⟩) 8 8 ∧ vv = .int .i64 s.q.v ∧ t = .int .i64 s.now ∧ Reaches (fairQ ps ws) per ps fair0 s ∧ FoMem w wr gt gc gd gl n v s.out s.next s.q.tag s.q.last)
 case atStart => exact ⟨_, gl0, rfl, rfl, rfl, rfl, .start, HM1.out⟩
 case round =>
  obtain ⟨s, gl, rfl, rfl, rfl, rfl, hre, hmem⟩ := hrel
  obtain ⟨W0, hW0⟩ : ∃ W, W = wr := ⟨_, rfl⟩
  subst hW0
  have HR0 : Hid (Reaches (fairQ ps ws) per ps fair0 s) := hre
  have HM : Hid (FoMem w W0 gt gc gd gl n u8 s.out s.next s.q.tag s.q.last) := hmem
  obtain ⟨a7, k7, hv7, h71, h72, -, -, -⟩ := hmem.own.open
  have hnow := hre.now_in ⟨h1, h2⟩ HP.out.2.1
  have hcnt := hre.count (fair_law HP.out.2.2 HP.out.2.1 h1)
  have hnl := hre.next_le
  rw [HNN.out] at hnl
  have hol : s.out.length ≤ n := by omega
  have htg := fair_tags HP.out.2.2 HP.out.2.1 hre
  have hcv0 : 0 ≤ s.q.v ∧ s.q.v ≤ 10000000 := by have := htg.1; omega
  obtain ⟨nw, hnw⟩ : ∃ nw, s.now = nw := ⟨_, rfl⟩
  obtain ⟨L, hL⟩ : ∃ L, s.out.length = L := ⟨_, rfl⟩
  obtain ⟨cv, hcv⟩ : ∃ cv, s.q.v = cv := ⟨_, rfl⟩
  have HNw : Hid (s.now = nw ∧ s.out.length = L ∧ s.q.v = cv) := ⟨hnw, hL, hcv⟩
  rw [hnw, hL] at hnow
  rw [hcv] at hcv0
  rw [hL] at hol h71 hv7
  have H7 : Hid (u8 = .slice a7 L k7) := hv7
  rw [hnw, hcv]
  unfold maxLen at h72
  clear hre hmem hcnt hnl hnw hL hcv htg
  subst hv7
  by_cases hlt : L < n
  ·
   go_wp2_with fail
   go_loopg [15, 16, 17] n (fun gi bv fv iv wr2 => ∃ (k : Nat) (s1 : St FQ) (first best : Int), gi = n - k ∧ k ≤ n ∧ iv = .int .i64 (k : Int) ∧ bv = .int .i64 best ∧ fv = .int .i64 first ∧ s1.q.v = cv ∧ FoIn per ps ws s s1 k first best ∧ FoMem w wr2 gt gc gd gl n (.slice a7 L k7) s1.out s1.next s1.q.tag s1.q.last)
   case atStart => exact ⟨0, s, -1, -1, rfl, Nat.zero_le _, rfl, rfl, rfl, HNw.out.2.2, FoIn.start HR0.out, HM.out⟩
   case round =>
    obtain ⟨k, s1, first, best, rfl, hkn', rfl, rfl, rfl, hv1, hin, hmem⟩ := hrel
    obtain ⟨W2, hW2⟩ : ∃ W, W = wr := ⟨_, rfl⟩
    subst hW2
    have HIn : Hid (FoIn per ps ws s s1 k first best ∧ s1.q.v = cv) := ⟨hin, hv1⟩
    have HM2 : Hid (FoMem w W2 gt gc gd gl n (.slice a7 L k7) s1.out s1.next s1.q.tag s1.q.last) := hmem
    have hnw1 : s1.now = nw := hin.now.trans HNw.out.1
    have HNw1 : Hid (s1.now = nw) := hnw1
    have hnl1 := hin.reach.next_le
    rw [HNN.out] at hnl1
    clear hin hmem hv1 hnw1
    by_cases hkn : k < n
    ·
     obtain ⟨p, hpk, -⟩ := get_some ps k (by rw [HNN.out]; exact hkn)
     obtain ⟨b2, o2, rfl, -, hc2⟩ := HP.out.1.place (by rw [HNN.out]; omega)
     have hok := okPk_true (HP.out.2.1.each _ p hpk).1
     have hf8 := flow_lt HP.out.2.1 k
     have hpf : p.flow = ((flowOf ps k : Nat) : Int) := by rw [flowOf_get hpk]; omega
     have htk := tickOf_get hpk
     have d0 : W2.cell? ⟨b2, o2 + k * 3, none⟩ = some (.int .i64 p.flow) := cell_later HM2.out.below (hc2 k p hpk).1
     have d1 : W2.cell? ⟨b2, o2 + k * 3 + 1, none⟩ = some (.int .i64 p.size) := cell_later HM2.out.below (hc2 k p hpk).2.1
     have d2 : W2.cell? ⟨b2, o2 + k * 3 + 2, none⟩ = some (.int .i64 p.tick) := cell_later HM2.out.below (hc2 k p hpk).2.2
     have cc := HM2.out.came.cell k hkn
     have HPk : Hid (ps[k]? = some p ∧ tickOf ps k = p.tick) := ⟨hpk, htk⟩
     obtain ⟨t, ht⟩ : ∃ t, (!decide (k < s1.next) && decide (p.tick ≤ nw)) = t := ⟨_, rfl⟩
     have HT : Hid ((!decide (k < s1.next) && decide (p.tick ≤ nw)) = t) := ht
     have HC2 : Hid (∀ W, Below w.heap.size w W → W.cell? ⟨b2, o2 + k * 3, none⟩ = some (.int .i64 p.flow) ∧ W.cell? ⟨b2, o2 + k * 3 + 1, none⟩ = some (.int .i64 p.size)) := fun W hb => ⟨cell_later hb (hc2 k p hpk).1, cell_later hb (hc2 k p hpk).2.1⟩
     clear hc2 htk hpk ht
     go_upto_region 14 with fail
     go_cut [55] from 36 to 121 (fun s55 wx => s55 = .bool t ∧ W2 = wx)
     case first =>
      by_cases hc : k < s1.next
      ·
       rw [decide_eq_true hc] at cc
       have HB : Hid (t = false) := by
        show t = false
        rw [← HT.out, decide_eq_true hc]
        rfl
       go_wp2_with fail
       go_meet
       exact ⟨by rw [HB.out], rfl⟩
      ·
       rw [decide_eq_false hc] at cc
       by_cases htk : p.tick ≤ nw
       ·
        have HB : Hid (t = true) := by
         show t = true
         rw [← HT.out, decide_eq_false hc, decide_eq_true htk]
         rfl
        go_wp2_with fail
        go_meet
        exact ⟨by rw [HB.out], rfl⟩
       ·
        have HB : Hid (t = false) := by
         show t = false
         rw [← HT.out, decide_eq_false hc, decide_eq_false htk]
         rfl
        go_wp2_with fail
        go_meet
        exact ⟨by rw [HB.out], rfl⟩
     case rest =>
     obtain ⟨rfl, hwc⟩ := hcut
     subst hwc
     go_upto_if 55 with fail
     go_cut [18, 19] from 36 to 121 (fun _ _ wx => ∃ s2, FoIn per ps ws s s2 k first best ∧ s2.q.v = cv ∧ (tickOf ps k ≤ s2.now → k < s2.next) ∧ FoMem w wx gt gc gd gl n (.slice a7 L k7) s2.out s2.next s2.q.tag s2.q.last)
     case first =>
      by_cases ht : t = true
      ·
       have hcn : ¬ k < s1.next ∧ p.tick ≤ nw := by
        have := HT.out
        rw [ht] at this
        simpa using this
       obtain ⟨hk1, hin2⟩ := HIn.out.1.comes HP.out.2.1 HPk.out.1 hcn.1 (by rw [HNw1.out]; exact hcn.2)
       have hMc := HM2.out.setCame (show s1.next < n by omega)
       rw [← hk1] at hMc hin2
       obtain ⟨x, hx, hx1, hx12, dq⟩ := HN.out (W2.setCell ⟨gc, k, none⟩ (.bool true)) (flowOf ps k) hMc.below hf8
       obtain ⟨e0, e1⟩ := HC2.out _ hMc.below
       rw [hpf] at e0
       have el := hMc.last.cell (flowOf ps k) hf8
       have fc := HM2.out.came.frozen k
       have ct := hMc.tags.cell k hkn
       have ft := hMc.tags.frozen k
       have htg := fair_tags HP.out.2.2 HP.out.2.1 HIn.out.1.reach
       have hla0 : 0 ≤ s1.q.last (flowOf ps k) ∧ s1.q.last (flowOf ps k) ≤ 10000000 := by have := htg.2.1 (flowOf ps k); omega
       have hinc : incOf ps ws k = p.size * (12 / x) := by unfold incOf; rw [sizeAt_get HPk.out.1, hx]
       have hincr := incOf_in HP.out.2.2 HP.out.2.1 k
       have hyr := HP.out.2.2.part (flowOf ps k)
       rw [hx] at hyr
       have e12 : Int.tdiv 12 x = 12 / x := Int.tdiv_eq_ediv_of_nonneg (by decide)
       have hcome : s1.q.come (flowOf ps) (incOf ps ws) k = ⟨s1.q.q ++ [k], put1 s1.q.tag k (max cv (s1.q.last (flowOf ps k)) + incOf ps ws k), s1.q.v, put1 s1.q.last (flowOf ps k) (max cv (s1.q.last (flowOf ps k)) + incOf ps ws k)⟩ := by
        unfold FQ.come
        rw [HIn.out.2]
       rw [hcome] at hin2
       rw [hinc] at hincr hin2
       obtain ⟨f, hf⟩ : ∃ f, flowOf ps k = f := ⟨_, rfl⟩
       obtain ⟨z, hz⟩ : ∃ z, p.size = z := ⟨_, rfl⟩
       obtain ⟨y, hy⟩ : ∃ y, 12 / x = y := ⟨_, rfl⟩
       rw [hf] at el hla0 dq e0 hin2 hf8
       obtain ⟨la, hla⟩ : ∃ la, s1.q.last f = la := ⟨_, rfl⟩
       rw [hz] at e1 hincr hin2
       rw [hy] at e12 hincr hin2 hyr
       rw [hla] at el hla0 hin2
       obtain ⟨I, hI⟩ : ∃ I, z * y = I := ⟨_, rfl⟩
       rw [hI] at hincr hin2
       obtain ⟨T, hT⟩ : ∃ T, max cv la + I = T := ⟨_, rfl⟩
       rw [hT] at hin2
       have v0 : wrap64 y = y := by unfold wrap64; omega
       have v1 : wrap64 (z * y) = I := by rw [hI]; unfold wrap64; omega
       have hx0 : ¬ x = 0 := by omega
       have hx2 : (x == 0) = false := by simpa using hx0
       have hf8i : (f : Int) < 8 := by omega
       obtain ⟨V1, hV1⟩ : ∃ V1, W2.setCell ⟨gc, k, none⟩ (.bool true) = V1 := ⟨_, rfl⟩
       rw [hV1] at hMc dq e0 e1 el ct ft
       have hMt := (hMc.setTag hkn T).later (below_drewN (Below.refl _ _) 1)
       have hMt0 := hMc.setTag hkn T
       have cl := hMt0.last.cell f hf8
       have fl := hMt0.last.frozen f
       have ck := hMt0.tags.cell k hkn
       rw [put1_same] at ck
       have HFin : Hid (∃ s2, FoIn per ps ws s s2 k first best ∧ s2.q.v = cv ∧ (tickOf ps k ≤ s2.now → k < s2.next) ∧ FoMem w (((V1.setCell ⟨gt, k, none⟩ (.int .i64 T)).drewN 1).setCell ⟨gl, f, none⟩ (.int .i64 T)) gt gc gd gl n (.slice a7 L k7) s2.out s2.next s2.q.tag s2.q.last) := ⟨_, hin2, HIn.out.2, fun _ => Nat.lt_succ_self _, hMt.setLast hf8 T⟩
       subst ht
       by_cases hbig : la < cv
       ·
        obtain rfl : T = cv + I := by omega
        have v2 : wrap64 (cv + I) = cv + I := by unfold wrap64; omega
        clear hin2 hMc hMt hMt0 hcome hinc htg hla hf hI hT hpf d0 d1 d2 hx hy hk1 hcn hz
        go_wp2_with fail
        go_region
        go_wp2_with fail
        go_meet
        exact HFin.out
       ·
        obtain rfl : T = la + I := by omega
        have v2 : wrap64 (la + I) = la + I := by unfold wrap64; omega
        clear hin2 hMc hMt hMt0 hcome hinc htg hla hf hI hT hpf d0 d1 d2 hx hy hk1 hcn hz
        go_wp2_with fail
        go_region
        go_wp2_with fail
        go_meet
        exact HFin.out
      ·
       have HF : Hid (t = false) := by
        show t = false
        simpa using ht
       have hkeep : tickOf ps k ≤ s1.now → k < s1.next := fun h => by
        have := HT.out
        rw [HF.out] at this
        have h2 : ¬ (¬ k < s1.next ∧ p.tick ≤ nw) := by simpa using this
        rw [HPk.out.2, HNw1.out] at h
        omega
       have HK : Hid (tickOf ps k ≤ s1.now → k < s1.next) := hkeep
       have htf : t = false := HF.out
       subst htf
       clear ht hkeep d0 d1 d2 cc
       go_wp2_with fail
       go_meet
       exact ⟨s1, HIn.out.1, HIn.out.2, HK.out, HM2.out⟩
     case rest =>
     obtain ⟨s2, hin2, hv2, hs2, hmem2⟩ := hcut
     have HI2 : Hid (FoIn per ps ws s s2 k first best ∧ s2.q.v = cv ∧ (tickOf ps k ≤ s2.now → k < s2.next)) := ⟨hin2, hv2, hs2⟩
     have HM3 : Hid (FoMem w wc gt gc gd gl n (.slice a7 L k7) s2.out s2.next s2.q.tag s2.q.last) := hmem2
     have cd := hmem2.done.cell k hkn
     have cc2 := hmem2.came.cell k hkn
     have ck2 := hmem2.tags.cell k hkn
     clear d0 d1 d2 cc hpf HT
     cases hd : isDone s2.out k with
     | true =>
      rw [hd] at cd
      have HNx : Hid (FoIn per ps ws s s2 (k + 1) first best) := hin2.pass HP.out.2.2 HP.out.2.1 h1 hs2 hd
      clear hin2 hmem2 hs2 hd hv2
      go_wp2_with fail
      go_roundg (n - (k + 1))
      case measure => omega
      case rel => exact ⟨k + 1, s2, first, best, rfl, by omega, by go_num, rfl, rfl, HI2.out.2.1, HNx.out, HM3.out⟩
     | false =>
      rw [hd] at cd
      obtain ⟨first', hf'⟩ : ∃ f' : Int, f' = if first < 0 then (k : Int) else first := ⟨_, rfl⟩
      by_cases hcm : k < s2.next
      ·
       rw [decide_eq_true hcm] at cc2
       by_cases hb0 : best < 0
       ·
        have hbm : best = -1 := by
         rcases hin2.best with ⟨e, -⟩ | ⟨b, e, -⟩
         · exact e
         · omega
        by_cases hff : first < 0
        ·
         have HNx : Hid (FoIn per ps ws s s2 (k + 1) first' k) := hin2.takes HP.out.2.2 HP.out.2.1 h1 hcm hd hf' (.inl hbm)
         rw [if_pos hff] at hf'
         subst hf'
         have t2 : decide (best < 0) = true := decide_eq_true hb0
         clear hin2 hmem2 hs2 hd hv2
         go_wp2_with fail
         go_quiet (fail)
         go_wp2_with fail
         go_roundg (n - (k + 1))
         case measure => omega
         case rel => exact ⟨k + 1, s2, _, _, rfl, by omega, by go_num, rfl, rfl, HI2.out.2.1, HNx.out, HM3.out.later (below_drewN (Below.refl _ _) _)⟩
        ·
         have HNx : Hid (FoIn per ps ws s s2 (k + 1) first' k) := hin2.takes HP.out.2.2 HP.out.2.1 h1 hcm hd hf' (.inl hbm)
         rw [if_neg hff] at hf'
         subst hf'
         have t2 : decide (best < 0) = true := decide_eq_true hb0
         clear hin2 hmem2 hs2 hd hv2
         go_wp2_with fail
         go_quiet (fail)
         go_wp2_with fail
         go_roundg (n - (k + 1))
         case measure => omega
         case rel => exact ⟨k + 1, s2, _, _, rfl, by omega, by go_num, rfl, rfl, HI2.out.2.1, HNx.out, HM3.out.later (below_drewN (Below.refl _ _) _)⟩
       ·
        obtain ⟨b, hbe, hbk⟩ : ∃ b : Nat, best = b ∧ b < k := by
         rcases hin2.best with ⟨e, -⟩ | ⟨b, e, e2, -⟩
         · omega
         · exact ⟨b, e, e2⟩
        by_cases hless : s2.q.tag k < s2.q.tag b
        ·
         by_cases hff : first < 0
         ·
          have HNx : Hid (FoIn per ps ws s s2 (k + 1) first' k) := hin2.takes HP.out.2.2 HP.out.2.1 h1 hcm hd hf' (.inr ⟨b, hbe, hless⟩)
          rw [if_pos hff] at hf'
          subst hf'
          have hbn : b < n := by omega
          have cb2 := hmem2.tags.cell b hbn
          obtain ⟨x1, hx1⟩ : ∃ x1, s2.q.tag k = x1 := ⟨_, rfl⟩
          obtain ⟨x2, hx2⟩ : ∃ x2, s2.q.tag b = x2 := ⟨_, rfl⟩
          rw [hx1] at ck2 hless
          rw [hx2] at cb2 hless
          subst hbe
          have t2 : decide ((b : Int) < 0) = false := decide_eq_false (by omega)
          have t3 : decide (x1 < x2) = true := decide_eq_true hless
          clear hx1 hx2
          clear hin2 hmem2 hs2 hd hv2
          go_wp2_with fail
          go_quiet (fail)
          go_wp2_with fail
          go_roundg (n - (k + 1))
          case measure => omega
          case rel => exact ⟨k + 1, s2, _, _, rfl, by omega, by go_num, rfl, rfl, HI2.out.2.1, HNx.out, HM3.out.later (below_drewN (Below.refl _ _) _)⟩
         ·
          have HNx : Hid (FoIn per ps ws s s2 (k + 1) first' k) := hin2.takes HP.out.2.2 HP.out.2.1 h1 hcm hd hf' (.inr ⟨b, hbe, hless⟩)
          rw [if_neg hff] at hf'
          subst hf'
          have hbn : b < n := by omega
          have cb2 := hmem2.tags.cell b hbn
          obtain ⟨x1, hx1⟩ : ∃ x1, s2.q.tag k = x1 := ⟨_, rfl⟩
          obtain ⟨x2, hx2⟩ : ∃ x2, s2.q.tag b = x2 := ⟨_, rfl⟩
          rw [hx1] at ck2 hless
          rw [hx2] at cb2 hless
          subst hbe
          have t2 : decide ((b : Int) < 0) = false := decide_eq_false (by omega)
          have t3 : decide (x1 < x2) = true := decide_eq_true hless
          clear hx1 hx2
          clear hin2 hmem2 hs2 hd hv2
          go_wp2_with fail
          go_quiet (fail)
          go_wp2_with fail
          go_roundg (n - (k + 1))
          case measure => omega
          case rel => exact ⟨k + 1, s2, _, _, rfl, by omega, by go_num, rfl, rfl, HI2.out.2.1, HNx.out, HM3.out.later (below_drewN (Below.refl _ _) _)⟩
        ·
         by_cases hff : first < 0
         ·
          have HNx : Hid (FoIn per ps ws s s2 (k + 1) first' best) := hin2.keeps HP.out.2.2 HP.out.2.1 h1 hs2 hd hf' (.inr ⟨b, hbe, by omega⟩)
          rw [if_pos hff] at hf'
          subst hf'
          have hbn : b < n := by omega
          have cb2 := hmem2.tags.cell b hbn
          obtain ⟨x1, hx1⟩ : ∃ x1, s2.q.tag k = x1 := ⟨_, rfl⟩
          obtain ⟨x2, hx2⟩ : ∃ x2, s2.q.tag b = x2 := ⟨_, rfl⟩
          rw [hx1] at ck2 hless
          rw [hx2] at cb2 hless
          subst hbe
          have t2 : decide ((b : Int) < 0) = false := decide_eq_false (by omega)
          have t3 : decide (x1 < x2) = false := decide_eq_false hless
          clear hx1 hx2
          clear hin2 hmem2 hs2 hd hv2
          go_wp2_with fail
          go_quiet (fail)
          go_wp2_with fail
          go_roundg (n - (k + 1))
          case measure => omega
          case rel => exact ⟨k + 1, s2, _, _, rfl, by omega, by go_num, rfl, rfl, HI2.out.2.1, HNx.out, HM3.out.later (below_drewN (Below.refl _ _) _)⟩
         ·
          have HNx : Hid (FoIn per ps ws s s2 (k + 1) first' best) := hin2.keeps HP.out.2.2 HP.out.2.1 h1 hs2 hd hf' (.inr ⟨b, hbe, by omega⟩)
          rw [if_neg hff] at hf'
          subst hf'
          have hbn : b < n := by omega
          have cb2 := hmem2.tags.cell b hbn
          obtain ⟨x1, hx1⟩ : ∃ x1, s2.q.tag k = x1 := ⟨_, rfl⟩
          obtain ⟨x2, hx2⟩ : ∃ x2, s2.q.tag b = x2 := ⟨_, rfl⟩
          rw [hx1] at ck2 hless
          rw [hx2] at cb2 hless
          subst hbe
          have t2 : decide ((b : Int) < 0) = false := decide_eq_false (by omega)
          have t3 : decide (x1 < x2) = false := decide_eq_false hless
          clear hx1 hx2
          clear hin2 hmem2 hs2 hd hv2
          go_wp2_with fail
          go_quiet (fail)
          go_wp2_with fail
          go_roundg (n - (k + 1))
          case measure => omega
          case rel => exact ⟨k + 1, s2, _, _, rfl, by omega, by go_num, rfl, rfl, HI2.out.2.1, HNx.out, HM3.out.later (below_drewN (Below.refl _ _) _)⟩
      ·
       rw [decide_eq_false hcm] at cc2
       by_cases hff : first < 0
       ·
        have HNx : Hid (FoIn per ps ws s s2 (k + 1) first' best) := hin2.keeps HP.out.2.2 HP.out.2.1 h1 hs2 hd hf' (.inl hcm)
        rw [if_pos hff] at hf'
        subst hf'
        clear hin2 hmem2 hs2 hd hv2
        go_wp2_with fail
        go_quiet (fail)
        go_wp2_with fail
        go_roundg (n - (k + 1))
        case measure => omega
        case rel => exact ⟨k + 1, s2, _, _, rfl, by omega, by go_num, rfl, rfl, HI2.out.2.1, HNx.out, HM3.out.later (below_drewN (Below.refl _ _) _)⟩
       ·
        have HNx : Hid (FoIn per ps ws s s2 (k + 1) first' best) := hin2.keeps HP.out.2.2 HP.out.2.1 h1 hs2 hd hf' (.inl hcm)
        rw [if_neg hff] at hf'
        subst hf'
        clear hin2 hmem2 hs2 hd hv2
        go_wp2_with fail
        go_quiet (fail)
        go_wp2_with fail
        go_roundg (n - (k + 1))
        case measure => omega
        case rel => exact ⟨k + 1, s2, _, _, rfl, by omega, by go_num, rfl, rfl, HI2.out.2.1, HNx.out, HM3.out.later (below_drewN (Below.refl _ _) _)⟩
    ·
     have hkn2 : k = n := by omega
     have hin := HIn.out.1
     rw [hkn2, ← HNN.out] at hin
     have hlen1 : s1.out.length = L := by rw [hin.out]; exact HNw.out.2.1
     obtain ⟨b2, o2, rfl, -, hc2⟩ := HP.out.1.place (by rw [HNN.out]; omega)
     have HC2 : Hid (∀ W (i : Nat) p, Below w.heap.size w W → ps[i]? = some p → W.cell? ⟨b2, o2 + i * 3 + 1, none⟩ = some (.int .i64 p.size) ∧ W.cell? ⟨b2, o2 + i * 3 + 2, none⟩ = some (.int .i64 p.tick)) := fun W i p hb hp => ⟨cell_later hb (hc2 i p hp).2.1, cell_later hb (hc2 i p hp).2.2⟩
     clear hc2
     have hknot : ¬ k < n := hkn
     by_cases hb : best < 0
     ·
      obtain ⟨p, hfirst, hp, hre2, hnot⟩ := hin.none HP.out.2.2 HP.out.2.1 h1 hb (by rw [hlen1, HNN.out]; exact hlt)
      have hnx : s1.next < n := by have := lt_of_get hp; rw [HNN.out] at this; exact this
      have hMn := HM2.out.newLast 3
      have c1 := (HC2.out _ s1.next p hMn.below hp).2
      have hmi := HMi.out
      have HFin : Hid (Reaches (fairQ ps ws) per ps fair0 ⟨s1.out, p.tick, s1.next, s1.q.rests⟩ ∧ FoMem w (W2.alloc (.cells (madeCells #[.int .i64 0] 8) 3)) gt gc gd W2.heap.size n (.slice a7 L k7) s1.out s1.next s1.q.tag (fun _ => 0) ∧ foLeft ps ⟨s1.out, p.tick, s1.next, s1.q.rests⟩ < foLeft ps s) := ⟨hre2, hMn, foLeft_idle hin.out ⟨by rw [HNN.out]; exact hnx, by simp only; rw [tickOf_get hp]; exact Int.le_refl _⟩ (fun hh => hnot (by
       obtain ⟨q, hq, -⟩ := get_some ps s.next hh.1
       exact ⟨q, hq, by rw [← tickOf_get hq]; exact hh.2⟩))⟩
      obtain ⟨nx, hnxe⟩ : ∃ nx, s1.next = nx := ⟨_, rfl⟩
      obtain ⟨tk, htk⟩ : ∃ tk, p.tick = tk := ⟨_, rfl⟩
      have HNx : Hid (s1.next = nx ∧ p.tick = tk) := ⟨hnxe, htk⟩
      rw [hnxe] at c1 hnx hfirst
      rw [htk] at c1
      subst hfirst
      clear hin hre2 hnot hMn hp hnxe htk hkn2 hlen1
      go_wp2_with fail
      go_roundg (foLeft ps ⟨s1.out, p.tick, s1.next, s1.q.rests⟩)
      case measure => exact HFin.out.2.2
      case rel => exact ⟨_, _, rfl, rfl, rfl, by rw [HNx.out.2], HFin.out.1, HFin.out.2.1⟩
     ·
      obtain ⟨b, p, hbe, hp, hd, hre2⟩ := hin.one HP.out.2.2 HP.out.2.1 h1 hb
      have hbn : b < n := by have := lt_of_get hp; rw [HNN.out] at this; exact this
      have c1 := (HC2.out _ b p HM2.out.below hp).1
      obtain ⟨-, -, z1, z2, -, -⟩ := okPk_true (HP.out.2.1.each _ _ hp).1
      have a1 : 0 ≤ per * p.size := Int.mul_nonneg (by omega) (by omega)
      have a2 : per * p.size ≤ 1000 * 1500 := Int.mul_le_mul (by omega) z2 (by omega) (by omega)
      have hnw1 := HNw1.out
      rw [hnw1] at hre2
      obtain ⟨y, hy⟩ : ∃ y, p.size = y := ⟨_, rfl⟩
      obtain ⟨m, hm⟩ : ∃ m, per * y = m := ⟨_, rfl⟩
      obtain ⟨fn, hto⟩ : ∃ fn, nw + m = fn := ⟨_, rfl⟩
      rw [hy] at c1 a1 a2 hre2
      rw [hm] at a1 a2 hre2
      rw [hto] at hre2
      have hw : IntKind.i64.wrap (per * y) = m := by rw [hm]; exact IntWalk.i64_in _ (by omega)
      have hw2 : IntKind.i64.wrap (nw + m) = fn := by rw [← hto]; exact IntWalk.i64_in _ (by omega)
      have HLen : Hid (s1.out.length = L ∧ s1.out = s.out) := ⟨hlen1, hin.out⟩
      have hownL := HM2.out.own
      unfold OwnS at hownL
      rw [hlen1] at hownL
      have HRe : Hid (Reaches (fairQ ps ws) per ps fair0 ⟨s1.out ++ [⟨(b : Nat), nw, fn⟩], fn, s1.next, s1.q.left b⟩) := hre2
      have hb2 : Below W2.heap.size W2 ((W2.alloc (.cells #[.int .i64 b, .int .i64 nw, .int .i64 fn] 78)).alloc (.cells #[.int .i64 b, .int .i64 nw, .int .i64 fn] 78)) := ((Below.refl _ _).alloc (Nat.le_refl _) _).alloc (by simp) _
      have HA4 : Hid (FoMem w ((W2.alloc (.cells #[.int .i64 b, .int .i64 nw, .int .i64 fn] 78)).alloc (.cells #[.int .i64 b, .int .i64 nw, .int .i64 fn] 78)) gt gc gd gl n (.slice a7 L k7) s1.out s1.next s1.q.tag s1.q.last ∧ Below W2.heap.size W2 ((W2.alloc (.cells #[.int .i64 b, .int .i64 nw, .int .i64 fn] 78)).alloc (.cells #[.int .i64 b, .int .i64 nw, .int .i64 fn] 78))) := ⟨HM2.out.later hb2, hb2⟩
      have HOw : Hid (((W2.alloc (.cells #[.int .i64 b, .int .i64 nw, .int .i64 fn] 78)).alloc (.cells #[.int .i64 b, .int .i64 nw, .int .i64 fn] 78)).ownsRow w.heap.size 78 3 (.slice a7 L k7) L (cellsS s1.out)) := ownsRow_of_block hownL (fun g _ hg => hb2.block g hg)
      have HNews : Hid (∀ j u, (cellsS [⟨b, nw, fn⟩])[j]? = some u → ((W2.alloc (.cells #[.int .i64 b, .int .i64 nw, .int .i64 fn] 78)).alloc (.cells #[.int .i64 b, .int .i64 nw, .int .i64 fn] 78)).cell? ((⟨W2.heap.size + 1, 0, none⟩ : Addr).add j) = some u) := World.news_of_block (cs := #[.int .i64 b, .int .i64 nw, .int .i64 fn]) (t := 78) (by have := heap_alloc_new (W2.alloc (.cells #[.int .i64 b, .int .i64 nw, .int .i64 fn] 78)) (.cells #[.int .i64 b, .int .i64 nw, .int .i64 fn] 78); simpa using this)
      have HCel : Hid (((W2.alloc (.cells #[.int .i64 b, .int .i64 nw, .int .i64 fn] 78)).alloc (.cells #[.int .i64 b, .int .i64 nw, .int .i64 fn] 78)).cell? ⟨W2.heap.size, 2, none⟩ = some (.int .i64 fn)) := cell_later ((Below.refl _ _).alloc (Nat.le_refl _) _) (by simp)
      have HBs : Hid (w.heap.size ≤ ((W2.alloc (.cells #[.int .i64 b, .int .i64 nw, .int .i64 fn] 78)).alloc (.cells #[.int .i64 b, .int .i64 nw, .int .i64 fn] 78)).heap.size ∧ W2.heap.size < ((W2.alloc (.cells #[.int .i64 b, .int .i64 nw, .int .i64 fn] 78)).alloc (.cells #[.int .i64 b, .int .i64 nw, .int .i64 fn] 78)).heap.size) := ⟨HA4.out.1.below.size, by simp; omega⟩
      have HNe : Hid (some W2.heap.size ≠ (Value.slice a7 L k7).ownBlock) := fun e => by
       have := (ownsRow_lt HM2.out.own e.symm).2
       omega
      have HGW : Hid (gd < W2.heap.size ∧ b < n) := ⟨HM2.out.done.lt, hbn⟩
      obtain ⟨T, hT⟩ : ∃ T, s1.q.tag b = T := ⟨_, rfl⟩
      have HT : Hid (s1.q.tag b = T) := hT
      have HDn : Hid (isDone s1.out b = false) := hd
      subst hbe
      clear hin hre2 hp hd z1 z2 hy hm hto hkn2 hlen1 hb2 hownL hT hnw1
      go_wp2_with (at_builtin; go_must (refine wpList_append_lies _ rfl _ _ 45 rfl w.heap.size 78 iS (.agg #[.int .i64 0, .int .i64 0, .int .i64 0]) 3 24 Tryz.underlying45 hiS hzS0 hzS1 hzS2 rfl (by decide) (.slice a7 L k7) L (cellsS s1.out) rfl HOw.out ⟨W2.heap.size + 1, 0, none⟩ 1 1 (cellsS [⟨b, nw, fn⟩]) rfl rfl HNews.out (cellsS_one _) (by decide) (by unfold maxLen; omega) (by omega) HBs.out.1 _ rfl ?_; intro g5 cap5 w5 ho5 hg5 hat5 hlt5; have c5 : w5.cell? ⟨W2.heap.size, 2, none⟩ = some (.int .i64 fn) := (hg5.cell_far ⟨W2.heap.size, 2, none⟩ HBs.out.2 HNe.out).trans HCel.out; have d5 : w5.cell? ⟨gd, b, none⟩ = some (.bool (isDone s1.out b)) := (hg5.cell_far ⟨gd, b, none⟩ HA4.out.1.done.lt (fun e => HA4.out.1.vne.2.2.1 e.symm)).trans (HA4.out.1.done.cell b HGW.out.2); have f5 : w5.frozen? ⟨gd, b, none⟩ = false := (hg5.frozen_far ⟨gd, b, none⟩ HA4.out.1.done.lt (fun e => HA4.out.1.vne.2.2.1 e.symm)).trans (HA4.out.1.done.frozen b); have c6 : (w5.setCell ⟨gd, b, none⟩ (.bool true)).cell? ⟨W2.heap.size, 2, none⟩ = some (.int .i64 fn) := (World.cell?_setCell_other _ _ _ _ (by intro e; have e' := congrArg Addr.block e; have := HGW.out.1; simp at e'; omega)).trans c5; have H5 : Hid (FoMem w (w5.setCell ⟨gd, b, none⟩ (.bool true)) gt gc gd gl n (.slice (some ⟨g5, 0, none⟩) (L + 1) cap5) (s1.out ++ [⟨b, nw, fn⟩]) s1.next s1.q.tag s1.q.last) := (by have := HM2.out.sent b HGW.out.2 (f := nw) (t := fn) (g' := g5) (cap := cap5) HA4.out.2 (by rw [HLen.out.1]; exact ho5) hg5 hat5; rwa [HLen.out.1] at this); have t6 : (w5.setCell ⟨gd, b, none⟩ (.bool true)).cell? ⟨gt, b, none⟩ = some (.int .i64 T) := (by have := H5.out.tags.cell b HGW.out.2; rwa [HT.out] at this); clear ho5 hg5 hat5 hlt5 c5))
      go_roundg (foLeft ps ⟨s1.out ++ [⟨(b : Nat), nw, fn⟩], fn, s1.next, s1.q.left b⟩)
      case measure => exact foLeft_send (by simp [HLen.out.2]) (by rw [HNw.out.2.1, HNN.out]; exact hlt)
      case rel => exact ⟨_, gl, rfl, rfl, by rw [show (s1.q.left b).v = s1.q.tag b from rfl, HT.out], rfl, HRe.out, H5.out⟩
  ·
   have HEnd : Hid (FairEnd per ps ws w (.returned (.tuple #[.slice a7 L k7, .slice (some ⟨gt, 0, none⟩) n n])) W0) := by
    have hc := HR0.out.count (fair_law HP.out.2.2 HP.out.2.1 h1)
    have hnx := HR0.out.next_le
    have e1 := HNw.out.2.1
    have e2 := HNN.out
    exact ⟨_, gt, s.out, s.q.tag, by rw [HNN.out], HM.out.own, by rw [HNN.out]; exact HM.out.tags, ⟨s, HR0.out, by omega, by omega, rfl, rfl⟩, HM.out.below⟩
   go_wp2_with fail
   go_ret2
   exact HEnd.out
end Go.Proofs.YtibhkijaafdkoaaGreatDoor
