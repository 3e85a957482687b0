/- Own facts, put together: no statement of its own. -/
import Derived.Test.YtnomdlclkpnjpaaGreatDoorR14
namespace Go.Proofs.YtnomdlclkpnjpaaGreatDoor
open Go.RowKit
def asInts (q : List Nat) : List Int := q.map fun (k : Nat) => (k : Int)
theorem asInts_length (q : List Nat) : (asInts q).length = q.length := by simp [asInts]
theorem asInts_get {q : List Nat} {j k : Nat} (h : q[j]? = some k) : (asInts q)[j]? = some (k : Int) := by simp [asInts, h]
theorem asInts_snoc (q : List Nat) (k : Nat) : ints (asInts (q ++ [k])) = ints (asInts q) ++ [.int .i64 (k : Int)] := by simp [asInts, ints]
theorem asInts_more (L : List Nat) (i : Nat) : asInts (L ++ [i]) = asInts L ++ [(i : Int)] := by simp [asInts]
theorem asInts_erase (q : List Nat) (i : Nat) : (asInts q).eraseIdx i = asInts (q.eraseIdx i) := by
 simp only [asInts, List.eraseIdx_eq_take_drop_succ, List.map_append, List.map_take, List.map_drop]
structure HeldR (B : Nat) (W0 : World) (g gm : Nat) (mv : Value) (w : World) (D : Nat → Prop) (q : List Nat) : Prop where
 env : Below B W0 w
 row : ∃ v, w.heap[g]? = some (.cells #[v] 23 (0, 0)) ∧ w.ownsRow B 3 1 v q.length (ints (asInts q)) ∧ v.ownBlock ≠ some g ∧ v.ownBlock ≠ some gm ∧ (∀ k, D k ↔ k = g ∨ k = gm ∨ v.ownBlock = some k)
 mea : w.heap[gm]? = some (.cells #[mv] 189 (0, 0))
 apart : g ≠ gm ∧ B ≤ g ∧ B ≤ gm
section
variable {B : Nat} {W0 : World} {g gm : Nat} {mv : Value} {w w' : World} {D : Nat → Prop} {q : List Nat}
theorem HeldR.foot (h : HeldR B W0 g gm mv w D q) : ∀ k, D k → B ≤ k ∧ k < w.heap.size := by
 obtain ⟨v, h1, h2, -, -, h5⟩ := h.row
 intro k hk
 rcases (h5 k).1 hk with rfl | rfl | hk
 · exact ⟨h.apart.2.1, lt_of_block h1⟩
 · exact ⟨h.apart.2.2, lt_of_block h.mea⟩
 · exact ownsRow_lt h2 hk
theorem HeldR.but {S : Nat → Prop} (h : HeldR B W0 g gm mv w D q) (hb : But S w w') (hs : ∀ k, D k → ¬ S k) (hB : ∀ k, S k → B ≤ k) : HeldR B W0 g gm mv w' D q := by
 obtain ⟨v, h1, h2, h3, h4, h5⟩ := h.row
 have hsz : B ≤ w.heap.size := Nat.le_trans h.apart.2.1 (Nat.le_of_lt (lt_of_block h1))
 exact ⟨h.env.trans (hb.below hsz hB), ⟨v, (hb.block g (lt_of_block h1) (hs g ((h5 g).2 (.inl rfl)))).trans h1, ownsRow_of_block h2 (fun k hv hk => hb.block k hk (hs k ((h5 k).2 (.inr (.inr hv))))), h3, h4, h5⟩, (hb.block gm (lt_of_block h.mea) (hs gm ((h5 gm).2 (.inr (.inl rfl))))).trans h.mea, h.apart⟩
theorem HeldR.later (h : HeldR B W0 g gm mv w D q) (hb : Below w.heap.size w w') : HeldR B W0 g gm mv w' D q :=
 h.but (S := fun _ => False) (.ofBelow hb) (fun _ _ h => h) (fun _ h => h.elim)
theorem HeldR.alloc (h : HeldR B W0 g gm mv w D q) (o : Obj) : HeldR B W0 g gm mv (w.alloc o) D q := h.later ((Below.refl _ _).alloc (Nat.le_refl _) _)
theorem HeldR.stored {v v' : Value} {w1 w2 : World} {q' : List Nat} (h : HeldR B W0 g gm mv w D q) (hv : w.heap[g]? = some (.cells #[v] 23 (0, 0))) (hb1 : Below w.heap.size w w1) (hbut : But (fun k => v.ownBlock = some k) w1 w2)
  (hown : w2.ownsRow B 3 1 v' q'.length (ints (asInts q'))) (hnew : ∀ k, v'.ownBlock = some k → v.ownBlock = some k ∨ w1.heap.size ≤ k) :
  QueLeft (HeldR B W0 g gm mv) w (w2.setCell ⟨g, 0, none⟩ v') D q' := by
 obtain ⟨u, h1, h2, h3, h4, h5⟩ := h.row
 have e : u = v := by
  rw [hv] at h1
  injection h1 with h1
  injection h1 with h1
  simp at h1
  exact h1.symm
 subst e
 have hgl := lt_of_block h1
 have hml := lt_of_block h.mea
 have hsz : B ≤ w.heap.size := Nat.le_trans h.apart.2.1 (Nat.le_of_lt hgl)
 have hs1 := hb1.size
 have hg2 : w2.heap[g]? = some (.cells #[u] 23 (0, 0)) := (hbut.block g (by omega) h3).trans ((hb1.block g hgl).trans h1)
 have hm2 : w2.heap[gm]? = some (.cells #[mv] 189 (0, 0)) := (hbut.block gm (by omega) h4).trans ((hb1.block gm hml).trans h.mea)
 have hb2 : But (fun k => k = g) w2 (w2.setCell ⟨g, 0, none⟩ v') := But.setCell (S := fun k => k = g) (But.refl _ w2) (p := ⟨g, 0, none⟩) rfl v'
 have hvg : v'.ownBlock ≠ some g := fun e => by
  rcases hnew g e with h' | h'
  · exact h3 h'
  · omega
 have hvm : v'.ownBlock ≠ some gm := fun e => by
  rcases hnew gm e with h' | h'
  · exact h4 h'
  · omega
 have hall : But D w (w2.setCell ⟨g, 0, none⟩ v') := ((But.ofBelow hb1).trans (hbut.mono fun k hk => (h5 k).2 (.inr (.inr hk)))).trans (hb2.mono fun k hk => (h5 k).2 (.inl hk))
 refine ⟨fun k => k = g ∨ k = gm ∨ v'.ownBlock = some k, ⟨h.env.trans (hall.below hsz fun k hk => (h.foot k hk).1), ⟨v', one_setCell hg2, ownsRow_of_block hown (fun k hv' hk => hb2.block k hk (fun e => hvg (by rw [← e]; exact hv'))), hvg, hvm, fun k => Iff.rfl⟩, (hb2.block gm (lt_of_block hm2) (fun e => h.apart.1 e.symm)).trans hm2, h.apart⟩, hall, fun k hk => ?_⟩
 rcases hk with rfl | rfl | hk
 · exact .inl ((h5 _).2 (.inl rfl))
 · exact .inl ((h5 _).2 (.inr (.inl rfl)))
 ·
  rcases hnew k hk with h' | h'
  · exact .inl ((h5 k).2 (.inr (.inr h')))
  · exact .inr (by omega)
theorem HeldR.same (h : HeldR B W0 g gm mv w D q) (hb : Below w.heap.size w w') : QueLeft (HeldR B W0 g gm mv) w w' D q := ⟨D, h.later hb, .ofBelow hb, fun _ hk => .inl hk⟩
theorem QueLeft.after {σ : Type} {Held : World → (Nat → Prop) → σ → Prop} {w w1 w' : World} {D : Nat → Prop} {q : σ} (hb : Below w.heap.size w w1) (h : QueLeft Held w1 w' D q) : QueLeft Held w w' D q := by
 obtain ⟨D', h1, h2, h3⟩ := h
 refine ⟨D', h1, (But.ofBelow hb).trans h2, fun k hk => ?_⟩
 rcases h3 k hk with h | h
 · exact .inl h
 · exact .inr (Nat.le_trans hb.size h)
end
theorem rankMem (B : Nat) (W0 : World) (g gm : Nat) (mv : Value) : QueMem (HeldR B W0 g gm mv) B := ⟨fun _ _ _ h => h.foot, fun _ _ _ _ _ h hb hs hB => h.but hb hs hB⟩
set_option maxRecDepth 100000 in
set_option maxHeartbeats 1000000 in
theorem rankCome (B : Nat) (W0 : World) (g gm : Nat) (mv : Value) (D : Nat → Prop) (q : List Nat) (k : Nat) (w : World) (h : HeldR B W0 g gm mv w D q) (hn : q.length ≤ 1000) :
  Calls Tryz.prog 152 #[.int .i64 (k : Int), .pointer (some ⟨g, 0, none⟩)] w fun e w' => e = .returned (.tuple #[]) ∧ QueLeft (HeldR B W0 g gm mv) w w' D (q ++ [k]) := by
 obtain ⟨i0, hi, hz0, hz1, hz2⟩ := info_parts Tryz.infoInt
 have HH : Hid (HeldR B W0 g gm mv w D q) := h
 obtain ⟨v, h1, h2, h3, h4, h5⟩ := h.row
 have hgl := lt_of_block h1
 have c0 := cell_of_one h1
 have H1 : Hid (w.heap[g]? = some (.cells #[v] 23 (0, 0)) ∧ v.ownBlock ≠ some g ∧ B ≤ w.heap.size) := ⟨h1, h3, Nat.le_trans h.apart.2.1 (Nat.le_of_lt hgl)⟩
 have hb0 : Below w.heap.size w (w.alloc (.cells #[.int .i64 (k : Int)] 3)) := (Below.refl _ _).alloc (Nat.le_refl _) _
 have H2 : Hid ((w.alloc (.cells #[.int .i64 (k : Int)] 3)).ownsRow B 3 1 v q.length (ints (asInts q))) := ownsRow_of_block h2 (fun g' _ hg' => hb0.block g' hg')
 have HNew : Hid (∀ j u, (ints [(k : Int)])[j]? = some u → (w.alloc (.cells #[.int .i64 (k : Int)] 3)).cell? (Addr.add ⟨w.heap.size, 0, none⟩ j) = some u) := by
  intro j u hu
  cases j with
  | zero => simp [ints] at hu; subst hu; simp [Addr.add]
  | succ j => simp [ints] at hu
 have HBs : Hid (B ≤ (w.alloc (.cells #[.int .i64 (k : Int)] 3)).heap.size) := Nat.le_trans H1.out.2.2 hb0.size
 clear h1 h2 h3 h4 h5 h hb0
 go_enter Tryz.func152, Tryz.ntmps152
 go_wp2_with (at_builtin; go_must (refine wpList_append_lies _ rfl _ _ 23 rfl B 3 i0 (.int .i64 0) 1 8 Tryz.underlying23 hi hz0 hz1 hz2 rfl (by decide) v q.length (ints (asInts q)) rfl H2.out ⟨w.heap.size, 0, none⟩ 1 1 (ints [(k : Int)]) rfl rfl HNew.out (ints_one _) (by decide) (by unfold maxLen; omega) (by omega) HBs.out _ rfl ?_; intro g5 cap5 w5 ho5 hg5 hat5 hlt5; have hbut : But (fun k => v.ownBlock = some k) (w.alloc (.cells #[.int .i64 (k : Int)] 3)) w5 := ⟨hg5.os, hg5.tape, hg5.output, hg5.size, fun k hk hn => hg5.block k hk (fun e => hn e.symm)⟩; have hgb : w5.heap[g]? = some (.cells #[v] 23 (0, 0)) := (hbut.block g (by simp; omega) H1.out.2.1).trans ((Below.heap_alloc w _ g hgl).trans H1.out.1); have c5 := cell_of_one hgb; have f5 := free_of_one hgb; have H5 : Hid (w5.ownsRow B 3 1 (.slice (some ⟨g5, 0, none⟩) (q.length + 1) cap5) (q.length + 1) (ints (asInts q) ++ ints [(k : Int)]) ∧ But (fun k => v.ownBlock = some k) (w.alloc (.cells #[.int .i64 (k : Int)] 3)) w5 ∧ (v.ownBlock = some g5 ∨ g5 = (w.alloc (.cells #[.int .i64 (k : Int)] 3)).heap.size)) := ⟨ho5, hbut, hat5⟩; clear ho5 hg5 hat5 hlt5 hbut hgb))
 go_end0
 refine ⟨rfl, HH.out.stored H1.out.1 ((Below.refl _ _).alloc (Nat.le_refl _) _) H5.out.2.1 ?_ ?_⟩
 ·
  rw [asInts_snoc, List.length_append]
  exact H5.out.1
 ·
  intro j hj
  have e : g5 = j := Option.some.inj hj
  rcases H5.out.2.2 with h | h
  · exact .inl (by rw [← e]; exact h)
  · exact .inr (by rw [← e, h]; exact Nat.le_refl _)
end Go.Proofs.YtnomdlclkpnjpaaGreatDoor

namespace Go.Proofs.YtnomdlclkpnjpaaGreatDoor
open Go.RowKit
theorem own_open {w : World} {B : Nat} {v : Value} {zs : List Int} (h : w.ownsRow B 3 1 v zs.length (ints zs)) : ∃ ao cap, v = .slice ao zs.length cap ∧ zs.length ≤ cap ∧ cap ≤ maxLen := by
 obtain ⟨h1, ⟨rfl, h0⟩ | ⟨g, cap, cur, rfl, hB, hg, hn, hm, hc, ht⟩⟩ := h
 · exact ⟨none, 0, by rw [h0], by omega, by simp [maxLen]⟩
 · exact ⟨_, cap, rfl, hn, hm⟩
theorem own_some {w : World} {B : Nat} {v : Value} {zs : List Int} (h : w.ownsRow B 3 1 v zs.length (ints zs)) (h0 : 0 < zs.length) : ∃ g cap, v = .slice (some ⟨g, 0, none⟩) zs.length cap ∧ zs.length ≤ cap ∧ cap ≤ maxLen ∧ ∀ (i : Nat) x, zs[i]? = some x → w.cell? ⟨g, i, none⟩ = some (.int .i64 x) := by
 have hh := h
 obtain ⟨h1, ⟨rfl, h0'⟩ | ⟨g, cap, cur, rfl, hB, hg, hn, hm, hc, ht⟩⟩ := h
 · omega
 ·
  refine ⟨g, cap, rfl, hn, hm, fun i x hx => ?_⟩
  have hi : i < zs.length := by
   rcases Nat.lt_or_ge i zs.length with h' | h'
   · exact h'
   · simp [List.getElem?_eq_none h'] at hx
  rw [hh.cellAt i (by omega)]
  exact ints_get hx
def LeastTaken (B : Nat) (w : World) (r cap : Nat) (q : List Nat) (i : Nat) (e : Ending) (w' : World) : Prop :=
 e = .returned (.tuple #[.int .i64 (q.getD i 0 : Nat), .slice (some ⟨r, 0, none⟩) (q.length - 1) cap]) ∧ w'.ownsRow B 3 1 (.slice (some ⟨r, 0, none⟩) (q.length - 1) cap) (q.length - 1) (ints (asInts (q.eraseIdx i))) ∧ But (fun j => j = r) w w'
set_option maxRecDepth 100000 in
set_option maxHeartbeats 4000000 in
theorem takeLeastA (B : Nat) (f : Nat) (x1 x2 : Value) (key : Nat → Int) (n r cap : Nat) (q : List Nat) (w : World) (hn : q.length ≤ 1000) (h0 : 0 < q.length) (hq : ∀ k, k ∈ q → k < n)
  (h2 : w.ownsRow B 3 1 (.slice (some ⟨r, 0, none⟩) q.length cap) q.length (ints (asInts q))) (hlc : q.length ≤ cap) (hcm : cap ≤ maxLen)
  (hf : ∀ args W, Sem.run Tryz.prog (callFunc f args) W = .ok (.enter f args) W)
  (hM : ∀ m k, k < n → Calls Tryz.prog f #[.int .i64 ((k : Nat) : Int), x1, x2] (w.drewN m) fun e w' => e = .returned (.int .i64 (key k)) ∧ ∃ m', w' = (w.drewN m).drewN m') :
  Calls Tryz.prog 154 #[.slice (some ⟨r, 0, none⟩) q.length cap, .func (.func f) #[] #[x1, x2]] w fun e w' => LeastTaken B w r cap q (pickAt key q) e w' := by
 have HM : Hid (∀ m k, k < n → Calls Tryz.prog f #[.int .i64 ((k : Nat) : Int), x1, x2] (w.drewN m) fun e w' => e = .returned (.int .i64 (key k)) ∧ ∃ m', w' = (w.drewN m).drewN m') := hM
 have hcell := (fun (i : Nat) x (hx : (asInts q)[i]? = some x) => (h2.cellAt i (by have := lt_of_get hx; rw [asInts_length] at this; omega)).trans (ints_get hx) : ∀ (i : Nat) x, (asInts q)[i]? = some x → w.cell? ⟨r, i, none⟩ = some (.int .i64 x))
 have H2 : Hid (w.ownsRow B 3 1 (.slice (some ⟨r, 0, none⟩) (asInts q).length cap) (asInts q).length (ints (asInts q)) ∧ cap ≤ maxLen ∧ (asInts q).length ≤ cap) := by rw [asInts_length]; exact ⟨h2, hcm, hlc⟩
 have HC : Hid (∀ i, i < q.length → ∃ k, q[i]? = some k ∧ q.getD i 0 = k ∧ k < n ∧ w.cell? ⟨r, i, none⟩ = some (.int .i64 ((k : Nat) : Int))) := fun i hi => by
  obtain ⟨k, hk, hmem⟩ := get_some q i hi
  exact ⟨k, hk, by simp [List.getD, hk], hq k hmem, hcell i _ (asInts_get hk)⟩
 unfold maxLen at hcm
 clear h2 hq hM hcell
 obtain ⟨l, hl⟩ : ∃ l, q.length = l := ⟨_, rfl⟩
 have HL : Hid (q.length = l) := hl
 rw [hl] at hn h0 hlc HC ⊢
 clear hl
 go_enter Tryz.func154, Tryz.ntmps154
 go_wp2_with fail
 go_loopw [6, 11] (fun fi i wr => ∃ k : Nat, k ≤ l ∧ i = .int .i64 k ∧ fi = .int .i64 (firstLeast key q k) ∧ ∃ m, wr = w.drewN m) (fun _ i _ => l - (intOf i).toNat)
 case atStart => exact ⟨0, Nat.zero_le _, rfl, rfl, 0, rfl⟩
 case round =>
  obtain ⟨k, hk, rfl, rfl, m, hm⟩ := hrel
  have HW : Hid (wr = w.drewN m) := hm
  by_cases hkl : k < l
  ·
   have hfl : firstLeast key q k < l := by rw [← HL.out]; exact firstLeast_lt key (by rw [HL.out]; exact h0) (by rw [HL.out]; exact hk)
   obtain ⟨fl, hfe⟩ : ∃ fl, firstLeast key q k = fl := ⟨_, rfl⟩
   obtain ⟨a, ha, had, han, ca⟩ := HC.out k hkl
   rw [hfe] at hfl ⊢
   obtain ⟨b, hb, hbd, hbn, cb⟩ := HC.out fl hfl
   have HE : Hid (firstLeast key q (k + 1) = if key a < key b then k else fl) := by
    show firstLeast key q (k + 1) = _
    simp only [firstLeast, had, hfe, hbd]
   have da : wr.cell? ⟨r, k, none⟩ = some (.int .i64 (a : Int)) := by rw [hm]; exact ca
   have db : wr.cell? ⟨r, fl, none⟩ = some (.int .i64 (b : Int)) := by rw [hm]; exact cb
   have HMa : Hid (∀ j, Calls Tryz.prog f #[.int .i64 ((a : Nat) : Int), x1, x2] (wr.drewN j) fun e w' => e = .returned (.int .i64 (key a)) ∧ ∃ m', w' = (wr.drewN j).drewN m') := fun j => by
    have := HM.out (m + j) a han
    rw [hm, World.drewN_drewN]
    exact this
   have HMb : Hid (∀ j, Calls Tryz.prog f #[.int .i64 ((b : Nat) : Int), x1, x2] (wr.drewN j) fun e w' => e = .returned (.int .i64 (key b)) ∧ ∃ m', w' = (wr.drewN j).drewN m') := fun j => by
    have := HM.out (m + j) b hbn
    rw [hm, World.drewN_drewN]
    exact this
   clear hfe ha had hb hbd ca cb hm
   by_cases hlt : key a < key b
   ·
    have HE' : Hid (firstLeast key q (k + 1) = k) := HE.out.trans (if_pos hlt)
    go_wp2_with fail
    go_quiet (first
     | exact Calls.quiet_of (HMa.out _)
     | exact Calls.quiet_of (HMb.out _))
    go_wp2_with fail
    go_roundw
    case rel => exact ⟨k + 1, by omega, by go_num, by rw [HE'.out], m + nq, by rw [HW.out, World.drewN_drewN]⟩
    case measure => simp [intOf]; omega
   ·
    have HE' : Hid (firstLeast key q (k + 1) = fl) := HE.out.trans (if_neg hlt)
    go_wp2_with fail
    go_quiet (first
     | exact Calls.quiet_of (HMa.out _)
     | exact Calls.quiet_of (HMb.out _))
    go_wp2_with fail
    go_roundw
    case rel => exact ⟨k + 1, by omega, by go_num, by rw [HE'.out], m + nq, by rw [HW.out, World.drewN_drewN]⟩
    case measure => simp [intOf]; omega
  ·
   obtain rfl : k = l := by omega
   have hfl : firstLeast key q k < k := by rw [← HL.out]; exact firstLeast_lt key (by rw [HL.out]; exact h0) (Nat.le_refl _)
   obtain ⟨fl, hfe⟩ : ∃ fl, firstLeast key q k = fl := ⟨_, rfl⟩
   rw [hfe] at hfl ⊢
   obtain ⟨b, hb, hbd, hbn, cb⟩ := HC.out fl hfl
   have db : wr.cell? ⟨r, fl, none⟩ = some (.int .i64 (b : Int)) := by rw [hm]; exact cb
   have HPick : Hid (pickAt key q = fl ∧ q.getD fl 0 = b) := ⟨by unfold pickAt; rw [HL.out]; exact hfe, hbd⟩
   have HBw : Hid (But (fun j => j = r) w wr) := by
    show But _ _ _
    rw [hm]
    exact .ofBelow (below_drewN (Below.refl _ _) _)
   have HDel : Hid (Calls Tryz.prog 160 #[.slice (some ⟨r, 0, none⟩) k cap, .int .i64 (fl : Int), .int .i64 ((fl : Int) + 1)] wr fun e w' => e = .returned (.slice (some ⟨r, 0, none⟩) (k - 1) cap) ∧ w'.ownsRow B 3 1 (.slice (some ⟨r, 0, none⟩) (k - 1) cap) (k - 1) (ints (asInts (q.eraseIdx fl))) ∧ But (fun j => j = r) wr w') := by
    have hown : wr.ownsRow B 3 1 (.slice (some ⟨r, 0, none⟩) (asInts q).length cap) (asInts q).length (ints (asInts q)) := by rw [hm]; exact H2.out.1
    have hd := delete_one B r cap fl (asInts q) wr hown (by rw [asInts_length, HL.out]; exact hfl) H2.out.2.2 H2.out.2.1
    rw [asInts_length, HL.out, asInts_erase] at hd
    exact hd
   clear hfe hb hbd cb hm
   go_wp2_with fail
   refine HDel.out.mono ?_
   rintro e w2 ⟨rfl, hown2, hbut2⟩
   have HO : Hid (w2.ownsRow B 3 1 (.slice (some ⟨r, 0, none⟩) (k - 1) cap) (k - 1) (ints (asInts (q.eraseIdx fl))) ∧ But (fun j => j = r) wr w2) := ⟨hown2, hbut2⟩
   clear hown2 hbut2
   go_wp2_with fail
   go_ret2
   rw [HPick.out.1]
   unfold LeastTaken
   rw [HL.out, HPick.out.2]
   exact ⟨rfl, HO.out.1, HBw.out.trans HO.out.2⟩
set_option maxRecDepth 100000 in
set_option maxHeartbeats 4000000 in
theorem takeLeastB (B : Nat) (f : Nat) (x1 : Value) (key : Nat → Int) (n r cap : Nat) (q : List Nat) (w : World) (hn : q.length ≤ 1000) (h0 : 0 < q.length) (hq : ∀ k, k ∈ q → k < n)
  (h2 : w.ownsRow B 3 1 (.slice (some ⟨r, 0, none⟩) q.length cap) q.length (ints (asInts q))) (hlc : q.length ≤ cap) (hcm : cap ≤ maxLen)
  (hf : ∀ args W, Sem.run Tryz.prog (callFunc f args) W = .ok (.enter f args) W)
  (hM : ∀ m k, k < n → Calls Tryz.prog f #[x1, .int .i64 ((k : Nat) : Int)] (w.drewN m) fun e w' => e = .returned (.int .i64 (key k)) ∧ ∃ m', w' = (w.drewN m).drewN m') :
  Calls Tryz.prog 154 #[.slice (some ⟨r, 0, none⟩) q.length cap, .func (.func f) #[x1] #[]] w fun e w' => LeastTaken B w r cap q (pickAt key q) e w' := by
 have HM : Hid (∀ m k, k < n → Calls Tryz.prog f #[x1, .int .i64 ((k : Nat) : Int)] (w.drewN m) fun e w' => e = .returned (.int .i64 (key k)) ∧ ∃ m', w' = (w.drewN m).drewN m') := hM
 have hcell := (fun (i : Nat) x (hx : (asInts q)[i]? = some x) => (h2.cellAt i (by have := lt_of_get hx; rw [asInts_length] at this; omega)).trans (ints_get hx) : ∀ (i : Nat) x, (asInts q)[i]? = some x → w.cell? ⟨r, i, none⟩ = some (.int .i64 x))
 have H2 : Hid (w.ownsRow B 3 1 (.slice (some ⟨r, 0, none⟩) (asInts q).length cap) (asInts q).length (ints (asInts q)) ∧ cap ≤ maxLen ∧ (asInts q).length ≤ cap) := by rw [asInts_length]; exact ⟨h2, hcm, hlc⟩
 have HC : Hid (∀ i, i < q.length → ∃ k, q[i]? = some k ∧ q.getD i 0 = k ∧ k < n ∧ w.cell? ⟨r, i, none⟩ = some (.int .i64 ((k : Nat) : Int))) := fun i hi => by
  obtain ⟨k, hk, hmem⟩ := get_some q i hi
  exact ⟨k, hk, by simp [List.getD, hk], hq k hmem, hcell i _ (asInts_get hk)⟩
 unfold maxLen at hcm
 clear h2 hq hM hcell
 obtain ⟨l, hl⟩ : ∃ l, q.length = l := ⟨_, rfl⟩
 have HL : Hid (q.length = l) := hl
 rw [hl] at hn h0 hlc HC ⊢
 clear hl
 go_enter Tryz.func154, Tryz.ntmps154
 go_wp2_with fail
 go_loopw [6, 11] (fun fi i wr => ∃ k : Nat, k ≤ l ∧ i = .int .i64 k ∧ fi = .int .i64 (firstLeast key q k) ∧ ∃ m, wr = w.drewN m) (fun _ i _ => l - (intOf i).toNat)
 case atStart => exact ⟨0, Nat.zero_le _, rfl, rfl, 0, rfl⟩
 case round =>
  obtain ⟨k, hk, rfl, rfl, m, hm⟩ := hrel
  have HW : Hid (wr = w.drewN m) := hm
  by_cases hkl : k < l
  ·
   have hfl : firstLeast key q k < l := by rw [← HL.out]; exact firstLeast_lt key (by rw [HL.out]; exact h0) (by rw [HL.out]; exact hk)
   obtain ⟨fl, hfe⟩ : ∃ fl, firstLeast key q k = fl := ⟨_, rfl⟩
   obtain ⟨a, ha, had, han, ca⟩ := HC.out k hkl
   rw [hfe] at hfl ⊢
   obtain ⟨b, hb, hbd, hbn, cb⟩ := HC.out fl hfl
   have HE : Hid (firstLeast key q (k + 1) = if key a < key b then k else fl) := by
    show firstLeast key q (k + 1) = _
    simp only [firstLeast, had, hfe, hbd]
   have da : wr.cell? ⟨r, k, none⟩ = some (.int .i64 (a : Int)) := by rw [hm]; exact ca
   have db : wr.cell? ⟨r, fl, none⟩ = some (.int .i64 (b : Int)) := by rw [hm]; exact cb
   have HMa : Hid (∀ j, Calls Tryz.prog f #[x1, .int .i64 ((a : Nat) : Int)] (wr.drewN j) fun e w' => e = .returned (.int .i64 (key a)) ∧ ∃ m', w' = (wr.drewN j).drewN m') := fun j => by
    have := HM.out (m + j) a han
    rw [hm, World.drewN_drewN]
    exact this
   have HMb : Hid (∀ j, Calls Tryz.prog f #[x1, .int .i64 ((b : Nat) : Int)] (wr.drewN j) fun e w' => e = .returned (.int .i64 (key b)) ∧ ∃ m', w' = (wr.drewN j).drewN m') := fun j => by
    have := HM.out (m + j) b hbn
    rw [hm, World.drewN_drewN]
    exact this
   clear hfe ha had hb hbd ca cb hm
   by_cases hlt : key a < key b
   ·
    have HE' : Hid (firstLeast key q (k + 1) = k) := HE.out.trans (if_pos hlt)
    go_wp2_with fail
    go_quiet (first
     | exact Calls.quiet_of (HMa.out _)
     | exact Calls.quiet_of (HMb.out _))
    go_wp2_with fail
    go_roundw
    case rel => exact ⟨k + 1, by omega, by go_num, by rw [HE'.out], m + nq, by rw [HW.out, World.drewN_drewN]⟩
    case measure => simp [intOf]; omega
   ·
    have HE' : Hid (firstLeast key q (k + 1) = fl) := HE.out.trans (if_neg hlt)
    go_wp2_with fail
    go_quiet (first
     | exact Calls.quiet_of (HMa.out _)
     | exact Calls.quiet_of (HMb.out _))
    go_wp2_with fail
    go_roundw
    case rel => exact ⟨k + 1, by omega, by go_num, by rw [HE'.out], m + nq, by rw [HW.out, World.drewN_drewN]⟩
    case measure => simp [intOf]; omega
  ·
   obtain rfl : k = l := by omega
   have hfl : firstLeast key q k < k := by rw [← HL.out]; exact firstLeast_lt key (by rw [HL.out]; exact h0) (Nat.le_refl _)
   obtain ⟨fl, hfe⟩ : ∃ fl, firstLeast key q k = fl := ⟨_, rfl⟩
   rw [hfe] at hfl ⊢
   obtain ⟨b, hb, hbd, hbn, cb⟩ := HC.out fl hfl
   have db : wr.cell? ⟨r, fl, none⟩ = some (.int .i64 (b : Int)) := by rw [hm]; exact cb
   have HPick : Hid (pickAt key q = fl ∧ q.getD fl 0 = b) := ⟨by unfold pickAt; rw [HL.out]; exact hfe, hbd⟩
   have HBw : Hid (But (fun j => j = r) w wr) := by
    show But _ _ _
    rw [hm]
    exact .ofBelow (below_drewN (Below.refl _ _) _)
   have HDel : Hid (Calls Tryz.prog 160 #[.slice (some ⟨r, 0, none⟩) k cap, .int .i64 (fl : Int), .int .i64 ((fl : Int) + 1)] wr fun e w' => e = .returned (.slice (some ⟨r, 0, none⟩) (k - 1) cap) ∧ w'.ownsRow B 3 1 (.slice (some ⟨r, 0, none⟩) (k - 1) cap) (k - 1) (ints (asInts (q.eraseIdx fl))) ∧ But (fun j => j = r) wr w') := by
    have hown : wr.ownsRow B 3 1 (.slice (some ⟨r, 0, none⟩) (asInts q).length cap) (asInts q).length (ints (asInts q)) := by rw [hm]; exact H2.out.1
    have hd := delete_one B r cap fl (asInts q) wr hown (by rw [asInts_length, HL.out]; exact hfl) H2.out.2.2 H2.out.2.1
    rw [asInts_length, HL.out, asInts_erase] at hd
    exact hd
   clear hfe hb hbd cb hm
   go_wp2_with fail
   refine HDel.out.mono ?_
   rintro e w2 ⟨rfl, hown2, hbut2⟩
   have HO : Hid (w2.ownsRow B 3 1 (.slice (some ⟨r, 0, none⟩) (k - 1) cap) (k - 1) (ints (asInts (q.eraseIdx fl))) ∧ But (fun j => j = r) wr w2) := ⟨hown2, hbut2⟩
   clear hown2 hbut2
   go_wp2_with fail
   go_ret2
   rw [HPick.out.1]
   unfold LeastTaken
   rw [HL.out, HPick.out.2]
   exact ⟨rfl, HO.out.1, HBw.out.trans HO.out.2⟩
end Go.Proofs.YtnomdlclkpnjpaaGreatDoor
