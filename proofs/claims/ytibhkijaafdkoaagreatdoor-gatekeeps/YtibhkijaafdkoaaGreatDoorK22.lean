/- Own facts, put together: no statement of its own. -/
import Derived.Test.YtibhkijaafdkoaaGreatDoorK21
import Derived.Test.YtibhkijaafdkoaaGreatDoorK17
import Derived.Test.YtibhkijaafdkoaaGreatDoorK11
namespace Go.Proofs.YtibhkijaafdkoaaGreatDoor
open Go.RowKit
def OwnGate (cs : List (List (Int × Int))) (kb : ByteArray) (per : Int) (ns : List Int) (w : World) (e : Ending) (w' : World) : Prop :=
 ∃ ca ccap na ncap, e = .returned (.agg #[.slice ca cs.length ccap, .string kb, .int .i64 per, .slice na ns.length ncap]) ∧ LiesC w' ca cs ∧ cs.length ≤ ccap ∧ ccap ≤ maxLen ∧ LiesN w' na ns ∧ ns.length ≤ ncap ∧ ncap ≤ maxLen ∧ (na = none → ns = [] ∧ ncap = 0) ∧ Below w.heap.size w w'
structure CopyAt (V wr : World) (O : Nat) (v : Value) (kb : ByteArray) (per : Int) (cs : List (List (Int × Int))) (xs : List Value) : Prop where
 c0 : wr.cell? ⟨O, 0, none⟩ = some v
 c1 : wr.cell? ⟨O, 1, none⟩ = some (.string kb)
 c2 : wr.cell? ⟨O, 2, none⟩ = some (.int .i64 per)
 c3 : wr.cell? ⟨O, 3, none⟩ = some (.slice none 0 0)
 free : ∀ i, wr.frozen? ⟨O, i, none⟩ = false
 own : OwnC wr V.heap.size v cs xs
 below : Below O V wr
 lt : O < V.heap.size
theorem CopyAt.later {V wr wr' : World} {O : Nat} {v : Value} {kb : ByteArray} {per : Int} {cs : List (List (Int × Int))} {xs : List Value} (h : CopyAt V wr O v kb per cs xs) (hb : Below wr.heap.size wr wr') : CopyAt V wr' O v kb per cs xs :=
 ⟨cell_later hb h.c0, cell_later hb h.c1, cell_later hb h.c2, cell_later hb h.c3, fun i => by rw [hb.frozen (p := ⟨O, i, none⟩) (show O < wr.heap.size from cell_lt h.c0)]; exact h.free i, h.own.but (S := fun _ => False) (.ofBelow hb) (fun _ hk => hk.elim), h.below.trans (hb.mono (Nat.le_of_lt (Nat.lt_of_lt_of_le h.lt h.below.size))), h.lt⟩
theorem CopyAt.put {V wr w' : World} {O : Nat} {v : Value} {kb : ByteArray} {per : Int} {cs : List (List (Int × Int))} {xs : List Value} (h : CopyAt V wr O v kb per cs xs) {ls : List (Int × Int)} {a : Option Addr} {cap : Nat} (hl : Lies wr a ls) (h1 : ls.length ≤ cap) (h2 : cap ≤ maxLen) (h3 : a = none → ls = [] ∧ cap = 0) (h4 : ∀ ad, a = some ad → V.heap.size ≤ ad.block ∧ ad.block < wr.heap.size ∧ v.ownBlock ≠ some ad.block) {g cap' : Nat}
  (ho : w'.ownsRow V.heap.size 38 1 (.slice (some ⟨g, 0, none⟩) (cs.length + 1) cap') (cs.length + 1) (xs ++ [.slice a ls.length cap])) (hg : wr.grownBy w' v.ownBlock) (hat : v.ownBlock = some g ∨ g = wr.heap.size) :
  w'.cell? ⟨O, 0, none⟩ = some v ∧ w'.frozen? ⟨O, 0, none⟩ = false ∧ CopyAt V (w'.setCell ⟨O, 0, none⟩ (.slice (some ⟨g, 0, none⟩) (cs.length + 1) cap')) O (.slice (some ⟨g, 0, none⟩) (cs.length + 1) cap') kb per (cs ++ [ls]) (xs ++ [.slice a ls.length cap]) := by
 have hOv : v.ownBlock ≠ some O := fun e => by
  have := (ownsRow_lt h.own.row e).1
  have := h.lt
  omega
 have hOw : O < wr.heap.size := cell_lt h.c0
 have hc : ∀ i, w'.cell? ⟨O, i, none⟩ = wr.cell? ⟨O, i, none⟩ := fun i => hg.cell_far ⟨O, i, none⟩ hOw (fun e => hOv e.symm)
 have hf : ∀ i, w'.frozen? ⟨O, i, none⟩ = wr.frozen? ⟨O, i, none⟩ := fun i => hg.frozen_far ⟨O, i, none⟩ hOw (fun e => hOv e.symm)
 have hoc := h.own.grown hl h1 h2 h3 h4 ho hg hat
 have hb1 : But (fun k => k = O) w' (w'.setCell ⟨O, 0, none⟩ (.slice (some ⟨g, 0, none⟩) (cs.length + 1) cap')) := But.setCell (S := fun k => k = O) (But.refl _ w') (p := ⟨O, 0, none⟩) rfl _
 have ne : ∀ i : Nat, i ≠ 0 → (⟨O, 0, none⟩ : Addr) ≠ ⟨O, i, none⟩ := fun i hi e => by injection e with e1 e2; exact hi e2.symm
 refine ⟨(hc 0).trans h.c0, (hf 0).trans (h.free 0), World.cell?_setCell_same' _ _ _ (by rw [hc 0, h.c0]; rfl), ?_, ?_, ?_, fun i => by rw [World.frozen?_setCell, hf i]; exact h.free i, hoc.but hb1 (fun k hk => by rw [hk]; exact h.lt), ?_, h.lt⟩
 · rw [World.cell?_setCell_other _ _ _ _ (ne 1 (by omega)), hc 1]; exact h.c1
 · rw [World.cell?_setCell_other _ _ _ _ (ne 2 (by omega)), hc 2]; exact h.c2
 · rw [World.cell?_setCell_other _ _ _ _ (ne 3 (by omega)), hc 3]; exact h.c3
 · exact (h.below.grown hg (Nat.le_of_lt hOw) (fun k hk => by have := (ownsRow_lt h.own.row hk).1; have := h.lt; omega)).setCell (p := ⟨O, 0, none⟩) (Nat.le_refl _) _
set_option maxRecDepth 100000 in
set_option maxHeartbeats 4000000 in
theorem ownGate_any (ca : Option Addr) (ccap : Nat) (cs : List (List (Int × Int))) (kb : ByteArray) (per : Int) (na : Option Addr) (ncap : Nat) (ns : List Int) (w : World) (hc : LiesC w ca cs) (hn : LiesN w na ns) (hna : na = none → ns = [] ∧ ncap = 0) (hs : Slim cs ns) :
  Calls Tryz.prog 12 #[.agg #[.slice ca cs.length ccap, .string kb, .int .i64 per, .slice na ns.length ncap]] w fun e w' => OwnGate cs kb per ns w e w' := by
 obtain ⟨iL, hiL, hzL0, hzL1, hzL2⟩ := info_parts Tryz.infoLines
 obtain ⟨i0, hi, hz0, hz1, hz2⟩ := info_parts Tryz.infoInt
 have HC : Hid (LiesC w ca cs ∧ LiesN w na ns ∧ (na = none → ns = [] ∧ ncap = 0) ∧ Slim cs ns) := ⟨hc, hn, hna, hs⟩
 have hm20 := hs.curves
 have hr30 := hs.nums
 obtain ⟨m, hm⟩ : ∃ m, cs.length = m := ⟨_, rfl⟩
 obtain ⟨r, hr⟩ : ∃ r, ns.length = r := ⟨_, rfl⟩
 have HM : Hid (cs.length = m ∧ ns.length = r) := ⟨hm, hr⟩
 rw [hm] at hm20 ⊢
 rw [hr] at hr30 ⊢
 have hs1 : (w.alloc (.cells #[.slice ca m ccap, .string kb, .int .i64 per, .slice na r ncap] 25)).heap.size = w.heap.size + 1 := by simp
 have hs2 : ((w.alloc (.cells #[.slice ca m ccap, .string kb, .int .i64 per, .slice na r ncap] 25)).alloc (.cells #[.slice none 0 0, .string ⟨#[]⟩, .int .i64 0, .slice none 0 0] 32)).heap.size = w.heap.size + 2 := by simp
 have hb1 : Below w.heap.size w (w.alloc (.cells #[.slice ca m ccap, .string kb, .int .i64 per, .slice na r ncap] 25)) := (Below.refl _ _).alloc (Nat.le_refl _) _
 have hb2 : Below (w.alloc (.cells #[.slice ca m ccap, .string kb, .int .i64 per, .slice na r ncap] 25)).heap.size (w.alloc (.cells #[.slice ca m ccap, .string kb, .int .i64 per, .slice na r ncap] 25)) ((w.alloc (.cells #[.slice ca m ccap, .string kb, .int .i64 per, .slice na r ncap] 25)).alloc (.cells #[.slice none 0 0, .string ⟨#[]⟩, .int .i64 0, .slice none 0 0] 32)) := (Below.refl _ _).alloc (Nat.le_refl _) _
 have hb3 : Below ((w.alloc (.cells #[.slice ca m ccap, .string kb, .int .i64 per, .slice na r ncap] 25)).alloc (.cells #[.slice none 0 0, .string ⟨#[]⟩, .int .i64 0, .slice none 0 0] 32)).heap.size ((w.alloc (.cells #[.slice ca m ccap, .string kb, .int .i64 per, .slice na r ncap] 25)).alloc (.cells #[.slice none 0 0, .string ⟨#[]⟩, .int .i64 0, .slice none 0 0] 32)) (((w.alloc (.cells #[.slice ca m ccap, .string kb, .int .i64 per, .slice na r ncap] 25)).alloc (.cells #[.slice none 0 0, .string ⟨#[]⟩, .int .i64 0, .slice none 0 0] 32)).alloc (.cells #[.slice none 0 0, .string kb, .int .i64 per, .slice none 0 0] 32)) := (Below.refl _ _).alloc (Nat.le_refl _) _
 have hga : GateAt (((w.alloc (.cells #[.slice ca m ccap, .string kb, .int .i64 per, .slice na r ncap] 25)).alloc (.cells #[.slice none 0 0, .string ⟨#[]⟩, .int .i64 0, .slice none 0 0] 32)).alloc (.cells #[.slice none 0 0, .string kb, .int .i64 per, .slice none 0 0] 32)) w.heap.size (.slice ca m ccap) kb per (.slice na r ncap) := ((gateAt_new w (.slice ca m ccap) kb per (.slice na r ncap) 25).later hb2).later hb3
 have hzc : ∀ (o : Nat) v, #[Value.slice none 0 0, .string ⟨#[]⟩, .int .i64 0, .slice none 0 0][o]? = some v → (((w.alloc (.cells #[.slice ca m ccap, .string kb, .int .i64 per, .slice na r ncap] 25)).alloc (.cells #[.slice none 0 0, .string ⟨#[]⟩, .int .i64 0, .slice none 0 0] 32)).alloc (.cells #[.slice none 0 0, .string kb, .int .i64 per, .slice none 0 0] 32)).cell? ⟨w.heap.size + 1, o, none⟩ = some v := fun o v ho => cell_later hb3 (by rw [World.cell?_alloc_at _ _ _ _ hs1.symm]; exact ho)
 have hzf : ∀ o : Nat, (((w.alloc (.cells #[.slice ca m ccap, .string kb, .int .i64 per, .slice na r ncap] 25)).alloc (.cells #[.slice none 0 0, .string ⟨#[]⟩, .int .i64 0, .slice none 0 0] 32)).alloc (.cells #[.slice none 0 0, .string kb, .int .i64 per, .slice none 0 0] 32)).frozen? ⟨w.heap.size + 1, o, none⟩ = false := fun o => by
  rw [hb3.frozen (p := ⟨w.heap.size + 1, o, none⟩) (by rw [hs2]; exact Nat.lt_succ_self _)]
  have := World.frozen?_alloc_new (w.alloc (.cells #[.slice ca m ccap, .string kb, .int .i64 per, .slice na r ncap] 25)) #[.slice none 0 0, .string ⟨#[]⟩, .int .i64 0, .slice none 0 0] 32 o
  rwa [hs1] at this
 have hcp : CopyAt (((w.alloc (.cells #[.slice ca m ccap, .string kb, .int .i64 per, .slice na r ncap] 25)).alloc (.cells #[.slice none 0 0, .string ⟨#[]⟩, .int .i64 0, .slice none 0 0] 32)).alloc (.cells #[.slice none 0 0, .string kb, .int .i64 per, .slice none 0 0] 32)) (((w.alloc (.cells #[.slice ca m ccap, .string kb, .int .i64 per, .slice na r ncap] 25)).alloc (.cells #[.slice none 0 0, .string ⟨#[]⟩, .int .i64 0, .slice none 0 0] 32)).alloc (.cells #[.slice none 0 0, .string kb, .int .i64 per, .slice none 0 0] 32)) (w.heap.size + 2) (.slice none 0 0) kb per [] [] := by
  have c : ∀ (o : Nat) v, #[Value.slice none 0 0, .string kb, .int .i64 per, .slice none 0 0][o]? = some v → (((w.alloc (.cells #[.slice ca m ccap, .string kb, .int .i64 per, .slice na r ncap] 25)).alloc (.cells #[.slice none 0 0, .string ⟨#[]⟩, .int .i64 0, .slice none 0 0] 32)).alloc (.cells #[.slice none 0 0, .string kb, .int .i64 per, .slice none 0 0] 32)).cell? ⟨w.heap.size + 2, o, none⟩ = some v := fun o v ho => by rw [World.cell?_alloc_at _ _ _ _ hs2.symm]; exact ho
  refine ⟨c 0 _ rfl, c 1 _ rfl, c 2 _ rfl, c 3 _ rfl, fun o => ?_, ownC_nil _ _, Below.refl _ _, by simp⟩
  have := World.frozen?_alloc_new ((w.alloc (.cells #[.slice ca m ccap, .string kb, .int .i64 per, .slice na r ncap] 25)).alloc (.cells #[.slice none 0 0, .string ⟨#[]⟩, .int .i64 0, .slice none 0 0] 32)) #[.slice none 0 0, .string kb, .int .i64 per, .slice none 0 0] 32 o
  rwa [hs2] at this
 have hbV : Below w.heap.size w (((w.alloc (.cells #[.slice ca m ccap, .string kb, .int .i64 per, .slice na r ncap] 25)).alloc (.cells #[.slice none 0 0, .string ⟨#[]⟩, .int .i64 0, .slice none 0 0] 32)).alloc (.cells #[.slice none 0 0, .string kb, .int .i64 per, .slice none 0 0] 32)) := by
  have h12 := hb1.trans (hb2.mono hb1.size)
  exact h12.trans (hb3.mono h12.size)
 obtain ⟨V, hV⟩ : ∃ V, (((w.alloc (.cells #[.slice ca m ccap, .string kb, .int .i64 per, .slice na r ncap] 25)).alloc (.cells #[.slice none 0 0, .string ⟨#[]⟩, .int .i64 0, .slice none 0 0] 32)).alloc (.cells #[.slice none 0 0, .string kb, .int .i64 per, .slice none 0 0] 32)) = V := ⟨_, rfl⟩
 rw [hV] at hga hzc hzf hcp hbV
 have HV : Hid (Below w.heap.size w V ∧ GateAt V w.heap.size (.slice ca m ccap) kb per (.slice na r ncap) ∧ (∀ (o : Nat) v, #[Value.slice none 0 0, .string ⟨#[]⟩, .int .i64 0, .slice none 0 0][o]? = some v → V.cell? ⟨w.heap.size + 1, o, none⟩ = some v) ∧ (∀ o : Nat, V.frozen? ⟨w.heap.size + 1, o, none⟩ = false) ∧ CopyAt V V (w.heap.size + 2) (.slice none 0 0) kb per [] []) := ⟨hbV, hga, hzc, hzf, hcp⟩
 have HVe : Hid ((((w.alloc (.cells #[.slice ca m ccap, .string kb, .int .i64 per, .slice na r ncap] 25)).alloc (.cells #[.slice none 0 0, .string ⟨#[]⟩, .int .i64 0, .slice none 0 0] 32)).alloc (.cells #[.slice none 0 0, .string kb, .int .i64 per, .slice none 0 0] 32)) = V) := hV
 clear hc hn hna hs hm hr hs1 hs2 hb1 hb2 hb3 hga hzc hzf hcp hbV hV
 go_enter Tryz.func12, Tryz.ntmps12
 go_wp2_with fail
 rw [HVe.out]
 go_loopg [4] m (fun gk iv wr => ∃ i : Nat, gk + i = m ∧ iv = .int .i64 i ∧ ∃ v xs, CopyAt V wr (w.heap.size + 2) v kb per (cs.take i) xs)
 case atStart => exact ⟨0, by omega, rfl, _, _, HV.out.2.2.2.2⟩
 case round =>
  obtain ⟨i, hi', rfl, v, xs, hcp⟩ := hrel
  have HR : Hid (CopyAt V wr (w.heap.size + 2) v kb per (cs.take i) xs ∧ Below w.heap.size w wr) := ⟨hcp, HV.out.1.trans (hcp.below.mono (by omega))⟩
  have y0 : wr.cell? ⟨w.heap.size, 0, none⟩ = some (.slice ca m ccap) := by rw [hcp.below.cell (p := ⟨w.heap.size, 0, none⟩) (by show w.heap.size < w.heap.size + 2; omega)]; exact HV.out.2.1.c0
  have y3 : wr.cell? ⟨w.heap.size, 3, none⟩ = some (.slice na r ncap) := by rw [hcp.below.cell (p := ⟨w.heap.size, 3, none⟩) (by show w.heap.size < w.heap.size + 2; omega)]; exact HV.out.2.1.c3
  clear hcp
  by_cases him : i < m
  ·
   obtain ⟨ls, hls, -⟩ := get_some cs i (by rw [HM.out.1]; exact him)
   obtain ⟨cb, co, rfl, -, hcc⟩ := HC.out.1.place (by rw [HM.out.1]; omega)
   obtain ⟨a', cap, cj, hlies, hlc, hlm, hln⟩ := hcc i ls hls
   have cj' := cell_later HR.out.2 cj
   have HOl : Hid (Calls Tryz.prog 35 #[.slice a' ls.length cap] wr fun e w' => ∃ v, e = .returned v ∧ OwnL w' wr.heap.size v ls ∧ Below wr.heap.size wr w') := ownLines_any a' cap ls wr (hlies.below HR.out.2) (by have := HC.out.2.2.2.each i ls hls; omega) hln
   have HTk : Hid (cs.take (i + 1) = cs.take i ++ [ls] ∧ (cs.take i).length = i) := ⟨by rw [List.take_add_one, hls]; rfl, by rw [List.length_take, HM.out.1]; omega⟩
   obtain ⟨q, hq⟩ : ∃ q, ls.length = q := ⟨_, rfl⟩
   have HQ : Hid (ls.length = q) := hq
   rw [hq] at cj' HOl
   clear hcc cj hlies hlc hlm hln hls hq
   go_wp2_with fail
   refine HOl.out.mono ?_
   rintro e w5 ⟨v5, rfl, hov, hb5⟩
   have hcp5 := HR.out.1.later hb5
   obtain ⟨la, lcap, rfl, hl1, hl2, hl3⟩ := hov.open
   have hlB : ∀ ad, la = some ad → V.heap.size ≤ ad.block ∧ ad.block < w5.heap.size ∧ v.ownBlock ≠ some ad.block := fun ad had => by
    subst had
    have h1 := ownsRow_lt hov (g := ad.block) rfl
    refine ⟨Nat.le_trans (Nat.le_trans HV.out.2.2.2.2.below.size ?_) h1.1, h1.2, fun e => ?_⟩
    · exact HR.out.1.below.size
    ·
     have h2 := (ownsRow_lt HR.out.1.own.row e).2
     omega
   have hln5 : la = none → ls = [] ∧ lcap = 0 := fun h => by
    subst h
    obtain ⟨h1, ⟨e, h0⟩ | ⟨g, c', cur, e, -⟩⟩ := hov
    ·
     injection e with e1 e2 e3
     exact ⟨List.length_eq_zero_iff.1 h0, e3⟩
    · cases e
   rw [HQ.out] at hl1 ⊢
   have HX : Hid (CopyAt V w5 (w.heap.size + 2) v kb per (cs.take i) xs ∧ Lies w5 la ls ∧ q ≤ lcap ∧ lcap ≤ maxLen ∧ (la = none → ls = [] ∧ lcap = 0) ∧ (∀ ad, la = some ad → V.heap.size ≤ ad.block ∧ ad.block < w5.heap.size ∧ v.ownBlock ≠ some ad.block)) := ⟨hcp5, hl3, hl1, hl2, hln5, hlB⟩
   have k0 := hcp5.c0
   have hb6 : Below w5.heap.size w5 (w5.alloc (.cells #[.slice la q lcap] 38)) := (Below.refl _ _).alloc (Nat.le_refl _) _
   have HY : Hid (CopyAt V (w5.alloc (.cells #[.slice la q lcap] 38)) (w.heap.size + 2) v kb per (cs.take i) xs ∧ Lies (w5.alloc (.cells #[.slice la q lcap] 38)) la ls ∧ (∀ ad, la = some ad → V.heap.size ≤ ad.block ∧ ad.block < (w5.alloc (.cells #[.slice la q lcap] 38)).heap.size ∧ v.ownBlock ≠ some ad.block) ∧ V.heap.size ≤ (w5.alloc (.cells #[.slice la q lcap] 38)).heap.size) := ⟨hcp5.later hb6, hl3.below hb6, fun ad had => ⟨(hlB ad had).1, Nat.lt_of_lt_of_le (hlB ad had).2.1 hb6.size, (hlB ad had).2.2⟩, Nat.le_trans hcp5.below.size hb6.size⟩
   have hrow := HY.out.1.own.row
   rw [HTk.out.2] at hrow
   have HRow : Hid ((w5.alloc (.cells #[.slice la q lcap] 38)).ownsRow V.heap.size 38 1 v i xs) := hrow
   clear hov hb5 hcp5 hl1 hl2 hl3 hlB hln5 hb6 hrow
   go_wp2_with (at_builtin; go_must (refine wpList_append_lies _ rfl _ _ 22 rfl V.heap.size 38 iL (.slice none 0 0) 1 24 Tryz.underlying22 hiL hzL0 hzL1 hzL2 rfl (by decide) v i xs rfl HRow.out ⟨w5.heap.size, 0, none⟩ 1 1 [.slice la q lcap] rfl rfl (by intro j u hj; cases j with | zero => (have : u = .slice la q lcap := by simpa using hj.symm); rw [this]; simp [Addr.add] | succ j => simp at hj) (by intro u hu; rw [List.mem_singleton.1 hu]; rfl) (by decide) (by unfold maxLen; omega) (by omega) HY.out.2.2.2 _ rfl ?_; intro g cap' w6 h1 h2 h3 h4; have hput := HY.out.1.put (ls := ls) HY.out.2.1 (by rw [HQ.out]; exact HX.out.2.2.1) HX.out.2.2.2.1 HX.out.2.2.2.2.1 HY.out.2.2.1 (by rw [HTk.out.2, HQ.out]; exact h1) h2 h3; rw [HTk.out.2, ← HTk.out.1] at hput; have p0 := hput.1; have p1 := hput.2.1; have HPut : Hid (∃ v xs, CopyAt V (w6.setCell ⟨w.heap.size + 2, 0, none⟩ (.slice (some ⟨g, 0, none⟩) (i + 1) cap')) (w.heap.size + 2) v kb per (cs.take (i + 1)) xs) := ⟨_, _, hput.2.2⟩; clear hput h1 h2 h3 h4))
   go_roundg (gk - 1)
   case measure => omega
   case rel => exact ⟨i + 1, by omega, by go_num, HPut.out⟩
  ·
   obtain rfl : i = m := by omega
   have hcp := HR.out.1
   have htk : cs.take i = cs := by rw [← HM.out.1]; exact List.take_length
   rw [htk] at hcp
   obtain ⟨ca', ccap', rfl, hcc1, hcc2, -, -⟩ := hcp.own.open
   rw [HM.out.1] at hcp hcc1
   have HCp : Hid (CopyAt V wr (w.heap.size + 2) (.slice ca' i ccap') kb per cs xs ∧ i ≤ ccap' ∧ ccap' ≤ maxLen) := ⟨hcp, hcc1, hcc2⟩
   have k3 := hcp.c3
   have HLn : Hid (LiesN wr na ns) := HC.out.2.1.below HR.out.2
   have HAfter : Hid (∀ a5 k5 w5, LiesN w5 a5 ns ∧ r ≤ k5 ∧ k5 ≤ maxLen ∧ Below wr.heap.size wr w5 ∧ (a5 = none → ns = [] ∧ k5 = 0) ∧ (∀ ad, a5 = some ad → wr.heap.size ≤ ad.block) → w5.cell? ⟨w.heap.size + 2, 3, none⟩ = some (.slice none 0 0) ∧ w5.frozen? ⟨w.heap.size + 2, 3, none⟩ = false ∧ ((w5.setCell ⟨w.heap.size + 2, 3, none⟩ (.slice a5 r k5)).cell? ⟨w.heap.size + 2, 0, none⟩ = some (.slice ca' i ccap') ∧ (w5.setCell ⟨w.heap.size + 2, 3, none⟩ (.slice a5 r k5)).cell? ⟨w.heap.size + 2, 1, none⟩ = some (.string kb) ∧ (w5.setCell ⟨w.heap.size + 2, 3, none⟩ (.slice a5 r k5)).cell? ⟨w.heap.size + 2, 2, none⟩ = some (.int .i64 per) ∧ (w5.setCell ⟨w.heap.size + 2, 3, none⟩ (.slice a5 r k5)).cell? ⟨w.heap.size + 2, 3, none⟩ = some (.slice a5 r k5)) ∧ ((w5.setCell ⟨w.heap.size + 2, 3, none⟩ (.slice a5 r k5)).cell? ⟨w.heap.size + 1, 0, none⟩ = some (.slice none 0 0) ∧ (w5.setCell ⟨w.heap.size + 2, 3, none⟩ (.slice a5 r k5)).cell? ⟨w.heap.size + 1, 1, none⟩ = some (.string ⟨#[]⟩) ∧ (w5.setCell ⟨w.heap.size + 2, 3, none⟩ (.slice a5 r k5)).cell? ⟨w.heap.size + 1, 2, none⟩ = some (.int .i64 0) ∧ (w5.setCell ⟨w.heap.size + 2, 3, none⟩ (.slice a5 r k5)).cell? ⟨w.heap.size + 1, 3, none⟩ = some (.slice none 0 0)) ∧ (∀ o : Nat, (w5.setCell ⟨w.heap.size + 2, 3, none⟩ (.slice a5 r k5)).frozen? ⟨w.heap.size + 1, o, none⟩ = false) ∧ OwnGate cs kb per ns w (.returned (.agg #[.slice ca' i ccap', .string kb, .int .i64 per, .slice a5 r k5])) (((((w5.setCell ⟨w.heap.size + 2, 3, none⟩ (.slice a5 r k5)).setCell ⟨w.heap.size + 1, 0, none⟩ (.slice ca' i ccap')).setCell ⟨w.heap.size + 1, 1, none⟩ (.string kb)).setCell ⟨w.heap.size + 1, 2, none⟩ (.int .i64 per)).setCell ⟨w.heap.size + 1, 3, none⟩ (.slice a5 r k5))) := fun a5 k5 w5 ⟨g1, g2, g3, g4, g5, g6⟩ => by
    have h5 := HCp.out.1.later g4
    have ne : ∀ o : Nat, o ≠ 3 → (⟨w.heap.size + 2, 3, none⟩ : Addr) ≠ ⟨w.heap.size + 2, o, none⟩ := fun o ho e => by injection e with e1 e2; exact ho e2.symm
    have ne1 : ∀ o : Nat, (⟨w.heap.size + 2, 3, none⟩ : Addr) ≠ ⟨w.heap.size + 1, o, none⟩ := fun o e => by injection e with e1; omega
    have z : ∀ (o : Nat) v, #[Value.slice none 0 0, .string ⟨#[]⟩, .int .i64 0, .slice none 0 0][o]? = some v → (w5.setCell ⟨w.heap.size + 2, 3, none⟩ (.slice a5 r k5)).cell? ⟨w.heap.size + 1, o, none⟩ = some v := fun o v ho => by
     rw [World.cell?_setCell_other _ _ _ _ (ne1 o), h5.below.cell (p := ⟨w.heap.size + 1, o, none⟩) (by show w.heap.size + 1 < w.heap.size + 2; omega)]
     exact HV.out.2.2.1 o v ho
    have hbut : But (fun k => k = w.heap.size + 2 ∨ k = w.heap.size + 1) w5 (((((w5.setCell ⟨w.heap.size + 2, 3, none⟩ (.slice a5 r k5)).setCell ⟨w.heap.size + 1, 0, none⟩ (.slice ca' i ccap')).setCell ⟨w.heap.size + 1, 1, none⟩ (.string kb)).setCell ⟨w.heap.size + 1, 2, none⟩ (.int .i64 per)).setCell ⟨w.heap.size + 1, 3, none⟩ (.slice a5 r k5)) := But.setCell (But.setCell (But.setCell (But.setCell (But.setCell (But.refl _ w5) (p := ⟨w.heap.size + 2, 3, none⟩) (.inl rfl) _) (p := ⟨w.heap.size + 1, 0, none⟩) (.inr rfl) _) (p := ⟨w.heap.size + 1, 1, none⟩) (.inr rfl) _) (p := ⟨w.heap.size + 1, 2, none⟩) (.inr rfl) _) (p := ⟨w.heap.size + 1, 3, none⟩) (.inr rfl) _
    have hlt := h5.lt
    have hoc := h5.own.but hbut (fun k hk => by rcases hk with rfl | rfl <;> omega)
    obtain ⟨ca2, ccap2, e, -, -, hlc, -⟩ := hoc.open
    injection e with e1 e2 e3
    subst e1
    have hbw : Below w.heap.size w w5 := HR.out.2.trans (g4.mono HR.out.2.size)
    refine ⟨h5.c3, h5.free 3, ⟨?_, ?_, ?_, World.cell?_setCell_same' _ _ _ (by rw [h5.c3]; rfl)⟩, ⟨z 0 _ rfl, z 1 _ rfl, z 2 _ rfl, z 3 _ rfl⟩, fun o => ?_, ca', ccap', a5, k5, by rw [HM.out.1, HM.out.2], hlc, by rw [HM.out.1]; exact HCp.out.2.1, HCp.out.2.2, ?_, by rw [HM.out.2]; exact g2, g3, g5, ?_⟩
    · rw [World.cell?_setCell_other _ _ _ _ (ne 0 (by omega))]; exact h5.c0
    · rw [World.cell?_setCell_other _ _ _ _ (ne 1 (by omega))]; exact h5.c1
    · rw [World.cell?_setCell_other _ _ _ _ (ne 2 (by omega))]; exact h5.c2
    ·
     rw [World.frozen?_setCell, h5.below.frozen (p := ⟨w.heap.size + 1, o, none⟩) (by show w.heap.size + 1 < w.heap.size + 2; omega)]
     exact HV.out.2.2.2.1 o
    · exact liesN_but g1 hbut fun ad had hk => by have := g6 ad had; have := HR.out.1.below.size; rcases hk with hk | hk <;> omega
    · exact hbw.trans (hbut.below hbw.size fun k hk => by rcases hk with rfl | rfl <;> omega)
   clear hcp htk hcc1 hcc2
   go_wp2_with (at_builtin; go_must (refine wpList_append_nums _ rfl _ _ 23 rfl 3 i0 (.int .i64 0) Tryz.underlying23 hi hz0 hz1 hz2 rfl na ncap r ns HM.out.2 rfl rfl HLn.out HC.out.2.2.1 (by omega) ?_; rintro a5 k5 w5 h5; obtain ⟨p0, p1, ⟨p2, p3, p4, p5⟩, ⟨q0, q1, q2, q3⟩, qf, HE⟩ := HAfter.out a5 k5 w5 h5; have qf0 := qf 0; have qf1 := qf 1; have qf2 := qf 2; have qf3 := qf 3; have HE' : Hid (OwnGate cs kb per ns w (.returned (.agg #[.slice ca' i ccap', .string kb, .int .i64 per, .slice a5 r k5])) (((((w5.setCell ⟨w.heap.size + 2, 3, none⟩ (.slice a5 r k5)).setCell ⟨w.heap.size + 1, 0, none⟩ (.slice ca' i ccap')).setCell ⟨w.heap.size + 1, 1, none⟩ (.string kb)).setCell ⟨w.heap.size + 1, 2, none⟩ (.int .i64 per)).setCell ⟨w.heap.size + 1, 3, none⟩ (.slice a5 r k5))) := HE; clear h5 qf HE))
   exact bodyPost_ret (v := .agg #[.slice ca' i ccap', .string kb, .int .i64 per, .slice a5 r k5]) (by simp [results, Tryz.results12, go_sem, q0, q1, q2, q3]) rfl HE'.out
end Go.Proofs.YtibhkijaafdkoaaGreatDoor

namespace Go.Proofs.YtibhkijaafdkoaaGreatDoor
open Go.RowKit
def LiesS (w : World) (a : Option Addr) (ps : List Sn) : Prop :=
 ps = [] ∨ ∃ b off, a = some ⟨b, off, none⟩ ∧ b < w.heap.size ∧ ∀ (i : Nat) p, ps[i]? = some p → w.cell? ⟨b, off + i * 3, none⟩ = some (.int .i64 p.num) ∧ w.cell? ⟨b, off + i * 3 + 1, none⟩ = some (.int .i64 p.beg) ∧ w.cell? ⟨b, off + i * 3 + 2, none⟩ = some (.int .i64 p.fin)
theorem LiesS.place {w : World} {a : Option Addr} {ps : List Sn} (h : LiesS w a ps) (h1 : 1 ≤ ps.length) :
  ∃ b off, a = some ⟨b, off, none⟩ ∧ b < w.heap.size ∧ ∀ (i : Nat) p, ps[i]? = some p → w.cell? ⟨b, off + i * 3, none⟩ = some (.int .i64 p.num) ∧ w.cell? ⟨b, off + i * 3 + 1, none⟩ = some (.int .i64 p.beg) ∧ w.cell? ⟨b, off + i * 3 + 2, none⟩ = some (.int .i64 p.fin) := by
 rcases h with rfl | h
 · simp at h1
 · exact h
theorem LiesS.but {S : Nat → Prop} {w w' : World} {a : Option Addr} {ps : List Sn} (h : LiesS w a ps) (hb : But S w w') (hs : ∀ ad, a = some ad → ¬ S ad.block) : LiesS w' a ps := by
 rcases h with rfl | ⟨b, off, rfl, hlt, hc⟩
 · exact .inl rfl
 ·
  have hn : ¬ S b := hs _ rfl
  refine .inr ⟨b, off, rfl, Nat.lt_of_lt_of_le hlt hb.size, fun i p hi => ?_⟩
  have := hc i p hi
  exact ⟨by rw [hb.cell (p := ⟨b, off + i * 3, none⟩) hlt hn]; exact this.1, by rw [hb.cell (p := ⟨b, off + i * 3 + 1, none⟩) hlt hn]; exact this.2.1, by rw [hb.cell (p := ⟨b, off + i * 3 + 2, none⟩) hlt hn]; exact this.2.2⟩
theorem LiesS.below {w w' : World} {a : Option Addr} {ps : List Sn} (h : LiesS w a ps) (hb : Below w.heap.size w w') : LiesS w' a ps :=
 h.but (S := fun _ => False) (.ofBelow hb) (fun _ _ h => h)
def cellsS (ps : List Sn) : List Value := ps.flatMap fun p => [.int .i64 p.num, .int .i64 p.beg, .int .i64 p.fin]
theorem cellsS_cons (p : Sn) (r : List Sn) : cellsS (p :: r) = .int .i64 p.num :: .int .i64 p.beg :: .int .i64 p.fin :: cellsS r := rfl
theorem cellsS_append (a b : List Sn) : cellsS (a ++ b) = cellsS a ++ cellsS b := by simp [cellsS]
theorem cellsS_length (ps : List Sn) : (cellsS ps).length = ps.length * 3 := by
 induction ps with
 | nil => rfl
 | cons p r ih => rw [cellsS_cons]; simp [ih]; omega
theorem cellsS_get (ps : List Sn) : ∀ (i : Nat) p, ps[i]? = some p → (cellsS ps)[i * 3]? = some (.int .i64 p.num) ∧ (cellsS ps)[i * 3 + 1]? = some (.int .i64 p.beg) ∧ (cellsS ps)[i * 3 + 2]? = some (.int .i64 p.fin) := by
 induction ps with
 | nil => intro i p h; simp at h
 | cons q r ih =>
  intro i p h
  rw [cellsS_cons]
  cases i with
  | zero => simp at h; subst h; exact ⟨rfl, rfl, rfl⟩
  | succ i =>
   have := ih i p (by simpa using h)
   rw [show (i + 1) * 3 = i * 3 + 1 + 1 + 1 by omega]
   exact ⟨by simpa using this.1, by simpa using this.2.1, by simpa using this.2.2⟩
theorem cellsS_at (ps : List Sn) : ∀ j u, (cellsS ps)[j]? = some u → ∃ (i : Nat) (p : Sn), ps[i]? = some p ∧ ((j = i * 3 ∧ u = .int .i64 p.num) ∨ (j = i * 3 + 1 ∧ u = .int .i64 p.beg) ∨ (j = i * 3 + 2 ∧ u = .int .i64 p.fin)) := by
 induction ps with
 | nil => intro j u h; simp [cellsS] at h
 | cons p r ih =>
  intro j u h
  rw [cellsS_cons] at h
  match j, h with
  | 0, h => exact ⟨0, p, rfl, .inl ⟨rfl, by simpa using h.symm⟩⟩
  | 1, h => exact ⟨0, p, rfl, .inr (.inl ⟨rfl, by simpa using h.symm⟩)⟩
  | 2, h => exact ⟨0, p, rfl, .inr (.inr ⟨rfl, by simpa using h.symm⟩)⟩
  | j + 3, h =>
   obtain ⟨i, q, hi, hj⟩ := ih j u (by simpa using h)
   refine ⟨i + 1, q, by simpa using hi, ?_⟩
   rcases hj with ⟨e, f⟩ | ⟨e, f⟩ | ⟨e, f⟩
   · exact .inl ⟨by omega, f⟩
   · exact .inr (.inl ⟨by omega, f⟩)
   · exact .inr (.inr ⟨by omega, f⟩)
theorem cellsS_one (ps : List Sn) : ∀ u ∈ cellsS ps, u.oneCell' = true := by
 intro u hu
 obtain ⟨j, hj⟩ := List.mem_iff_getElem?.1 hu
 obtain ⟨i, p, -, h⟩ := cellsS_at ps j u hj
 rcases h with ⟨-, rfl⟩ | ⟨-, rfl⟩ | ⟨-, rfl⟩ <;> rfl
def OwnS (w : World) (B : Nat) (v : Value) (ps : List Sn) : Prop := w.ownsRow B 78 3 v ps.length (cellsS ps)
theorem OwnS.open {w : World} {B : Nat} {v : Value} {ps : List Sn} (h : OwnS w B v ps) :
  ∃ a cap, v = .slice a ps.length cap ∧ ps.length ≤ cap ∧ cap ≤ maxLen ∧ LiesS w a ps ∧ (∀ ad, a = some ad → B ≤ ad.block) ∧ (a = none → ps = [] ∧ cap = 0) := by
 obtain ⟨hlen, ⟨rfl, h0⟩ | ⟨g, cap, cur, rfl, hB, hg, hn, hm, hc, ht⟩⟩ := h
 · exact ⟨none, 0, by rw [h0], by omega, by simp [maxLen], .inl (List.length_eq_zero_iff.1 h0), (fun ad e => by cases e), fun _ => ⟨List.length_eq_zero_iff.1 h0, rfl⟩⟩
 ·
  refine ⟨_, cap, rfl, hn, hm, .inr ⟨g, 0, rfl, ?_, fun i p hi => ?_⟩, (fun ad e => by cases e; exact hB), fun e => by cases e⟩
  ·
   rcases Nat.lt_or_ge g w.heap.size with h | h
   · exact h
   · simp [Array.getElem?_eq_none h] at hg
  ·
   have hh : w.ownsRow B 78 3 (.slice (some ⟨g, 0, none⟩) ps.length cap) ps.length (cellsS ps) := ⟨hlen, .inr ⟨g, cap, cur, rfl, hB, hg, hn, hm, hc, ht⟩⟩
   have hil : i < ps.length := by
    rcases Nat.lt_or_ge i ps.length with h | h
    · exact h
    · simp [List.getElem?_eq_none h] at hi
   have := cellsS_get ps i p hi
   rw [hh.cellAt _ (by omega), hh.cellAt _ (by omega), hh.cellAt _ (by omega), Nat.zero_add]
   exact this
theorem liesS_news {w : World} {ad : Addr} {ps : List Sn} (h : LiesS w (some ad) ps) : ∀ j u, (cellsS ps)[j]? = some u → w.cell? (ad.add j) = some u := by
 intro j u hj
 obtain ⟨i, p, hi, hc⟩ := cellsS_at ps j u hj
 rcases h with rfl | ⟨b, off, e, -, h⟩
 · simp at hi
 ·
  cases e
  have := h i p hi
  rw [Addr.add_lit]
  rcases hc with ⟨rfl, rfl⟩ | ⟨rfl, rfl⟩ | ⟨rfl, rfl⟩
  · exact this.1
  · exact this.2.1
  · exact this.2.2
theorem Tryz.infoSent : (Tryz.prog.info? 78).map (fun i => (i.zero, i.size, i.bytes)) = some (some (.agg #[.int .i64 0, .int .i64 0, .int .i64 0]), 3, 24) := by kernel_rfl
set_option maxHeartbeats 400000 in
theorem ownSent_any (a : Option Addr) (cap : Nat) (ps : List Sn) (w : World) (hl : LiesS w a ps) (hn : ps.length ≤ 1000) (ha : a = none → ps = [] ∧ cap = 0) :
  Calls Tryz.prog 23 #[.slice a ps.length cap] w fun e w' => ∃ v, e = .returned v ∧ OwnS w' w.heap.size v ps ∧ Below w.heap.size w w' := by
 obtain ⟨i0, hi, hz0, hz1, hz2⟩ := info_parts Tryz.infoSent
 cases a with
 | none =>
  obtain ⟨rfl, rfl⟩ := ha rfl
  show Calls Tryz.prog 23 #[.slice none 0 0] w _
  go_enter Tryz.func23, Tryz.ntmps23
  go_wp2
  go_ret
  exact ⟨_, rfl, World.ownsRow_nil _ _ _ _, Below.refl _ _⟩
 | some ad =>
  have H1 : Hid (∀ j u, (cellsS ps)[j]? = some u → w.cell? (ad.add j) = some u) := liesS_news hl
  have H2 : Hid ((cellsS ps).length = ps.length * 3) := cellsS_length ps
  have H3 : Hid (∀ u ∈ cellsS ps, u.oneCell' = true) := cellsS_one ps
  clear hl ha
  go_enter Tryz.func23, Tryz.ntmps23
  go_wp2_with (at_builtin; refine wpList_append_own _ rfl _ _ 45 rfl w.heap.size 78 i0 (.agg #[.int .i64 0, .int .i64 0, .int .i64 0]) 3 24 Tryz.underlying45 hi hz0 hz1 hz2 rfl (by decide) (.slice none 0 0) 0 [] rfl (World.ownsRow_nil _ _ _ _) ad ps.length cap (cellsS ps) rfl H2.out H1.out H3.out (by unfold maxLen; omega) (by omega) (Nat.le_refl _) ?_; intro v' w3 hown' hgrow3 hnil3)
  go_ret
  refine ⟨_, rfl, by simpa [OwnS] using hown', ?_⟩
  exact (Below.refl _ _).grown hgrow3 (Nat.le_refl _) (fun k hk => by cases hk)
end Go.Proofs.YtibhkijaafdkoaaGreatDoor
