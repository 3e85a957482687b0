/- Own facts, put together: no statement of its own. -/
import Derived.Test.YtibhkijaafdkoaaGreatDoorR17
import Derived.Deep.AppendLies
import Derived.Test.YtibhkijaafdkoaaGreatDoorR07
import Derived.Test.YtibhkijaafdkoaaGreatDoorR08
import Derived.Test.YtibhkijaafdkoaaGreatDoorR09
import Derived.Test.YtibhkijaafdkoaaGreatDoorR15
namespace Go.Proofs.YtibhkijaafdkoaaGreatDoor
open Go.RowKit
def OwnGate (cs : List (List (Int × Int))) (kb : ByteArray) (per : Int) (ns : List Int) (w : World) (e : Ending) (w' : World) : Prop :=
 ∃ ca ccap na ncap, e = .returned (.agg #[.slice ca cs.length ccap, .string kb, .int .i64 per, .slice na ns.length ncap]) ∧ LiesC w' ca cs ∧ cs.length ≤ ccap ∧ ccap ≤ maxLen ∧ LiesN w' na ns ∧ ns.length ≤ ncap ∧ ncap ≤ maxLen ∧ (na = none → ns = [] ∧ ncap = 0) ∧ Below w.heap.size w w'
structure CopyAt (V wr : World) (O : Nat) (v : Value) (kb : ByteArray) (per : Int) (cs : List (List (Int × Int))) (xs : List Value) : Prop where
 c0 : wr.cell? ⟨O, 0, none⟩ = some v
 c1 : wr.cell? ⟨O, 1, none⟩ = some (.string kb)
 c2 : wr.cell? ⟨O, 2, none⟩ = some (.int .i64 per)
 c3 : wr.cell? ⟨O, 3, none⟩ = some (.slice none 0 0)
 free : ∀ i, wr.frozen? ⟨O, i, none⟩ = false
 own : OwnC wr V.heap.size v cs xs
 below : Below O V wr
 lt : O < V.heap.size
theorem CopyAt.later {V wr wr' : World} {O : Nat} {v : Value} {kb : ByteArray} {per : Int} {cs : List (List (Int × Int))} {xs : List Value} (h : CopyAt V wr O v kb per cs xs) (hb : Below wr.heap.size wr wr') : CopyAt V wr' O v kb per cs xs :=
 ⟨cell_later hb h.c0, cell_later hb h.c1, cell_later hb h.c2, cell_later hb h.c3, fun i => by rw [hb.frozen (p := ⟨O, i, none⟩) (show O < wr.heap.size from cell_lt h.c0)]; exact h.free i, h.own.but (S := fun _ => False) (.ofBelow hb) (fun _ hk => hk.elim), h.below.trans (hb.mono (Nat.le_of_lt (Nat.lt_of_lt_of_le h.lt h.below.size))), h.lt⟩
theorem CopyAt.put {V wr w' : World} {O : Nat} {v : Value} {kb : ByteArray} {per : Int} {cs : List (List (Int × Int))} {xs : List Value} (h : CopyAt V wr O v kb per cs xs) {ls : List (Int × Int)} {a : Option Addr} {cap : Nat} (hl : Lies wr a ls) (h1 : ls.length ≤ cap) (h2 : cap ≤ maxLen) (h3 : a = none → ls = [] ∧ cap = 0) (h4 : ∀ ad, a = some ad → V.heap.size ≤ ad.block ∧ ad.block < wr.heap.size ∧ v.ownBlock ≠ some ad.block) {g cap' : Nat}
  (ho : w'.ownsRow V.heap.size 38 1 (.slice (some ⟨g, 0, none⟩) (cs.length + 1) cap') (cs.length + 1) (xs ++ [.slice a ls.length cap])) (hg : wr.grownBy w' v.ownBlock) (hat : v.ownBlock = some g ∨ g = wr.heap.size) :
  w'.cell? ⟨O, 0, none⟩ = some v ∧ w'.frozen? ⟨O, 0, none⟩ = false ∧ CopyAt V (w'.setCell ⟨O, 0, none⟩ (.slice (some ⟨g, 0, none⟩) (cs.length + 1) cap')) O (.slice (some ⟨g, 0, none⟩) (cs.length + 1) cap') kb per (cs ++ [ls]) (xs ++ [.slice a ls.length cap]) := by
 have hOv : v.ownBlock ≠ some O := fun e => by
  have := (ownsRow_lt h.own.row e).1
  have := h.lt
  omega
 have hOw : O < wr.heap.size := cell_lt h.c0
 have hc : ∀ i, w'.cell? ⟨O, i, none⟩ = wr.cell? ⟨O, i, none⟩ := fun i => hg.cell_far ⟨O, i, none⟩ hOw (fun e => hOv e.symm)
 have hf : ∀ i, w'.frozen? ⟨O, i, none⟩ = wr.frozen? ⟨O, i, none⟩ := fun i => hg.frozen_far ⟨O, i, none⟩ hOw (fun e => hOv e.symm)
 have hoc := h.own.grown hl h1 h2 h3 h4 ho hg hat
 have hb1 : But (fun k => k = O) w' (w'.setCell ⟨O, 0, none⟩ (.slice (some ⟨g, 0, none⟩) (cs.length + 1) cap')) := But.setCell (S := fun k => k = O) (But.refl _ w') (p := ⟨O, 0, none⟩) rfl _
 have ne : ∀ i : Nat, i ≠ 0 → (⟨O, 0, none⟩ : Addr) ≠ ⟨O, i, none⟩ := fun i hi e => by injection e with e1 e2; exact hi e2.symm
 refine ⟨(hc 0).trans h.c0, (hf 0).trans (h.free 0), World.cell?_setCell_same' _ _ _ (by rw [hc 0, h.c0]; rfl), ?_, ?_, ?_, fun i => by rw [World.frozen?_setCell, hf i]; exact h.free i, hoc.but hb1 (fun k hk => by rw [hk]; exact h.lt), ?_, h.lt⟩
 · rw [World.cell?_setCell_other _ _ _ _ (ne 1 (by omega)), hc 1]; exact h.c1
 · rw [World.cell?_setCell_other _ _ _ _ (ne 2 (by omega)), hc 2]; exact h.c2
 · rw [World.cell?_setCell_other _ _ _ _ (ne 3 (by omega)), hc 3]; exact h.c3
 · exact (h.below.grown hg (Nat.le_of_lt hOw) (fun k hk => by have := (ownsRow_lt h.own.row hk).1; have := h.lt; omega)).setCell (p := ⟨O, 0, none⟩) (Nat.le_refl _) _
set_option maxRecDepth 100000 in
set_option maxHeartbeats 4000000 in
theorem ownGate_any (ca : Option Addr) (ccap : Nat) (cs : List (List (Int × Int))) (kb : ByteArray) (per : Int) (na : Option Addr) (ncap : Nat) (ns : List Int) (w : World) (hc : LiesC w ca cs) (hn : LiesN w na ns) (hna : na = none → ns = [] ∧ ncap = 0) (hs : Slim cs ns) :
  Calls Tryz.prog 12 #[.agg #[.slice ca cs.length ccap, .string kb, .int .i64 per, .slice na ns.length ncap]] w fun e w' => OwnGate cs kb per ns w e w' := by
 obtain ⟨iL, hiL, hzL0, hzL1, hzL2⟩ := info_parts Tryz.infoLines
 obtain ⟨i0, hi, hz0, hz1, hz2⟩ := info_parts Tryz.infoInt
 have HC : Hid (LiesC w ca cs ∧ LiesN w na ns ∧ (na = none → ns = [] ∧ ncap = 0) ∧ Slim cs ns) := ⟨hc, hn, hna, hs⟩
 have hm20 := hs.curves
 have hr30 := hs.nums
 obtain ⟨m, hm⟩ : ∃ m, cs.length = m := ⟨_, rfl⟩
 obtain ⟨r, hr⟩ : ∃ r, ns.length = r := ⟨_, rfl⟩
 have HM : Hid (cs.length = m ∧ ns.length = r) := ⟨hm, hr⟩
 rw [hm] at hm20 ⊢
 rw [hr] at hr30 ⊢
 have hs1 : (w.alloc (.cells #[.slice ca m ccap, .string kb, .int .i64 per, .slice na r ncap] 25)).heap.size = w.heap.size + 1 := by simp
 have hs2 : ((w.alloc (.cells #[.slice ca m ccap, .string kb, .int .i64 per, .slice na r ncap] 25)).alloc (.cells #[.slice none 0 0, .string ⟨#[]⟩, .int .i64 0, .slice none 0 0] 32)).heap.size = w.heap.size + 2 := by simp
 have hb1 : Below w.heap.size w (w.alloc (.cells #[.slice ca m ccap, .string kb, .int .i64 per, .slice na r ncap] 25)) := (Below.refl _ _).alloc (Nat.le_refl _) _
 have hb2 : Below (w.alloc (.cells #[.slice ca m ccap, .string kb, .int .i64 per, .slice na r ncap] 25)).heap.size (w.alloc (.cells #[.slice ca m ccap, .string kb, .int .i64 per, .slice na r ncap] 25)) ((w.alloc (.cells #[.slice ca m ccap, .string kb, .int .i64 per, .slice na r ncap] 25)).alloc (.cells #[.slice none 0 0, .string ⟨#[]⟩, .int .i64 0, .slice none 0 0] 32)) := (Below.refl _ _).alloc (Nat.le_refl _) _
 have hb3 : Below ((w.alloc (.cells #[.slice ca m ccap, .string kb, .int .i64 per, .slice na r ncap] 25)).alloc (.cells #[.slice none 0 0, .string ⟨#[]⟩, .int .i64 0, .slice none 0 0] 32)).heap.size ((w.alloc (.cells #[.slice ca m ccap, .string kb, .int .i64 per, .slice na r ncap] 25)).alloc (.cells #[.slice none 0 0, .string ⟨#[]⟩, .int .i64 0, .slice none 0 0] 32)) (((w.alloc (.cells #[.slice ca m ccap, .string kb, .int .i64 per, .slice na r ncap] 25)).alloc (.cells #[.slice none 0 0, .string ⟨#[]⟩, .int .i64 0, .slice none 0 0] 32)).alloc (.cells #[.slice none 0 0, .string kb, .int .i64 per, .slice none 0 0] 32)) := (Below.refl _ _).alloc (Nat.le_refl _) _
 have hga : GateAt (((w.alloc (.cells #[.slice ca m ccap, .string kb, .int .i64 per, .slice na r ncap] 25)).alloc (.cells #[.slice none 0 0, .string ⟨#[]⟩, .int .i64 0, .slice none 0 0] 32)).alloc (.cells #[.slice none 0 0, .string kb, .int .i64 per, .slice none 0 0] 32)) w.heap.size (.slice ca m ccap) kb per (.slice na r ncap) := ((gateAt_new w (.slice ca m ccap) kb per (.slice na r ncap) 25).later hb2).later hb3
 have hzc : ∀ (o : Nat) v, #[Value.slice none 0 0, .string ⟨#[]⟩, .int .i64 0, .slice none 0 0][o]? = some v → (((w.alloc (.cells #[.slice ca m ccap, .string kb, .int .i64 per, .slice na r ncap] 25)).alloc (.cells #[.slice none 0 0, .string ⟨#[]⟩, .int .i64 0, .slice none 0 0] 32)).alloc (.cells #[.slice none 0 0, .string kb, .int .i64 per, .slice none 0 0] 32)).cell? ⟨w.heap.size + 1, o, none⟩ = some v := fun o v ho => cell_later hb3 (by rw [World.cell?_alloc_at _ _ _ _ hs1.symm]; exact ho)
 have hzf : ∀ o : Nat, (((w.alloc (.cells #[.slice ca m ccap, .string kb, .int .i64 per, .slice na r ncap] 25)).alloc (.cells #[.slice none 0 0, .string ⟨#[]⟩, .int .i64 0, .slice none 0 0] 32)).alloc (.cells #[.slice none 0 0, .string kb, .int .i64 per, .slice none 0 0] 32)).frozen? ⟨w.heap.size + 1, o, none⟩ = false := fun o => by
  rw [hb3.frozen (p := ⟨w.heap.size + 1, o, none⟩) (by rw [hs2]; exact Nat.lt_succ_self _)]
  have := World.frozen?_alloc_new (w.alloc (.cells #[.slice ca m ccap, .string kb, .int .i64 per, .slice na r ncap] 25)) #[.slice none 0 0, .string ⟨#[]⟩, .int .i64 0, .slice none 0 0] 32 o
  rwa [hs1] at this
 have hcp : CopyAt (((w.alloc (.cells #[.slice ca m ccap, .string kb, .int .i64 per, .slice na r ncap] 25)).alloc (.cells #[.slice none 0 0, .string ⟨#[]⟩, .int .i64 0, .slice none 0 0] 32)).alloc (.cells #[.slice none 0 0, .string kb, .int .i64 per, .slice none 0 0] 32)) (((w.alloc (.cells #[.slice ca m ccap, .string kb, .int .i64 per, .slice na r ncap] 25)).alloc (.cells #[.slice none 0 0, .string ⟨#[]⟩, .int .i64 0, .slice none 0 0] 32)).alloc (.cells #[.slice none 0 0, .string kb, .int .i64 per, .slice none 0 0] 32)) (w.heap.size + 2) (.slice none 0 0) kb per [] [] := by
  have c : ∀ (o : Nat) v, #[Value.slice none 0 0, .string kb, .int .i64 per, .slice none 0 0][o]? = some v → (((w.alloc (.cells #[.slice ca m ccap, .string kb, .int .i64 per, .slice na r ncap] 25)).alloc (.cells #[.slice none 0 0, .string ⟨#[]⟩, .int .i64 0, .slice none 0 0] 32)).alloc (.cells #[.slice none 0 0, .string kb, .int .i64 per, .slice none 0 0] 32)).cell? ⟨w.heap.size + 2, o, none⟩ = some v := fun o v ho => by rw [World.cell?_alloc_at _ _ _ _ hs2.symm]; exact ho
  refine ⟨c 0 _ rfl, c 1 _ rfl, c 2 _ rfl, c 3 _ rfl, fun o => ?_, ownC_nil _ _, Below.refl _ _, by simp⟩
  have := World.frozen?_alloc_new ((w.alloc (.cells #[.slice ca m ccap, .string kb, .int .i64 per, .slice na r ncap] 25)).alloc (.cells #[.slice none 0 0, .string ⟨#[]⟩, .int .i64 0, .slice none 0 0] 32)) #[.slice none 0 0, .string kb, .int .i64 per, .slice none 0 0] 32 o
  rwa [hs2] at this
 have hbV : Below w.heap.size w (((w.alloc (.cells #[.slice ca m ccap, .string kb, .int .i64 per, .slice na r ncap] 25)).alloc (.cells #[.slice none 0 0, .string ⟨#[]⟩, .int .i64 0, .slice none 0 0] 32)).alloc (.cells #[.slice none 0 0, .string kb, .int .i64 per, .slice none 0 0] 32)) := by
  have h12 := hb1.trans (hb2.mono hb1.size)
  exact h12.trans (hb3.mono h12.size)
 obtain ⟨V, hV⟩ : ∃ V, (((w.alloc (.cells #[.slice ca m ccap, .string kb, .int .i64 per, .slice na r ncap] 25)).alloc (.cells #[.slice none 0 0, .string ⟨#[]⟩, .int .i64 0, .slice none 0 0] 32)).alloc (.cells #[.slice none 0 0, .string kb, .int .i64 per, .slice none 0 0] 32)) = V := ⟨_, rfl⟩
 rw [hV] at hga hzc hzf hcp hbV
 have HV : Hid (Below w.heap.size w V ∧ GateAt V w.heap.size (.slice ca m ccap) kb per (.slice na r ncap) ∧ (∀ (o : Nat) v, #[Value.slice none 0 0, .string ⟨#[]⟩, .int .i64 0, .slice none 0 0][o]? = some v → V.cell? ⟨w.heap.size + 1, o, none⟩ = some v) ∧ (∀ o : Nat, V.frozen? ⟨w.heap.size + 1, o, none⟩ = false) ∧ CopyAt V V (w.heap.size + 2) (.slice none 0 0) kb per [] []) := ⟨hbV, hga, hzc, hzf, hcp⟩
 have HVe : Hid ((((w.alloc (.cells #[.slice ca m ccap, .string kb, .int .i64 per, .slice na r ncap] 25)).alloc (.cells #[.slice none 0 0, .string ⟨#[]⟩, .int .i64 0, .slice none 0 0] 32)).alloc (.cells #[.slice none 0 0, .string kb, .int .i64 per, .slice none 0 0] 32)) = V) := hV
 clear hc hn hna hs hm hr hs1 hs2 hb1 hb2 hb3 hga hzc hzf hcp hbV hV
 go_enter Tryz.func12, Tryz.ntmps12
 go_wp2_with fail
 rw [HVe.out]
 go_loopg [4] m (fun gk iv wr => ∃ i : Nat, gk + i = m ∧ iv = .int .i64 i ∧ ∃ v xs, CopyAt V wr (w.heap.size + 2) v kb per (cs.take i) xs)
 case atStart => exact ⟨0, by omega, rfl, _, _, HV.out.2.2.2.2⟩
 case round =>
  obtain ⟨i, hi', rfl, v, xs, hcp⟩ := hrel
  have HR : Hid (CopyAt V wr (w.heap.size + 2) v kb per (cs.take i) xs ∧ Below w.heap.size w wr) := ⟨hcp, HV.out.1.trans (hcp.below.mono (by omega))⟩
  have y0 : wr.cell? ⟨w.heap.size, 0, none⟩ = some (.slice ca m ccap) := by rw [hcp.below.cell (p := ⟨w.heap.size, 0, none⟩) (by show w.heap.size < w.heap.size + 2; omega)]; exact HV.out.2.1.c0
  have y3 : wr.cell? ⟨w.heap.size, 3, none⟩ = some (.slice na r ncap) := by rw [hcp.below.cell (p := ⟨w.heap.size, 3, none⟩) (by show w.heap.size < w.heap.size + 2; omega)]; exact HV.out.2.1.c3
  clear hcp
  by_cases him : i < m
  ·
   obtain ⟨ls, hls, -⟩ := get_some cs i (by rw [HM.out.1]; exact him)
   obtain ⟨cb, co, rfl, -, hcc⟩ := HC.out.1.place (by rw [HM.out.1]; omega)
   obtain ⟨a', cap, cj, hlies, hlc, hlm, hln⟩ := hcc i ls hls
   have cj' := cell_later HR.out.2 cj
   have HOl : Hid (Calls Tryz.prog 35 #[.slice a' ls.length cap] wr fun e w' => ∃ v, e = .returned v ∧ OwnL w' wr.heap.size v ls ∧ Below wr.heap.size wr w') := ownLines_any a' cap ls wr (hlies.below HR.out.2) (by have := HC.out.2.2.2.each i ls hls; omega) hln
   have HTk : Hid (cs.take (i + 1) = cs.take i ++ [ls] ∧ (cs.take i).length = i) := ⟨by rw [List.take_add_one, hls]; rfl, by rw [List.length_take, HM.out.1]; omega⟩
   obtain ⟨q, hq⟩ : ∃ q, ls.length = q := ⟨_, rfl⟩
   have HQ : Hid (ls.length = q) := hq
   rw [hq] at cj' HOl
   clear hcc cj hlies hlc hlm hln hls hq
   go_wp2_with fail
   refine HOl.out.mono ?_
   rintro e w5 ⟨v5, rfl, hov, hb5⟩
   have hcp5 := HR.out.1.later hb5
   obtain ⟨la, lcap, rfl, hl1, hl2, hl3⟩ := hov.open
   have hlB : ∀ ad, la = some ad → V.heap.size ≤ ad.block ∧ ad.block < w5.heap.size ∧ v.ownBlock ≠ some ad.block := fun ad had => by
    subst had
    have h1 := ownsRow_lt hov (g := ad.block) rfl
    refine ⟨Nat.le_trans (Nat.le_trans HV.out.2.2.2.2.below.size ?_) h1.1, h1.2, fun e => ?_⟩
    · exact HR.out.1.below.size
    ·
     have h2 := (ownsRow_lt HR.out.1.own.row e).2
     omega
   have hln5 : la = none → ls = [] ∧ lcap = 0 := fun h => by
    subst h
    obtain ⟨h1, ⟨e, h0⟩ | ⟨g, c', cur, e, -⟩⟩ := hov
    ·
     injection e with e1 e2 e3
     exact ⟨List.length_eq_zero_iff.1 h0, e3⟩
    · cases e
   rw [HQ.out] at hl1 ⊢
   have HX : Hid (CopyAt V w5 (w.heap.size + 2) v kb per (cs.take i) xs ∧ Lies w5 la ls ∧ q ≤ lcap ∧ lcap ≤ maxLen ∧ (la = none → ls = [] ∧ lcap = 0) ∧ (∀ ad, la = some ad → V.heap.size ≤ ad.block ∧ ad.block < w5.heap.size ∧ v.ownBlock ≠ some ad.block)) := ⟨hcp5, hl3, hl1, hl2, hln5, hlB⟩
   have k0 := hcp5.c0
   have hb6 : Below w5.heap.size w5 (w5.alloc (.cells #[.slice la q lcap] 38)) := (Below.refl _ _).alloc (Nat.le_refl _) _
   have HY : Hid (CopyAt V (w5.alloc (.cells #[.slice la q lcap] 38)) (w.heap.size + 2) v kb per (cs.take i) xs ∧ Lies (w5.alloc (.cells #[.slice la q lcap] 38)) la ls ∧ (∀ ad, la = some ad → V.heap.size ≤ ad.block ∧ ad.block < (w5.alloc (.cells #[.slice la q lcap] 38)).heap.size ∧ v.ownBlock ≠ some ad.block) ∧ V.heap.size ≤ (w5.alloc (.cells #[.slice la q lcap] 38)).heap.size) := ⟨hcp5.later hb6, hl3.below hb6, fun ad had => ⟨(hlB ad had).1, Nat.lt_of_lt_of_le (hlB ad had).2.1 hb6.size, (hlB ad had).2.2⟩, Nat.le_trans hcp5.below.size hb6.size⟩
   have hrow := HY.out.1.own.row
   rw [HTk.out.2] at hrow
   have HRow : Hid ((w5.alloc (.cells #[.slice la q lcap] 38)).ownsRow V.heap.size 38 1 v i xs) := hrow
   clear hov hb5 hcp5 hl1 hl2 hl3 hlB hln5 hb6 hrow
   go_wp2_with (at_builtin; go_must (refine wpList_append_lies _ rfl _ _ 22 rfl V.heap.size 38 iL (.slice none 0 0) 1 24 Tryz.underlying22 hiL hzL0 hzL1 hzL2 rfl (by decide) v i xs rfl HRow.out ⟨w5.heap.size, 0, none⟩ 1 1 [.slice la q lcap] rfl rfl (by intro j u hj; cases j with | zero => (have : u = .slice la q lcap := by simpa using hj.symm); rw [this]; simp [Addr.add] | succ j => simp at hj) (by intro u hu; rw [List.mem_singleton.1 hu]; rfl) (by decide) (by unfold maxLen; omega) (by omega) HY.out.2.2.2 _ rfl ?_; intro g cap' w6 h1 h2 h3 h4; have hput := HY.out.1.put (ls := ls) HY.out.2.1 (by rw [HQ.out]; exact HX.out.2.2.1) HX.out.2.2.2.1 HX.out.2.2.2.2.1 HY.out.2.2.1 (by rw [HTk.out.2, HQ.out]; exact h1) h2 h3; rw [HTk.out.2, ← HTk.out.1] at hput; have p0 := hput.1; have p1 := hput.2.1; have HPut : Hid (∃ v xs, CopyAt V (w6.setCell ⟨w.heap.size + 2, 0, none⟩ (.slice (some ⟨g, 0, none⟩) (i + 1) cap')) (w.heap.size + 2) v kb per (cs.take (i + 1)) xs) := ⟨_, _, hput.2.2⟩; clear hput h1 h2 h3 h4))
   go_roundg (gk - 1)
   case measure => omega
   case rel => exact ⟨i + 1, by omega, by go_num, HPut.out⟩
  ·
   obtain rfl : i = m := by omega
   have hcp := HR.out.1
   have htk : cs.take i = cs := by rw [← HM.out.1]; exact List.take_length
   rw [htk] at hcp
   obtain ⟨ca', ccap', rfl, hcc1, hcc2, -, -⟩ := hcp.own.open
   rw [HM.out.1] at hcp hcc1
   have HCp : Hid (CopyAt V wr (w.heap.size + 2) (.slice ca' i ccap') kb per cs xs ∧ i ≤ ccap' ∧ ccap' ≤ maxLen) := ⟨hcp, hcc1, hcc2⟩
   have k3 := hcp.c3
   have HLn : Hid (LiesN wr na ns) := HC.out.2.1.below HR.out.2
   have HAfter : Hid (∀ a5 k5 w5, LiesN w5 a5 ns ∧ r ≤ k5 ∧ k5 ≤ maxLen ∧ Below wr.heap.size wr w5 ∧ (a5 = none → ns = [] ∧ k5 = 0) ∧ (∀ ad, a5 = some ad → wr.heap.size ≤ ad.block) → w5.cell? ⟨w.heap.size + 2, 3, none⟩ = some (.slice none 0 0) ∧ w5.frozen? ⟨w.heap.size + 2, 3, none⟩ = false ∧ ((w5.setCell ⟨w.heap.size + 2, 3, none⟩ (.slice a5 r k5)).cell? ⟨w.heap.size + 2, 0, none⟩ = some (.slice ca' i ccap') ∧ (w5.setCell ⟨w.heap.size + 2, 3, none⟩ (.slice a5 r k5)).cell? ⟨w.heap.size + 2, 1, none⟩ = some (.string kb) ∧ (w5.setCell ⟨w.heap.size + 2, 3, none⟩ (.slice a5 r k5)).cell? ⟨w.heap.size + 2, 2, none⟩ = some (.int .i64 per) ∧ (w5.setCell ⟨w.heap.size + 2, 3, none⟩ (.slice a5 r k5)).cell? ⟨w.heap.size + 2, 3, none⟩ = some (.slice a5 r k5)) ∧ ((w5.setCell ⟨w.heap.size + 2, 3, none⟩ (.slice a5 r k5)).cell? ⟨w.heap.size + 1, 0, none⟩ = some (.slice none 0 0) ∧ (w5.setCell ⟨w.heap.size + 2, 3, none⟩ (.slice a5 r k5)).cell? ⟨w.heap.size + 1, 1, none⟩ = some (.string ⟨#[]⟩) ∧ (w5.setCell ⟨w.heap.size + 2, 3, none⟩ (.slice a5 r k5)).cell? ⟨w.heap.size + 1, 2, none⟩ = some (.int .i64 0) ∧ (w5.setCell ⟨w.heap.size + 2, 3, none⟩ (.slice a5 r k5)).cell? ⟨w.heap.size + 1, 3, none⟩ = some (.slice none 0 0)) ∧ (∀ o : Nat, (w5.setCell ⟨w.heap.size + 2, 3, none⟩ (.slice a5 r k5)).frozen? ⟨w.heap.size + 1, o, none⟩ = false) ∧ OwnGate cs kb per ns w (.returned (.agg #[.slice ca' i ccap', .string kb, .int .i64 per, .slice a5 r k5])) (((((w5.setCell ⟨w.heap.size + 2, 3, none⟩ (.slice a5 r k5)).setCell ⟨w.heap.size + 1, 0, none⟩ (.slice ca' i ccap')).setCell ⟨w.heap.size + 1, 1, none⟩ (.string kb)).setCell ⟨w.heap.size + 1, 2, none⟩ (.int .i64 per)).setCell ⟨w.heap.size + 1, 3, none⟩ (.slice a5 r k5))) := fun a5 k5 w5 ⟨g1, g2, g3, g4, g5, g6⟩ => by
    have h5 := HCp.out.1.later g4
    have ne : ∀ o : Nat, o ≠ 3 → (⟨w.heap.size + 2, 3, none⟩ : Addr) ≠ ⟨w.heap.size + 2, o, none⟩ := fun o ho e => by injection e with e1 e2; exact ho e2.symm
    have ne1 : ∀ o : Nat, (⟨w.heap.size + 2, 3, none⟩ : Addr) ≠ ⟨w.heap.size + 1, o, none⟩ := fun o e => by injection e with e1; omega
    have z : ∀ (o : Nat) v, #[Value.slice none 0 0, .string ⟨#[]⟩, .int .i64 0, .slice none 0 0][o]? = some v → (w5.setCell ⟨w.heap.size + 2, 3, none⟩ (.slice a5 r k5)).cell? ⟨w.heap.size + 1, o, none⟩ = some v := fun o v ho => by
     rw [World.cell?_setCell_other _ _ _ _ (ne1 o), h5.below.cell (p := ⟨w.heap.size + 1, o, none⟩) (by show w.heap.size + 1 < w.heap.size + 2; omega)]
     exact HV.out.2.2.1 o v ho
    have hbut : But (fun k => k = w.heap.size + 2 ∨ k = w.heap.size + 1) w5 (((((w5.setCell ⟨w.heap.size + 2, 3, none⟩ (.slice a5 r k5)).setCell ⟨w.heap.size + 1, 0, none⟩ (.slice ca' i ccap')).setCell ⟨w.heap.size + 1, 1, none⟩ (.string kb)).setCell ⟨w.heap.size + 1, 2, none⟩ (.int .i64 per)).setCell ⟨w.heap.size + 1, 3, none⟩ (.slice a5 r k5)) := But.setCell (But.setCell (But.setCell (But.setCell (But.setCell (But.refl _ w5) (p := ⟨w.heap.size + 2, 3, none⟩) (.inl rfl) _) (p := ⟨w.heap.size + 1, 0, none⟩) (.inr rfl) _) (p := ⟨w.heap.size + 1, 1, none⟩) (.inr rfl) _) (p := ⟨w.heap.size + 1, 2, none⟩) (.inr rfl) _) (p := ⟨w.heap.size + 1, 3, none⟩) (.inr rfl) _
    have hlt := h5.lt
    have hoc := h5.own.but hbut (fun k hk => by rcases hk with rfl | rfl <;> omega)
    obtain ⟨ca2, ccap2, e, -, -, hlc, -⟩ := hoc.open
    injection e with e1 e2 e3
    subst e1
    have hbw : Below w.heap.size w w5 := HR.out.2.trans (g4.mono HR.out.2.size)
    refine ⟨h5.c3, h5.free 3, ⟨?_, ?_, ?_, World.cell?_setCell_same' _ _ _ (by rw [h5.c3]; rfl)⟩, ⟨z 0 _ rfl, z 1 _ rfl, z 2 _ rfl, z 3 _ rfl⟩, fun o => ?_, ca', ccap', a5, k5, by rw [HM.out.1, HM.out.2], hlc, by rw [HM.out.1]; exact HCp.out.2.1, HCp.out.2.2, ?_, by rw [HM.out.2]; exact g2, g3, g5, ?_⟩
    · rw [World.cell?_setCell_other _ _ _ _ (ne 0 (by omega))]; exact h5.c0
    · rw [World.cell?_setCell_other _ _ _ _ (ne 1 (by omega))]; exact h5.c1
    · rw [World.cell?_setCell_other _ _ _ _ (ne 2 (by omega))]; exact h5.c2
    ·
     rw [World.frozen?_setCell, h5.below.frozen (p := ⟨w.heap.size + 1, o, none⟩) (by show w.heap.size + 1 < w.heap.size + 2; omega)]
     exact HV.out.2.2.2.1 o
    · exact liesN_but g1 hbut fun ad had hk => by have := g6 ad had; have := HR.out.1.below.size; rcases hk with hk | hk <;> omega
    · exact hbw.trans (hbut.below hbw.size fun k hk => by rcases hk with rfl | rfl <;> omega)
   clear hcp htk hcc1 hcc2
   go_wp2_with (at_builtin; go_must (refine wpList_append_nums _ rfl _ _ 23 rfl 3 i0 (.int .i64 0) Tryz.underlying23 hi hz0 hz1 hz2 rfl na ncap r ns HM.out.2 rfl rfl HLn.out HC.out.2.2.1 (by omega) ?_; rintro a5 k5 w5 h5; obtain ⟨p0, p1, ⟨p2, p3, p4, p5⟩, ⟨q0, q1, q2, q3⟩, qf, HE⟩ := HAfter.out a5 k5 w5 h5; have qf0 := qf 0; have qf1 := qf 1; have qf2 := qf 2; have qf3 := qf 3; have HE' : Hid (OwnGate cs kb per ns w (.returned (.agg #[.slice ca' i ccap', .string kb, .int .i64 per, .slice a5 r k5])) (((((w5.setCell ⟨w.heap.size + 2, 3, none⟩ (.slice a5 r k5)).setCell ⟨w.heap.size + 1, 0, none⟩ (.slice ca' i ccap')).setCell ⟨w.heap.size + 1, 1, none⟩ (.string kb)).setCell ⟨w.heap.size + 1, 2, none⟩ (.int .i64 per)).setCell ⟨w.heap.size + 1, 3, none⟩ (.slice a5 r k5))) := HE; clear h5 qf HE))
   exact bodyPost_ret (v := .agg #[.slice ca' i ccap', .string kb, .int .i64 per, .slice a5 r k5]) (by simp [results, Tryz.results12, go_sem, q0, q1, q2, q3]) rfl HE'.out
end Go.Proofs.YtibhkijaafdkoaaGreatDoor

namespace Go.Proofs.YtibhkijaafdkoaaGreatDoor
open Go.RowKit
theorem OwnP.mono {w : World} {B B' : Nat} {v : Value} {ps : List Pk} (h : OwnP w B v ps) (hb : B' ≤ B) : OwnP w B' v ps := ownsRow_mono h hb
theorem OwnP.later {w w' : World} {B : Nat} {v : Value} {ps : List Pk} (h : OwnP w B v ps) (hb : Below w.heap.size w w') : OwnP w' B v ps := ownsRow_of_block h fun g _ hg => hb.block g hg
theorem liesP_take {w : World} {a : Option Addr} {ps : List Pk} (h : LiesP w a ps) (k : Nat) : LiesP w a (ps.take k) := by
 rcases h with rfl | ⟨b, off, rfl, hlt, hc⟩
 · exact .inl (by simp)
 ·
  refine .inr ⟨b, off, rfl, hlt, fun i p hi => ?_⟩
  have hik : i < k := by
   rcases Nat.lt_or_ge i k with h' | h'
   · exact h'
   · rw [List.getElem?_take, if_neg (by omega)] at hi; cases hi
  rw [List.getElem?_take_of_lt hik] at hi
  exact hc i p hi
theorem run_append_pks (w : World) (ty : TypeId) (B : Nat) (v : Value) (ps qs : List Pk) (xa : Option Addr) (xcap : Nat) (hown : OwnP w B v ps) (hl : LiesP w xa qs) (hxa : xa = none → qs = [] ∧ xcap = 0) (hn : ps.length + qs.length ≤ 1000) (hB : B ≤ w.heap.size) :
  ∃ v' w', (Builtin.append_ #[43, 43] ty #[v, .slice xa qs.length xcap]).run Tryz.prog w = .ok v' w' ∧ OwnP w' B v' (ps ++ qs) ∧ Below B w w' := by
 obtain ⟨i0, hi, hz0, hz1, hz2⟩ := info_parts Tryz.infoPkt
 cases xa with
 | none =>
  obtain ⟨rfl, rfl⟩ := hxa rfl
  exact ⟨v, w, run_append_owned_none (P := Tryz.prog) w B 43 ty 52 i0 3 Tryz.underlying43 hi v ps.length (cellsP ps) hown, by rw [List.append_nil]; exact hown, Below.refl _ _⟩
 | some ad =>
  obtain ⟨v', w', hrun, h1, h2, -⟩ := run_append_own (P := Tryz.prog) w B 43 ty 52 i0 (.agg #[.int .i64 0, .int .i64 0, .int .i64 0]) 3 24 Tryz.underlying43 hi hz0 hz1 hz2 rfl (by decide) v ps.length (cellsP ps) hown ad qs.length xcap (cellsP qs) (cellsP_length qs) (liesP_news hl) (cellsP_one qs) (by unfold maxLen; omega) (by omega) hB
  refine ⟨v', w', hrun, ?_, (Below.refl _ _).grown h2 hB fun k hk => (ownsRow_lt hown hk).1⟩
  unfold OwnP
  rw [List.length_append, cellsP_append]
  exact h1
theorem wpList_append_pks (w : World) {ops : Array Oper} {rest : List Oper} {o : Oper} {a : Act} {Q : Exit → Act → World → Prop} (hgd : o.guard = none) (s x : Operand)
  (ho : o.op = .call { callee := .builtin .append, args := #[s, x], argTypes := #[43, 43] })
  (B : Nat) (v : Value) (ps qs : List Pk) (xa : Option Addr) (m xcap : Nat) (hm : qs.length = m) (hs : a.eval s = v) (hx : a.eval x = .slice xa m xcap) (hown : OwnP w B v ps) (hl : LiesP w xa qs) (hxa : xa = none → qs = [] ∧ xcap = 0) (hn : ps.length + qs.length ≤ 1000) (hB : B ≤ w.heap.size)
  (hK : ∀ v' w', OwnP w' B v' (ps ++ qs) ∧ Below B w w' → wpList Tryz.prog ops Q rest (a.put o.dst v') w') : wpList Tryz.prog ops Q (o :: rest) a w := by
 subst hm
 refine wpList_plain hgd fun K hK' => ?_
 obtain ⟨v', w', hrun, g1, g2⟩ := run_append_pks w o.type B v ps qs xa xcap hown hl hxa hn hB
 unfold Oper.wp
 simp [execOp, ho, resolve, invoke, builtin, hs, hx, hrun, Result.andThen]
 exact hK' _ _ (hK v' w' ⟨g1, g2⟩)
structure Both (w : World) (B : Nat) (v1 v2 : Value) (ps : List Pk) (ns : List Int) : Prop where
 pks : OwnP w B v1 ps
 nums : w.ownsRow B 3 1 v2 ns.length (ints ns)
 apart : ∀ g, v1.ownBlock = some g → v2.ownBlock ≠ some g
theorem both_nil (w : World) (B : Nat) : Both w B (.slice none 0 0) (.slice none 0 0) [] [] := ⟨World.ownsRow_nil _ _ _ _, World.ownsRow_nil _ _ _ _, fun g h => by cases h⟩
theorem Both.later {w w' : World} {B : Nat} {v1 v2 : Value} {ps : List Pk} {ns : List Int} (h : Both w B v1 v2 ps ns) (hb : Below w.heap.size w w') : Both w' B v1 v2 ps ns := ⟨h.pks.later hb, ownsRow_of_block h.nums fun g _ hg => hb.block g hg, h.apart⟩
theorem wpList_both_pk (w : World) {ops : Array Oper} {rest : List Oper} {o : Oper} {a : Act} {Q : Exit → Act → World → Prop} (hgd : o.guard = none) (s x : Operand)
  (ho : o.op = .call { callee := .builtin .append, args := #[s, x], argTypes := #[43, 43] })
  (B : Nat) (v1 v2 : Value) (ps : List Pk) (ns : List Int) (p : Pk) (ad : Addr) (hs : a.eval s = v1) (hx : a.eval x = .slice (some ad) 1 1) (hown : Both w B v1 v2 ps ns) (hl : LiesP w (some ad) [p]) (hn : ps.length ≤ 1000) (hB : B ≤ w.heap.size)
  (hK : ∀ v' w', Both w' B v' v2 (ps ++ [p]) ns ∧ Below B w w' → wpList Tryz.prog ops Q rest (a.put o.dst v') w') : wpList Tryz.prog ops Q (o :: rest) a w := by
 obtain ⟨i0, hi, hz0, hz1, hz2⟩ := info_parts Tryz.infoPkt
 refine wpList_append_lies w hgd s x 43 ho B 52 i0 (.agg #[.int .i64 0, .int .i64 0, .int .i64 0]) 3 24 Tryz.underlying43 hi hz0 hz1 hz2 rfl (by decide) v1 ps.length (cellsP ps) hs hown.pks ad 1 1 (cellsP [p]) hx rfl (liesP_news hl) (cellsP_one _) (by decide) (by unfold maxLen; omega) (by omega) hB _ rfl ?_
 intro g cap w' h1 h2 h3 h4
 refine hK _ _ ⟨⟨?_, ?_, ?_⟩, (Below.refl _ _).grown h2 hB fun k hk => (ownsRow_lt hown.pks hk).1⟩
 ·
  unfold OwnP
  rw [List.length_append, cellsP_append]
  exact h1
 ·
  exact hown.nums.kept h2 (by
   cases e : v2.ownBlock with
   | none => exact .inl rfl
   | some k => exact .inr fun e' => hown.apart k e'.symm e)
 ·
  intro k hk
  obtain rfl : g = k := Option.some.inj hk
  rcases h3 with h3 | h3
  · exact hown.apart g h3
  ·
   intro e
   have := (ownsRow_lt hown.nums e).2
   omega
theorem wpList_both_num (w : World) {ops : Array Oper} {rest : List Oper} {o : Oper} {a : Act} {Q : Exit → Act → World → Prop} (hgd : o.guard = none) (s x : Operand)
  (ho : o.op = .call { callee := .builtin .append, args := #[s, x], argTypes := #[23, 23] })
  (B : Nat) (v1 v2 : Value) (ps : List Pk) (ns : List Int) (z : Int) (ad : Addr) (hs : a.eval s = v2) (hx : a.eval x = .slice (some ad) 1 1) (hown : Both w B v1 v2 ps ns) (hl : w.cell? ad = some (.int .i64 z)) (hn : ns.length ≤ 1000) (hB : B ≤ w.heap.size)
  (hK : ∀ v' w', Both w' B v1 v' ps (ns ++ [z]) ∧ Below B w w' → wpList Tryz.prog ops Q rest (a.put o.dst v') w') : wpList Tryz.prog ops Q (o :: rest) a w := by
 obtain ⟨i0, hi, hz0, hz1, hz2⟩ := info_parts Tryz.infoInt
 refine wpList_append_lies w hgd s x 23 ho B 3 i0 (.int .i64 0) 1 8 Tryz.underlying23 hi hz0 hz1 hz2 rfl (by decide) v2 ns.length (ints ns) hs hown.nums ad 1 1 (ints [z]) hx rfl ?_ (ints_one _) (by decide) (by unfold maxLen; omega) (by omega) hB _ rfl ?_
 ·
  intro j u hj
  cases j with
  | zero =>
   have : u = .int .i64 z := by simpa [ints] using hj.symm
   rw [this]
   simpa [Addr.add] using hl
  | succ j => simp [ints] at hj
 intro g cap w' h1 h2 h3 h4
 refine hK _ _ ⟨⟨?_, ?_, ?_⟩, (Below.refl _ _).grown h2 hB fun k hk => (ownsRow_lt hown.nums hk).1⟩
 ·
  exact World.ownsRow.kept hown.pks h2 (by
   cases e : v1.ownBlock with
   | none => exact .inl rfl
   | some k => exact .inr fun e' => hown.apart k e e'.symm)
 ·
  rw [List.length_append, show ints (ns ++ [z]) = ints ns ++ ints [z] by simp [ints]]
  exact h1
 ·
  intro k hk e
  obtain rfl : g = k := Option.some.inj e
  rcases h3 with h3 | h3
  · exact hown.apart g hk h3
  ·
   have := (ownsRow_lt hown.pks hk).2
   omega
theorem liesP_new (w : World) (x y z : Int) : LiesP (w.alloc (.cells #[.int .i64 x, .int .i64 y, .int .i64 z] 52)) (some ⟨w.heap.size, 0, none⟩) [⟨x, y, z⟩] := by
 refine .inr ⟨w.heap.size, 0, rfl, by simp, fun j q hj => ?_⟩
 cases j with
 | zero =>
  obtain rfl := Option.some.inj hj
  exact ⟨by simp, by simp, by simp⟩
 | succ j => simp at hj
end Go.Proofs.YtibhkijaafdkoaaGreatDoor

namespace Go.Proofs.YtibhkijaafdkoaaGreatDoor
open Go.RowKit
structure GateLies (w : World) (ca : Option Addr) (ccap : Nat) (cs : List (List (Int × Int))) (na : Option Addr) (ncap : Nat) (ns : List Int) : Prop where
 curves : LiesC w ca cs
 cfit : cs.length ≤ ccap
 cmax : ccap ≤ maxLen
 nums : LiesN w na ns
 nfit : ns.length ≤ ncap
 nmax : ncap ≤ maxLen
 nnone : na = none → ns = [] ∧ ncap = 0
 slim : Slim cs ns
theorem GateLies.below {w w' : World} {ca : Option Addr} {ccap : Nat} {cs : List (List (Int × Int))} {na : Option Addr} {ncap : Nat} {ns : List Int} (h : GateLies w ca ccap cs na ncap ns) (hb : Below w.heap.size w w') : GateLies w' ca ccap cs na ncap ns := ⟨h.curves.below hb, h.cfit, h.cmax, h.nums.below hb, h.nfit, h.nmax, h.nnone, h.slim⟩
structure PksLie (w : World) (pa : Option Addr) (pcap : Nat) (ps : List Pk) : Prop where
 pks : LiesP w pa ps
 cap : ps.length ≤ pcap
 max : pcap ≤ maxLen
 none_ : pa = none → ps = [] ∧ pcap = 0
theorem PksLie.below {w w' : World} {pa : Option Addr} {pcap : Nat} {ps : List Pk} (h : PksLie w pa pcap ps) (hb : Below w.heap.size w w') : PksLie w' pa pcap ps := ⟨h.pks.below hb, h.cap, h.max, h.none_⟩
structure SntLie (w : World) (la : Option Addr) (lcap : Nat) (l : List Sn) : Prop where
 sent : LiesS w la l
 cap : l.length ≤ lcap
 max : lcap ≤ maxLen
 none_ : la = none → l = [] ∧ lcap = 0
def GateBad (c p : Int) (w : World) (e : Ending) (w' : World) : Prop := ∃ qa qcap la lcap E, e = .returned (.tuple #[.slice qa 0 qcap, .slice la 0 lcap, E]) ∧ ErrIs w' E c p ∧ Below w.heap.size w w'
def GateGood (cs : List (List (Int × Int))) (k : Nat) (per : Int) (ns : List Int) (ps : List Pk) (w : World) (e : Ending) (w' : World) : Prop := ∃ qa qcap la lcap qs l, e = .returned (.tuple #[.slice qa qs.length qcap, .slice la l.length lcap, .nilIface]) ∧ PksLie w' qa qcap qs ∧ SntLie w' la lcap l ∧ GateRun (curveFl cs) k per ns ps qs l ∧ Below w.heap.size w w'
structure GateWalks : Prop where
 check : ∀ (ca : Option Addr) (ccap : Nat) (cs : List (List (Int × Int))) (kb : ByteArray) (per : Int) (na : Option Addr) (ncap : Nat) (ns : List Int) (w : World) (ad : Nat → Addr) (c p : Int), Errs9 w ad → GateLies w ca ccap cs na ncap ns → GateIs cs (kindOf kb.toList) per ns c p →
  Calls Tryz.prog 29 #[.agg #[.slice ca cs.length ccap, .string kb, .int .i64 per, .slice na ns.length ncap]] w fun e w' => ∃ E, e = .returned E ∧ ErrIs w' E c p ∧ Below w.heap.size w w'
 bad : ∀ (ca : Option Addr) (ccap : Nat) (cs : List (List (Int × Int))) (kb : ByteArray) (per : Int) (na : Option Addr) (ncap : Nat) (ns : List Int) (pa : Option Addr) (pcap : Nat) (ps : List Pk) (w : World) (ad : Nat → Addr) (c p : Int), Errs9 w ad → GateLies w ca ccap cs na ncap ns → PksLie w pa pcap ps → RunIs cs (kindOf kb.toList) per ns ps c p → 0 < c →
  Calls Tryz.prog 20 #[.agg #[.slice ca cs.length ccap, .string kb, .int .i64 per, .slice na ns.length ncap], .slice pa ps.length pcap] w fun e w' => GateBad c p w e w'
 good : ∀ (ca : Option Addr) (ccap : Nat) (cs : List (List (Int × Int))) (kb : ByteArray) (per : Int) (na : Option Addr) (ncap : Nat) (ns : List Int) (pa : Option Addr) (pcap : Nat) (ps : List Pk) (w : World) (ad : Nat → Addr), Errs9 w ad → GateLies w ca ccap cs na ncap ns → PksLie w pa pcap ps → GateOk cs (kindOf kb.toList) per ns → OkPks ps → (∀ i, ¬ NeverAt (curveFl cs) ps i) →
  Calls Tryz.prog 20 #[.agg #[.slice ca cs.length ccap, .string kb, .int .i64 per, .slice na ns.length ncap], .slice pa ps.length pcap] w fun e w' => GateGood cs (kindOf kb.toList) per ns ps w e w'
def bare8 : List (List (Int × Int)) := List.replicate 8 []
theorem curveFl_bare : curveFl bare8 = fun _ => [] := by
 funext f
 cases h : bare8[f]? with
 | none => simp [curveFl, List.getD, h]
 | some ls =>
  rw [curveFl_get h]
  exact List.eq_of_mem_replicate (List.mem_of_getElem? h)
theorem never_bare (ps : List Pk) (i : Nat) : ¬ NeverAt (curveFl bare8) ps i := by
 rw [curveFl_bare]
 rintro ⟨p, s, -, h, -⟩
 exact h rfl
theorem run_bare {k : Nat} {per : Int} {ns : List Int} {ps qs : List Pk} {l : List Sn} (ho : OkPks ps) (h : GateRun (curveFl bare8) k per ns ps qs l) : qs = ps ∧ LinkSends k per ps ns l := by
 obtain ⟨a, L, h1, h2, rfl, h3⟩ := h
 rw [curveFl_bare] at h1
 obtain ⟨g1, g2, g3⟩ := open_gate ho
 have e := (gate_one ho h1 g1 h2 g2).trans g3
 rw [e] at h3
 exact ⟨e, h3⟩
def gpk1 : Pk := ⟨0, 3, 5⟩
theorem gpk1_ok : OkPks [gpk1] := ⟨by decide, fun i p h => by
 match i, h with
 | 0, h => cases h; exact ⟨rfl, by decide⟩
 | i + 1, h => simp at h⟩
theorem bare_ok : GateOk bare8 1 2 [] := ⟨rfl, fun i ls _ h => .inl (List.eq_of_mem_replicate (List.mem_of_getElem? h)), by decide, by decide, .inl ⟨rfl, .inr ⟨rfl, rfl⟩⟩⟩
theorem slim_bare (ns : List Int) (h : ns.length ≤ 30) : Slim bare8 ns := ⟨by decide, h, fun i ls hi => by rw [List.eq_of_mem_replicate (List.mem_of_getElem? hi)]; simp⟩
theorem liesC_bare (w : World) (t : TypeId) : LiesC (w.alloc (.cells (madeCells #[.slice none 0 0] 8) t)) (some ⟨w.heap.size, 0, none⟩) bare8 :=
 .inr ⟨w.heap.size, 0, rfl, by simp, fun i ls hi => by
  have hl : ls = [] := List.eq_of_mem_replicate (List.mem_of_getElem? hi)
  subst hl
  have hi8 : i < 8 := lt_of_get hi
  refine ⟨none, 0, ?_, .inl rfl, Nat.le_refl _, by simp [maxLen], fun _ => ⟨rfl, rfl⟩⟩
  rw [World.cell?_alloc_at _ _ _ _ rfl, Nat.zero_add]
  exact made_get _ _ _ hi8⟩
theorem kind_fifo : kindOf (ByteArray.toList ⟨#[102, 105, 102, 111]⟩) = 1 := by rw [bytes_fifo]; rfl
theorem make_curves (w' : World) : (Instr.makeSlice 22 (.int .i64 8) (.int .i64 8)).run Tryz.prog w' = .ok (.slice (some ⟨w'.heap.size, 0, none⟩) 8 8) (w'.alloc (.cells (madeCells #[.slice none 0 0] 8) 38)) := by
 obtain ⟨i0, hi, hz0, hz1, hz2⟩ := info_parts Tryz.infoLines
 have := run_make (P := Tryz.prog) w' 22 38 i0 (.slice none 0 0) Tryz.underlying22 hi hz0 .i64 .i64 8 8 (by omega) (by omega) (by rw [hz2]; omega) (by omega)
 simpa [hz1, Value.cells] using this
set_option maxRecDepth 100000 in
set_option maxHeartbeats 2000000 in
theorem opens_by (GW : GateWalks) (w : World) (ad : Nat → Addr) (he : Errs9 w ad) : Calls Tryz.prog 9 #[] w fun e w' => e = .returned (.bool true) ∧ Below w.heap.size w w' := by
 have HR : Hid (∀ W pb cb, Below w.heap.size w W → LiesC W (some ⟨cb, 0, none⟩) bare8 → LiesP W (some ⟨pb, 0, none⟩) [gpk1] → Calls Tryz.prog 20 #[.agg #[.slice (some ⟨cb, 0, none⟩) 8 8, .string ⟨#[102, 105, 102, 111]⟩, .int .i64 2, .slice none 0 0], .slice (some ⟨pb, 0, none⟩) 1 1] W fun e w' => ∃ qa qcap b o lcap, e = .returned (.tuple #[.slice qa 1 qcap, .slice (some ⟨b, o, none⟩) 1 lcap, .nilIface]) ∧ w'.cell? ⟨b, o + 2, none⟩ = some (.int .i64 11) ∧ Below W.heap.size W w') := fun W pb cb hb hc hp => by
  refine (GW.good (some ⟨cb, 0, none⟩) 8 bare8 ⟨#[102, 105, 102, 111]⟩ 2 none 0 [] (some ⟨pb, 0, none⟩) 1 [gpk1] W ad (he.below hb) ⟨hc, by decide, by decide, .inl rfl, by decide, by decide, fun _ => ⟨rfl, rfl⟩, slim_bare [] (by decide)⟩ ⟨hp, by decide, by decide, fun h => by cases h⟩ (by rw [kind_fifo]; exact bare_ok) gpk1_ok (never_bare _)).mono ?_
  rintro e w' ⟨qa, qcap, la, lcap, qs, l, rfl, h1, h2, h3, h4⟩
  rw [kind_fifo] at h3
  obtain ⟨rfl, h5⟩ := run_bare gpk1_ok h3
  obtain rfl : l = [⟨0, 5, 11⟩] := by
   rcases h5 with ⟨-, rfl⟩ | ⟨e, -⟩ | ⟨e, -⟩ | ⟨e, -⟩ | ⟨e, -⟩
   · rfl
   all_goals omega
  obtain ⟨b, o, rfl, -, hcl⟩ := h2.sent.place (by simp)
  refine ⟨qa, qcap, b, o, lcap, rfl, ?_, h4⟩
  have := (hcl 0 _ rfl).2.2
  simpa using this
 have hmk := make_curves
 have hs2 : ((w.alloc (.cells (madeCells #[.slice none 0 0] 8) 38)).alloc (.cells #[.slice (some ⟨w.heap.size, 0, none⟩) 8 8, .string ⟨#[102, 105, 102, 111]⟩, .int .i64 2, .slice none 0 0] 32)).heap.size = w.heap.size + 1 + 1 := by simp
 have hb1 : Below w.heap.size w (w.alloc (.cells (madeCells #[.slice none 0 0] 8) 38)) := (Below.refl _ _).alloc (Nat.le_refl _) _
 have hb2 : Below (w.alloc (.cells (madeCells #[.slice none 0 0] 8) 38)).heap.size (w.alloc (.cells (madeCells #[.slice none 0 0] 8) 38)) ((w.alloc (.cells (madeCells #[.slice none 0 0] 8) 38)).alloc (.cells #[.slice (some ⟨w.heap.size, 0, none⟩) 8 8, .string ⟨#[102, 105, 102, 111]⟩, .int .i64 2, .slice none 0 0] 32)) := (Below.refl _ _).alloc (Nat.le_refl _) _
 have hb3 : Below ((w.alloc (.cells (madeCells #[.slice none 0 0] 8) 38)).alloc (.cells #[.slice (some ⟨w.heap.size, 0, none⟩) 8 8, .string ⟨#[102, 105, 102, 111]⟩, .int .i64 2, .slice none 0 0] 32)).heap.size ((w.alloc (.cells (madeCells #[.slice none 0 0] 8) 38)).alloc (.cells #[.slice (some ⟨w.heap.size, 0, none⟩) 8 8, .string ⟨#[102, 105, 102, 111]⟩, .int .i64 2, .slice none 0 0] 32)) (((w.alloc (.cells (madeCells #[.slice none 0 0] 8) 38)).alloc (.cells #[.slice (some ⟨w.heap.size, 0, none⟩) 8 8, .string ⟨#[102, 105, 102, 111]⟩, .int .i64 2, .slice none 0 0] 32)).alloc (.cells #[.int .i64 0, .int .i64 3, .int .i64 5] 52)) := (Below.refl _ _).alloc (Nat.le_refl _) _
 have HV : Hid (Below w.heap.size w (((w.alloc (.cells (madeCells #[.slice none 0 0] 8) 38)).alloc (.cells #[.slice (some ⟨w.heap.size, 0, none⟩) 8 8, .string ⟨#[102, 105, 102, 111]⟩, .int .i64 2, .slice none 0 0] 32)).alloc (.cells #[.int .i64 0, .int .i64 3, .int .i64 5] 52)) ∧ LiesC (((w.alloc (.cells (madeCells #[.slice none 0 0] 8) 38)).alloc (.cells #[.slice (some ⟨w.heap.size, 0, none⟩) 8 8, .string ⟨#[102, 105, 102, 111]⟩, .int .i64 2, .slice none 0 0] 32)).alloc (.cells #[.int .i64 0, .int .i64 3, .int .i64 5] 52)) (some ⟨w.heap.size, 0, none⟩) bare8 ∧ LiesP (((w.alloc (.cells (madeCells #[.slice none 0 0] 8) 38)).alloc (.cells #[.slice (some ⟨w.heap.size, 0, none⟩) 8 8, .string ⟨#[102, 105, 102, 111]⟩, .int .i64 2, .slice none 0 0] 32)).alloc (.cells #[.int .i64 0, .int .i64 3, .int .i64 5] 52)) (some ⟨w.heap.size + 1 + 1, 0, none⟩) [gpk1]) := by
  have h12 := hb1.trans (hb2.mono hb1.size)
  refine ⟨h12.trans (hb3.mono h12.size), ((liesC_bare w 38).below hb2).below hb3, ?_⟩
  have := liesP_new ((w.alloc (.cells (madeCells #[.slice none 0 0] 8) 38)).alloc (.cells #[.slice (some ⟨w.heap.size, 0, none⟩) 8 8, .string ⟨#[102, 105, 102, 111]⟩, .int .i64 2, .slice none 0 0] 32)) 0 3 5
  rwa [hs2] at this
 clear GW he hs2 hb1 hb2 hb3
 go_enter Tryz.func9, Tryz.ntmps9
 go_wp2_with fail
 refine (HR.out _ _ _ HV.out.1 HV.out.2.1 HV.out.2.2).mono ?_
 rintro e w5 ⟨qa, qcap, b, o, lcap, rfl, hcell, hb5⟩
 have HB5 : Hid (Below w.heap.size w w5) := HV.out.1.trans (hb5.mono HV.out.1.size)
 clear hb5
 go_wp2_with fail
 go_ret
 exact ⟨rfl, HB5.out⟩
end Go.Proofs.YtibhkijaafdkoaaGreatDoor

namespace Go.Proofs.YtibhkijaafdkoaaGreatDoor
open Go.RowKit
def KindRes (k : Nat) (per : Int) (ns : List Int) (c : Int) : Prop := (¬ (1 ≤ per ∧ per ≤ 1000) ∧ c = 2) ∨ (1 ≤ per ∧ per ≤ 1000 ∧ ∃ d : Nat, KindFault k ns d ∧ c = d)
def SendEnd (k : Nat) (per : Int) (ns : List Int) (ps : List Pk) (c : Int) (w : World) (e : Ending) (w' : World) : Prop := ∃ la n lcap E, e = .returned (.tuple #[.slice la n lcap, E]) ∧ ErrIs w' E c (-1) ∧ Below w.heap.size w w' ∧ (c = 0 → ∃ l, n = l.length ∧ SntLie w' la lcap l ∧ LinkSends k per ps ns l)
theorem sendEnd_bad {k : Nat} {per : Int} {ns : List Int} {ps : List Pk} {c : Int} {w : World} (hc : 0 < c) {e : Ending} {w' : World} (h : ∃ ty v, e = .returned (.tuple #[.slice none 0 0, .iface ty v]) ∧ (ErrIs w' (.iface ty v) c (-1) ∧ Below w.heap.size w w')) : SendEnd k per ns ps c w e w' := by
 obtain ⟨ty, v, rfl, h1, h2⟩ := h
 exact ⟨none, 0, 0, _, rfl, h1, h2, fun h0 => by omega⟩
theorem sendEnd_ok {k : Nat} {per : Int} {ns : List Int} {ps : List Pk} {w w' : World} {v : Value} {l : List Sn} (ho : OwnS w' w.heap.size v l) (hl : LinkSends k per ps ns l) (hb : Below w.heap.size w w') : SendEnd k per ns ps 0 w (.returned (.tuple #[v, .nilIface])) w' := by
 obtain ⟨a, cap, rfl, h1, h2, h3, -, h5⟩ := ho.open
 exact ⟨a, l.length, cap, .nilIface, rfl, errIs_nil w', hb, fun _ => ⟨l, rfl, ⟨h3, h1, h2, h5⟩, hl⟩⟩
section
variable (pa : Option Addr) (pcap : Nat) (ps : List Pk) (per : Int) (na : Option Addr) (ncap : Nat) (ns : List Int) (w : World) (ad : Nat → Addr)
theorem linkBad {per : Int} {ps : List Pk} (ho : OkPks ps) (h : ¬ (1 ≤ per ∧ per ≤ 1000)) : LinkFaultIs ps per 2 (-1) := .inr (.inl ⟨ho, by omega, rfl, rfl⟩)
theorem sendRank (he : Errs9 w ad) (hp : PksLie w pa pcap ps) (hn : LiesN w na ns) (ho : OkPks ps) (c : Int) (hr : KindRes 2 per ns c) : Calls Tryz.prog 86 #[.slice pa ps.length pcap, .int .i64 per, .slice na ns.length ncap] w fun e w' => SendEnd 2 per ns ps c w e w' := by
 rcases hr with ⟨h, rfl⟩ | ⟨h1, h2, d, hd, rfl⟩
 · exact (rankRun_isL pa pcap ps per na ns.length ncap w ad he hp.pks hp.cap hp.max 2 (-1) (linkBad ho h) (by omega)).mono fun _ _ h => sendEnd_bad (by omega) h
 ·
  rcases hd with ⟨h, -⟩ | ⟨-, hd⟩ | ⟨h, -⟩ | ⟨h, -⟩ | ⟨h, -⟩
  · omega
  ·
   rcases Nat.eq_zero_or_pos d with rfl | h0
   ·
    refine (rankRun_ok pa pcap ps per na ncap ns w hp.pks hn ho h1 h2 hd.ok).mono ?_
    rintro e w' ⟨v, rfl, l, g1, g2, g3, g4⟩
    exact sendEnd_ok g1 (.inr (.inl ⟨rfl, g2, g3⟩)) g4
   · exact (rankRun_isN pa pcap ps per na ncap ns w ad he hp.pks hn ho h1 h2 d hd h0).mono fun _ _ h => sendEnd_bad (by omega) h
  all_goals omega
theorem sendDue (he : Errs9 w ad) (hp : PksLie w pa pcap ps) (hn : LiesN w na ns) (ho : OkPks ps) (c : Int) (hr : KindRes 3 per ns c) : Calls Tryz.prog 87 #[.slice pa ps.length pcap, .int .i64 per, .slice na ns.length ncap] w fun e w' => SendEnd 3 per ns ps c w e w' := by
 rcases hr with ⟨h, rfl⟩ | ⟨h1, h2, d, hd, rfl⟩
 · exact (rankDue_isL pa pcap ps per na ns.length ncap w ad he hp.pks hp.cap hp.max 2 (-1) (linkBad ho h) (by omega)).mono fun _ _ h => sendEnd_bad (by omega) h
 ·
  rcases hd with ⟨h, -⟩ | ⟨h, -⟩ | ⟨-, hd⟩ | ⟨h, -⟩ | ⟨h, -⟩
  · omega
  · omega
  ·
   rcases Nat.eq_zero_or_pos d with rfl | h0
   ·
    refine (rankDue_ok pa pcap ps per na ncap ns w hp.pks hn ho h1 h2 hd.ok).mono ?_
    rintro e w' ⟨v, rfl, l, g1, g2, g3, g4⟩
    exact sendEnd_ok g1 (.inr (.inr (.inl ⟨rfl, g2, g3⟩))) g4
   · exact (rankDue_isN pa pcap ps per na ncap ns w ad he hp.pks hn ho h1 h2 d hd h0).mono fun _ _ h => sendEnd_bad (by omega) h
  all_goals omega
theorem sendRound (he : Errs9 w ad) (hp : PksLie w pa pcap ps) (hn : LiesN w na ns) (ho : OkPks ps) (c : Int) (hr : KindRes 4 per ns c) : Calls Tryz.prog 26 #[.slice pa ps.length pcap, .int .i64 per, .slice na ns.length ncap] w fun e w' => SendEnd 4 per ns ps c w e w' := by
 rcases hr with ⟨h, rfl⟩ | ⟨h1, h2, d, hd, rfl⟩
 · exact (roundRun_isL pa pcap ps per na ns.length ncap w ad he hp.pks hp.cap hp.max 2 (-1) (linkBad ho h) (by omega)).mono fun _ _ h => sendEnd_bad (by omega) h
 ·
  rcases hd with ⟨h, -⟩ | ⟨h, -⟩ | ⟨h, -⟩ | ⟨-, hd⟩ | ⟨h, -⟩
  · omega
  · omega
  · omega
  ·
   rcases Nat.eq_zero_or_pos d with rfl | h0
   ·
    refine (roundRun_ok pa pcap ps per na ncap ns w hp.pks hn ho h1 h2 hd.ok).mono ?_
    rintro e w' ⟨v, rfl, l, g1, g2, g4⟩
    exact sendEnd_ok g1 (.inr (.inr (.inr (.inl ⟨rfl, g2⟩)))) g4
   · exact (roundRun_isN pa pcap ps per na ncap ns w ad he hp.pks hn ho h1 h2 d hd h0).mono fun _ _ h => sendEnd_bad (by omega) h
  all_goals omega
theorem sendFair (he : Errs9 w ad) (hp : PksLie w pa pcap ps) (hn : LiesN w na ns) (ho : OkPks ps) (c : Int) (hr : KindRes 5 per ns c) : Calls Tryz.prog 88 #[.slice pa ps.length pcap, .int .i64 per, .slice na ns.length ncap] w fun e w' => SendEnd 5 per ns ps c w e w' := by
 rcases hr with ⟨h, rfl⟩ | ⟨h1, h2, d, hd, rfl⟩
 · exact (fairRun_err (R := fun ty v w' => ErrIs w' (.iface ty v) 2 (-1) ∧ Below w.heap.size w w') pa _ pcap per na _ ncap w (fairCheck_isL pa pcap ps per na ns.length ncap w ad he hp.pks hp.cap hp.max 2 (-1) (linkBad ho h) (by omega))).mono fun _ _ h => sendEnd_bad (by omega) h
 ·
  rcases hd with ⟨h, -⟩ | ⟨h, -⟩ | ⟨h, -⟩ | ⟨h, -⟩ | ⟨-, hd⟩
  · omega
  · omega
  · omega
  · omega
  ·
   rcases Nat.eq_zero_or_pos d with rfl | h0
   ·
    refine (fairRun_ok pa pcap ps per na ncap ns w hp.pks hn ho h1 h2 hd.ok).mono ?_
    rintro e w' ⟨v, rfl, g, gt, l, f, g1, g2, g4, -⟩
    exact sendEnd_ok g1 (.inr (.inr (.inr (.inr ⟨rfl, _, g2⟩)))) g4
   · exact (fairRun_err (R := fun ty v w' => ErrIs w' (.iface ty v) d (-1) ∧ Below w.heap.size w w') pa _ pcap per na _ ncap w (fairCheck_isN pa pcap ps per na ncap ns w ad he hp.pks hn ho h1 h2 d hd h0)).mono fun _ _ h => sendEnd_bad (by omega) h
theorem Tryz.callFifo (args : Array Value) (W : World) : Sem.run Tryz.prog (callFunc 85 args) W = .ok (.enter 85 args) W := by kernel_rfl
set_option maxRecDepth 100000 in
set_option maxHeartbeats 2000000 in
theorem sendFifo (X : Nat) (he : Errs9 w ad) (hx : w.cell? ⟨X, 0, none⟩ = some (.func (.func 85) #[] #[])) (hp : PksLie w pa pcap ps) (ho : OkPks ps) (c : Int) (hr : KindRes 1 per ns c) : Calls Tryz.prog 129 #[.slice pa ps.length pcap, .int .i64 per, .slice na ns.length ncap, .pointer (some ⟨X, 0, none⟩)] w fun e w' => SendEnd 1 per ns ps c w e w' := by
 have hcall := Tryz.callFifo
 have HE : Hid (Errs9 w ad) := he
 have HO : Hid (OkPks ps) := ho
 rcases hr with ⟨h, rfl⟩ | ⟨h1, h2, d, hd, rfl⟩
 ·
  have HC : Hid (Calls Tryz.prog 85 #[.slice pa ps.length pcap, .int .i64 per] w fun e w' => ∃ ty v, e = .returned (.tuple #[.slice none 0 0, .iface ty v]) ∧ (ErrIs w' (.iface ty v) 2 (-1) ∧ Below w.heap.size w w')) := fifoRun_is pa pcap ps per 2 (-1) w ad he hp.pks hp.cap hp.max (linkBad ho h) (by omega)
  clear he hp ho h
  go_enter Tryz.func129, Tryz.ntmps129
  go_wp2_with fail
  refine HC.out.mono ?_
  rintro e w1 ⟨ty, v, rfl, h3, h4⟩
  have H3 : Hid (ErrIs w1 (.iface ty v) 2 (-1) ∧ Below w.heap.size w w1) := ⟨h3, h4⟩
  clear h3 h4
  go_wp2_with fail
  go_ret2
  exact sendEnd_bad (by omega) ⟨ty, v, rfl, H3.out⟩
 ·
  have HC : Hid (Calls Tryz.prog 85 #[.slice pa ps.length pcap, .int .i64 per] w fun e w' => ∃ v, e = .returned (.tuple #[v, .nilIface]) ∧ OwnS w' w.heap.size v (lindAll per ps ps.length) ∧ Below w.heap.size w w') := fifoRun_ok pa pcap ps per w hp.pks ho h1 h2
  have hd' : (d = 3 ∧ ns ≠ []) ∨ (d = 0 ∧ ns = []) := by
   rcases hd with ⟨-, hd⟩ | ⟨h, -⟩ | ⟨h, -⟩ | ⟨h, -⟩ | ⟨h, -⟩
   · exact hd
   all_goals omega
  obtain ⟨r, hr⟩ : ∃ r, ns.length = r := ⟨_, rfl⟩
  have HR : Hid (ns.length = r) := hr
  rw [hr]
  clear he hp ho hd hr
  rcases hd' with ⟨rfl, hne⟩ | ⟨rfl, hnil⟩
  ·
   have hr0 : (0 : Int) < (r : Int) := by have := List.length_pos_iff.2 hne; have := HR.out; omega
   clear hne
   go_enter Tryz.func129, Tryz.ntmps129
   go_wp2_with fail
   refine HC.out.mono ?_
   rintro e w1 ⟨v, rfl, h3, h4⟩
   have H4 : Hid (Below w.heap.size w w1) := h4
   have c2 := (HE.out.below h4).c2
   clear h3 h4
   go_wp2_with fail
   go_quiet (fail)
   go_wp2_with fail
   go_ret2
   have hbq : Below w.heap.size w (w1.drewN nq) := below_drewN H4.out nq
   exact ⟨none, 0, 0, _, rfl, errIs_sent (HE.out.below hbq) 2 (by omega), hbq, fun h0 => absurd h0 (by decide)⟩
  ·
   have hr0 : ¬ (0 : Int) < (r : Int) := by have := HR.out; rw [hnil] at this; simp at this; omega
   have HNil : Hid (ns = []) := hnil
   clear hnil
   go_enter Tryz.func129, Tryz.ntmps129
   go_wp2_with fail
   refine HC.out.mono ?_
   rintro e w1 ⟨v, rfl, h3, h4⟩
   have H4 : Hid (OwnS w1 w.heap.size v (lindAll per ps ps.length) ∧ Below w.heap.size w w1) := ⟨h3, h4⟩
   clear h3 h4
   go_wp2_with fail
   go_ret2
   exact sendEnd_ok H4.out.1 (.inl ⟨rfl, rfl⟩) H4.out.2
end
end Go.Proofs.YtibhkijaafdkoaaGreatDoor
