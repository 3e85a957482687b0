/- Own facts, put together: no statement of its own. -/
import Derived.Deep.LoopGhost
import Derived.Test.YtnomdlclkpnjpaaGreatDoorR32
import Derived.Test.YtnomdlclkpnjpaaGreatDoorR31
import Derived.Test.YtnomdlclkpnjpaaGreatDoorR26
import Derived.Test.YtnomdlclkpnjpaaGreatDoorR02
import Derived.Test.YtnomdlclkpnjpaaGreatDoorR13
import Derived.Test.YtnomdlclkpnjpaaGreatDoorR10
import Derived.Test.YtnomdlclkpnjpaaGreatDoorR04
import Derived.Deep.AppendLies
import Derived.Test.YtnomdlclkpnjpaaGreatDoorR11
namespace Go.Proofs.YtnomdlclkpnjpaaGreatDoor
open Go.RowKit
set_option maxRecDepth 100000 in
set_option maxHeartbeats 1000000 in
theorem clonePkts_any (pa : Option Addr) (pcap : Nat) (ps : List Pk) (w : World) (hl : LiesP w pa ps) (hn : ps.length ≤ 1000) (ha : pa = none → ps = [] ∧ pcap = 0) :
  Calls Tryz.prog 74 #[.slice pa ps.length pcap] w fun e w' => ∃ v, e = .returned v ∧ OwnP w' w.heap.size v ps ∧ Below w.heap.size w w' := by
 cases pa with
 | none =>
  obtain ⟨rfl, rfl⟩ := ha rfl
  have hnil := fun wx => Go.Lib.run_eql_slice_nil (P := Tryz.prog) wx 43 52 none 0 0 0 0 Tryz.underlying43
  go_enter Tryz.func74, Tryz.ntmps74
  go_wp2_with fail
  go_ret
  exact ⟨_, rfl, World.ownsRow_nil _ _ _ _, Below.refl _ _⟩
 | some ad =>
  have hb0 : Below w.heap.size w (w.alloc (.cells #[] 52)) := (Below.refl _ _).alloc (Nat.le_refl _) _
  have H1 : Hid (LiesP (w.alloc (.cells #[] 52)) (some ad) ps) := hl.below hb0
  have H4 : Hid (OwnP (w.alloc (.cells #[] 52)) w.heap.size (.slice (some ⟨w.heap.size, 0, none⟩) 0 0) []) := World.ownsRow_lit w #[] 0 (Nat.le_refl _) (by simp [maxLen]) (by simp)
  have HB0 : Hid (Below w.heap.size w (w.alloc (.cells #[] 52))) := hb0
  have hnil := fun wx => Go.Lib.run_eql_slice_nil (P := Tryz.prog) wx 43 52 (some ad) ps.length pcap 0 0 Tryz.underlying43
  clear hl hb0 ha
  go_enter Tryz.func74, Tryz.ntmps74
  go_wp2_with (at_builtin; refine wpList_append_pks _ rfl _ _ rfl w.heap.size (.slice (some ⟨w.heap.size, 0, none⟩) 0 0) [] ps (some ad) ps.length pcap rfl rfl rfl H4.out H1.out (fun h => by cases h) (by simpa using hn) (by simp) ?_; rintro v' w3 ⟨hown', hb3⟩)
  go_ret
  exact ⟨_, rfl, by simpa using hown', HB0.out.trans hb3⟩
set_option maxRecDepth 100000 in
set_option maxHeartbeats 2000000 in
theorem numbersOf_any (b off n pcap : Nat) (xs : Nat → Pk) (ps : List Pk) (f : Nat) (w : World) (h : RowP w b off n xs (fun i => i)) (hn : n ≤ 300) (hnum : ∀ i, i < n → ((xs i).flow == (f : Int)) = (flowOf ps i == f)) :
  Calls Tryz.prog 120 #[.slice (some ⟨b, off, none⟩) n pcap, .int .i64 (f : Int)] w fun e w' => ∃ v, e = .returned v ∧ w'.ownsRow w.heap.size 3 1 v (numTo ps f n).length (ints (asInts (numTo ps f n))) ∧ Below w.heap.size w w' := by
 have HR : Hid (RowP w b off n xs (fun i => i)) := h
 have HF : Hid (∀ i, i < n → ((xs i).flow == (f : Int)) = (flowOf ps i == f)) := hnum
 clear h hnum
 go_enter Tryz.func120, Tryz.ntmps120
 go_wp2_with fail
 go_loopg [5, 10] n (fun gk ov iv wr => ∃ k : Nat, iv = .int .i64 (k : Int) ∧ k ≤ n ∧ n - k ≤ gk ∧ Hid (Both wr w.heap.size (.slice none 0 0) ov [] (asInts (numTo ps f k)) ∧ Below w.heap.size w wr))
 case atStart => exact ⟨0, rfl, Nat.zero_le _, Nat.le_refl _, both_nil _ _, Below.refl _ _⟩
 case round =>
  obtain ⟨k, rfl, hkn, hgk, H⟩ := hrel
  by_cases hlt : k < n
  ·
   have hltz : (k : Int) < (n : Int) := by omega
   have HRr := HR.out.later H.out.2
   have c0 : wr.cell? ⟨b, off + k * 3, none⟩ = some (.int .i64 (xs k).flow) := HRr.c0 k hlt
   have c1 : wr.cell? ⟨b, off + k * 3 + 1, none⟩ = some (.int .i64 (xs k).size) := HRr.c1 k hlt
   have c2 : wr.cell? ⟨b, off + k * 3 + 2, none⟩ = some (.int .i64 (xs k).tick) := HRr.c2 k hlt
   have hfk := HF.out k hlt
   obtain ⟨x0, hx0⟩ : ∃ x, (xs k).flow = x := ⟨_, rfl⟩
   obtain ⟨x1, hx1⟩ : ∃ x, (xs k).size = x := ⟨_, rfl⟩
   obtain ⟨x2, hx2⟩ : ∃ x, (xs k).tick = x := ⟨_, rfl⟩
   rw [hx0] at c0 hfk
   rw [hx1] at c1
   rw [hx2] at c2
   have HLen : Hid ((numTo ps f k).length ≤ k) := by show (numTo ps f k).length ≤ k; unfold numTo; exact Nat.le_trans (List.length_filter_le _ _) (by simp)
   clear HRr hx0 hx1 hx2
   by_cases hfl : flowOf ps k = f
   ·
    have hq : (x0 == (f : Int)) = true := by rw [hfk]; simpa using hfl
    have HS : Hid (numTo ps f (k + 1) = numTo ps f k ++ [k]) := by show _ = _; rw [numTo_succ, if_pos hfl]
    clear hfk hfl
    have hb1 : Below wr.heap.size wr (wr.alloc (.cells #[.int .i64 x0, .int .i64 x1, .int .i64 x2] 52)) := (Below.refl _ _).alloc (Nat.le_refl _) _
    have hb2 : Below wr.heap.size wr ((wr.alloc (.cells #[.int .i64 x0, .int .i64 x1, .int .i64 x2] 52)).alloc (.cells #[.int .i64 (k : Int)] 3)) := hb1.alloc hb1.size _
    have HV : Hid (Both ((wr.alloc (.cells #[.int .i64 x0, .int .i64 x1, .int .i64 x2] 52)).alloc (.cells #[.int .i64 (k : Int)] 3)) w.heap.size (.slice none 0 0) u5 [] (asInts (numTo ps f k)) ∧ Below w.heap.size w ((wr.alloc (.cells #[.int .i64 x0, .int .i64 x1, .int .i64 x2] 52)).alloc (.cells #[.int .i64 (k : Int)] 3)) ∧ ((wr.alloc (.cells #[.int .i64 x0, .int .i64 x1, .int .i64 x2] 52)).alloc (.cells #[.int .i64 (k : Int)] 3)).cell? ⟨wr.heap.size + 1, 0, none⟩ = some (.int .i64 (k : Int))) := ⟨H.out.1.later hb2, H.out.2.trans (hb2.mono H.out.2.size), by simp⟩
    clear hb1 hb2 H
    go_wp2_with (at_builtin; refine wpList_both_num _ rfl _ _ rfl w.heap.size (.slice none 0 0) u5 [] (asInts (numTo ps f k)) (k : Int) ⟨wr.heap.size + 1, 0, none⟩ rfl rfl HV.out.1 HV.out.2.2 (by have := HLen.out; simp [asInts]; omega) HV.out.2.1.size ?_; rintro v7 w7 ⟨hbo7, hb7⟩; have H7 : Hid (Both w7 w.heap.size (.slice none 0 0) v7 [] (asInts (numTo ps f (k + 1))) ∧ Below w.heap.size w w7) := ⟨by rw [HS.out, asInts_more]; exact hbo7, HV.out.2.1.trans hb7⟩; clear hbo7 hb7)
    go_roundg (n - (k + 1))
    case measure => omega
    case rel => exact ⟨k + 1, by go_num, hlt, Nat.le_refl _, H7⟩
   ·
    have hq : (x0 == (f : Int)) = false := by rw [hfk]; simpa using hfl
    have HS : Hid (numTo ps f (k + 1) = numTo ps f k) := by show _ = _; rw [numTo_succ, if_neg hfl]
    have hb1 : Below wr.heap.size wr (wr.alloc (.cells #[.int .i64 x0, .int .i64 x1, .int .i64 x2] 52)) := (Below.refl _ _).alloc (Nat.le_refl _) _
    have HV : Hid (Both (wr.alloc (.cells #[.int .i64 x0, .int .i64 x1, .int .i64 x2] 52)) w.heap.size (.slice none 0 0) u5 [] (asInts (numTo ps f (k + 1))) ∧ Below w.heap.size w (wr.alloc (.cells #[.int .i64 x0, .int .i64 x1, .int .i64 x2] 52))) := by
     refine ⟨?_, H.out.2.trans (hb1.mono H.out.2.size)⟩
     rw [HS.out]
     exact H.out.1.later hb1
    clear hfk hfl hb1 H
    go_wp2_with fail
    go_roundg (n - (k + 1))
    case measure => omega
    case rel => exact ⟨k + 1, by go_num, hlt, Nat.le_refl _, HV⟩
  ·
   have hltz : ¬ (k : Int) < (n : Int) := by omega
   obtain rfl : k = n := by omega
   go_wp2_with fail
   go_ret
   refine ⟨_, rfl, ?_, H.out.2⟩
   have := H.out.1.nums
   rwa [show (asInts (numTo ps f k)).length = (numTo ps f k).length by simp [asInts]] at this
end Go.Proofs.YtnomdlclkpnjpaaGreatDoor

namespace Go.Proofs.YtnomdlclkpnjpaaGreatDoor
open Go.RowKit
theorem Errs9.four {w : World} {ad : Nat → Addr} (h : Errs9 w ad) : Errs4 w ad := ⟨h.c1, h.c2, h.c3, h.c4⟩
end Go.Proofs.YtnomdlclkpnjpaaGreatDoor

namespace Go.Proofs.YtnomdlclkpnjpaaGreatDoor
open Go.RowKit
structure DoneAt (w : World) (g n : Nat) (out : List Sn) : Prop where
 cell : ∀ i, i < n → w.cell? ⟨g, i, none⟩ = some (.bool (isDone out i))
 frozen : ∀ i, w.frozen? ⟨g, i, none⟩ = false
 lt : g < w.heap.size
theorem done_made (w : World) (n : Nat) (t : TypeId) : DoneAt (w.alloc (.cells (madeCells #[.bool false] n) t)) w.heap.size n [] := by
 refine ⟨fun i hi => ?_, fun i => World.frozen?_alloc_new w _ _ i, by simp⟩
 rw [World.cell?_alloc_at _ _ _ _ rfl]
 exact made_get _ _ _ hi
theorem DoneAt.of_block {w w' : World} {g n : Nat} {out : List Sn} (h : DoneAt w g n out) (hb : w'.heap[g]? = w.heap[g]?) (hs : w.heap.size ≤ w'.heap.size) : DoneAt w' g n out :=
 ⟨fun i hi => (World.cell?_of_block (a := ⟨g, i, none⟩) hb).trans (h.cell i hi), fun i => (World.frozen?_of_block (a := ⟨g, i, none⟩) hb).trans (h.frozen i), Nat.lt_of_lt_of_le h.lt hs⟩
theorem DoneAt.put {w : World} {g n : Nat} {out : List Sn} (h : DoneAt w g n out) (b : Nat) (hb : b < n) (f t : Int) : DoneAt (w.setCell ⟨g, b, none⟩ (.bool true)) g n (out ++ [⟨b, f, t⟩]) := by
 refine ⟨fun i hi => ?_, fun i => by rw [World.frozen?_setCell]; exact h.frozen i, by simp [World.setCell]; exact h.lt⟩
 rw [isDone_snoc]
 by_cases e : b = i
 ·
  subst e
  rw [World.cell?_setCell_same' _ _ _ (by rw [h.cell b hb]; rfl)]
  simp
 ·
  rw [World.cell?_setCell_other _ _ _ _ (by intro e'; cases e'; exact e rfl), h.cell i hi]
  simp [e]
structure LeastAt (per : Int) (ps : List Pk) (keys : List Int) (w wr : World) (v : Value) (g : Nat) (out : List Sn) (t : Int) (f : Nat) : Prop where
 seeks : Seeks per ps keys out t f
 own : OwnS wr w.heap.size v out
 done : DoneAt wr g ps.length out
 apart : v.ownBlock ≠ some g
 new : w.heap.size ≤ g
 below : Below w.heap.size w wr
section
variable {per : Int} {ps : List Pk} {keys : List Int} {w wr wr' : World} {v : Value} {g : Nat} {out : List Sn} {t : Int} {f : Nat}
theorem LeastAt.later (h : LeastAt per ps keys w wr v g out t f) (hb : Below wr.heap.size wr wr') : LeastAt per ps keys w wr' v g out t f :=
 ⟨h.seeks, ownsRow_of_block h.own (fun g _ hg => hb.block g hg), h.done.of_block (hb.block g h.done.lt) hb.size, h.apart, h.new, h.below.trans (hb.mono h.below.size)⟩
theorem LeastAt.grown (h : LeastAt per ps keys w wr v g out t f) {x : Sn} {g' cap : Nat} {w2 : World} (h1 : w2.ownsRow w.heap.size 71 3 (.slice (some ⟨g', 0, none⟩) (out.length + 1) cap) (out.length + 1) (cellsS out ++ cellsS [x])) (h2 : wr.grownBy w2 v.ownBlock) (h3 : v.ownBlock = some g' ∨ g' = wr.heap.size)
  (b : Nat) (hb : b < ps.length) (hx : x = ⟨b, x.beg, x.fin⟩) (t' : Int) (f' : Nat) (hs : Seeks per ps keys (out ++ [x]) t' f') : LeastAt per ps keys w (w2.setCell ⟨g, b, none⟩ (.bool true)) (.slice (some ⟨g', 0, none⟩) (out.length + 1) cap) g (out ++ [x]) t' f' := by
 have hne : g' ≠ g := by
  rcases h3 with h3 | h3
  · intro e; subst e; exact h.apart h3
  · have := h.done.lt; omega
 have hd : DoneAt w2 g ps.length out := h.done.of_block (h2.block g h.done.lt (fun e => h.apart e.symm)) h2.size
 have hb1 : But (fun k => v.ownBlock = some k) wr w2 := ⟨h2.os, h2.tape, h2.output, h2.size, fun k hk hn => h2.block k hk (fun e => hn e.symm)⟩
 have hb2 : But (fun k => k = g) w2 (w2.setCell ⟨g, b, none⟩ (.bool true)) := But.setCell (S := fun k => k = g) (But.refl _ w2) (p := ⟨g, b, none⟩) rfl _
 refine ⟨hs, ?_, by rw [hx]; exact hd.put b hb _ _, fun e => hne (Option.some.inj e), h.new, ?_⟩
 ·
  unfold OwnS
  rw [List.length_append, cellsS_append]
  exact ownsRow_of_block h1 (fun k hk hlt => hb2.block k hlt (fun e => hne ((Option.some.inj hk).trans e)))
 · exact h.below.trans ((hb1.below h.below.size fun k hk => (ownsRow_lt h.own hk).1).trans (hb2.below (Nat.le_trans h.below.size h2.size) fun k hk => by rw [hk]; exact h.new))
end
end Go.Proofs.YtnomdlclkpnjpaaGreatDoor

namespace Go.Proofs.YtnomdlclkpnjpaaGreatDoor
open Go.RowKit
theorem Tryz.infoBool : (Tryz.prog.info? 4).map (fun i => (i.zero, i.size, i.bytes)) = some (some (.bool false), 1, 1) := by kernel_rfl
def LeastEnd (per : Int) (ps : List Pk) (keys : List Int) (w : World) (e : Ending) (w' : World) : Prop := ∃ v l, e = .returned v ∧ OwnS w' w.heap.size v l ∧ Sched per ps keys l ∧ l.length = ps.length ∧ Below w.heap.size w w'
set_option maxRecDepth 100000 in
set_option maxHeartbeats 8000000 in
theorem leastOf_any (a : Option Addr) (cap : Nat) (ps : List Pk) (per : Int) (ka : Option Addr) (kcap : Nat) (keys : List Int) (w : World) (hl : LiesP w a ps) (hk : LiesN w ka keys) (hkl : keys.length = ps.length) (ho : OkPks ps) (h1 : 1 ≤ per) (h2 : per ≤ 1000) :
  Calls Tryz.prog 137 #[.slice a ps.length cap, .int .i64 per, .slice ka ps.length kcap] w fun e w' => LeastEnd per ps keys w e w' := by
 have HP : Hid (LiesP w a ps ∧ OkPks ps) := ⟨hl, ho⟩
 have HK : Hid (LiesN w ka keys ∧ keys.length = ps.length) := ⟨hk, hkl⟩
 have hfew := ho.few
 clear hl hk hkl ho
 obtain ⟨n, hn⟩ : ∃ n, ps.length = n := ⟨_, rfl⟩
 have HN : Hid (ps.length = n) := hn
 rw [hn] at hfew ⊢
 have hmk : ∀ w' : World, (Instr.makeSlice 97 (.int .i64 n) (.int .i64 n)).run Tryz.prog w' = .ok (.slice (some ⟨w'.heap.size, 0, none⟩) n n) (w'.alloc (.cells (madeCells #[.bool false] n) 4)) := fun w' => by
  obtain ⟨i0, hi, hz0, hz1, hz2⟩ := info_parts Tryz.infoBool
  have := run_make (P := Tryz.prog) w' 97 4 i0 (.bool false) Tryz.underlying97 hi hz0 .i64 .i64 n n (by omega) (by omega) (by rw [hz2]; omega) (by omega)
  simpa [hz1, Value.cells] using this
 have HS0 : Hid (LeastAt per ps keys w (w.alloc (.cells (madeCells #[.bool false] n) 4)) (.slice none 0 0) w.heap.size [] 0 1) :=
  ⟨seeks_start _ _ _, World.ownsRow_nil _ _ _ _, by rw [hn]; exact done_made w n _, (fun h => by cases h), Nat.le_refl _, (Below.refl _ _).alloc (Nat.le_refl _) _⟩
 obtain ⟨i0, hi, hz0, hz1, hz2⟩ := info_parts Tryz.infoSent
 clear hn
 go_enter Tryz.func137, Tryz.ntmps137
 go_wp2_with fail
 obtain ⟨g, hg⟩ : ∃ g, w.heap.size = g := ⟨_, rfl⟩
 have HG : Hid (w.heap.size = g) := hg
 rw [hg]
 clear hg
 go_loopg [7, 9] (2 * n + 1) (fun gk v t wr => ∃ out tt f, gk = 2 * (n - out.length) + f ∧ t = .int .i64 tt ∧ LeastAt per ps keys w wr v g out tt f)
 case atStart => exact ⟨[], 0, 1, by simp, rfl, by have := HS0.out; rwa [HG.out] at this⟩
 case round =>
  obtain ⟨out, tt, f, rfl, rfl, hat⟩ := hrel
  obtain ⟨W0, hW0⟩ : ∃ W, W = wr := ⟨_, rfl⟩
  subst hW0
  have HA0 : Hid (LeastAt per ps keys w W0 u7 g out tt f) := hat
  have hol := hat.seeks.len
  have htl := hat.seeks.low
  have hth := hat.seeks.high
  rw [HN.out] at hol
  obtain ⟨a7, k7, hv7, h71, h72, -, -, -⟩ := hat.own.open
  have H7 : Hid (u7 = .slice a7 out.length k7) := hv7
  unfold maxLen at h72
  clear hat
  subst hv7
  by_cases hlt : out.length < n
  ·
   go_wp2_with fail
   go_loopw [10, 11, 12] (fun b fi i wr2 => ∃ k : Nat, k ≤ n ∧ i = .int .i64 k ∧ b = .int .i64 (optInt (scan ps keys out tt k)) ∧ fi = .int .i64 (optInt (firstTo out k)) ∧ ∃ q, wr2 = W0.drewN q) (fun _ _ i _ => n - (intOf i).toNat)
   case atStart => exact ⟨0, Nat.zero_le _, rfl, rfl, rfl, 0, rfl⟩
   case round =>
    obtain ⟨k, hk, rfl, rfl, rfl, q, rfl⟩ := hrel
    by_cases hkn : k < n
    ·
     have d1 := HA0.out.done.cell k (by rw [HN.out]; exact hkn)
     obtain ⟨p, hp, -⟩ := get_some ps k (by rw [HN.out]; exact hkn)
     obtain ⟨b, off, rfl, -, hc⟩ := HP.out.1.place (by rw [HN.out]; omega)
     obtain ⟨kb, ko, rfl, -, hkc⟩ := HK.out.1.place (by rw [HK.out.2, HN.out]; omega)
     have HKc : Hid (∀ i, i < n → W0.cell? ⟨kb, ko + i, none⟩ = some (.int .i64 (keys.getD i 0))) := fun i hi => by
      obtain ⟨x, hx, -⟩ := get_some keys i (by rw [HK.out.2, HN.out]; exact hi)
      rw [List.getD_eq_getElem?_getD, hx]
      exact cell_later HA0.out.below (hkc i x hx)
     have c1 : W0.cell? ⟨b, off + k * 3 + 2, none⟩ = some (.int .i64 p.tick) := cell_later HA0.out.below (hc k p hp).2.2
     have HTk : Hid (tickOf ps k = p.tick) := tickOf_get hp
     generalize p.tick = tk at *
     clear hc hkc hp
     obtain ⟨sv, hsv⟩ : ∃ sv, optInt (scan ps keys out tt k) = sv := ⟨_, rfl⟩
     obtain ⟨fv, hfv⟩ : ∃ fv, optInt (firstTo out k) = fv := ⟨_, rfl⟩
     have HSv : Hid (optInt (scan ps keys out tt k) = sv) := hsv
     have HFv : Hid (optInt (firstTo out k) = fv) := hfv
     rw [hsv, hfv]
     clear hsv hfv
     cases hd : isDone out k with
     | true =>
      rw [hd] at d1
      have HSc : Hid (optInt (scan ps keys out tt (k + 1)) = sv) := by
       show _ = _
       rw [← HSv.out]; simp only [scan]; rw [if_pos hd]
      have HFi : Hid (optInt (firstTo out (k + 1)) = fv) := by
       show _ = _
       rw [← HFv.out]; simp only [firstTo]; rw [if_pos hd]
      clear hd c1
      go_wp2_with fail
      go_roundw
      case rel => exact ⟨k + 1, by omega, by go_num, by rw [HSc.out], by rw [HFi.out], _, rfl⟩
      case measure => simp [intOf]; omega
     | false =>
      rw [hd] at d1
      have hd' : ¬ isDone out k = true := by rw [hd]; simp
      have HS1 : Hid (scan ps keys out tt (k + 1) = if tickOf ps k ≤ tt ∧ (∀ b, scan ps keys out tt k = some b → keys.getD k 0 < keys.getD b 0) then some k else scan ps keys out tt k) := by
       show _ = _
       rw [scan, if_neg hd']
      have HF1 : Hid (firstTo out (k + 1) = match firstTo out k with | some f => some f | none => some k) := by
       show _ = _
       rw [firstTo, if_neg hd']
       rfl
      obtain ⟨fv', hfv'⟩ : ∃ fv', (if fv < 0 then (k : Int) else fv) = fv' := ⟨_, rfl⟩
      have HFi : Hid (optInt (firstTo out (k + 1)) = fv') := by
       show _ = _
       rw [HF1.out, ← hfv', ← HFv.out]
       cases firstTo out k with
       | none => simp [optInt]
       | some f0 =>
        have h0 : ¬ optInt (some f0) < 0 := by simp only [optInt]; omega
        rw [if_neg h0]
      have HKk := HKc.out k hkn
      generalize hkk : keys.getD k 0 = x1 at *
      have hways : (tt < tk ∧ optInt (scan ps keys out tt (k + 1)) = sv) ∨ (tk ≤ tt ∧ sv < 0 ∧ optInt (scan ps keys out tt (k + 1)) = k) ∨ (tk ≤ tt ∧ ∃ (b0 : Nat) (x2 : Int), b0 < n ∧ sv = b0 ∧ W0.cell? ⟨kb, ko + b0, none⟩ = some (.int .i64 x2) ∧ ((x1 < x2 ∧ optInt (scan ps keys out tt (k + 1)) = k) ∨ (¬ x1 < x2 ∧ optInt (scan ps keys out tt (k + 1)) = sv))) := by
       rw [HS1.out, HTk.out]
       rcases Int.lt_or_le tt tk with ht | ht
       ·
        refine .inl ⟨ht, ?_⟩
        rw [if_neg (fun h => by omega)]
        exact HSv.out
       ·
        cases hs : scan ps keys out tt k with
        | none =>
         refine .inr (.inl ⟨ht, ?_, ?_⟩)
         ·
          have := HSv.out
          rw [hs] at this
          rw [← this]; decide
         ·
          rw [if_pos ⟨ht, fun b hb => by cases hb⟩]
          rfl
        | some b0 =>
         have hsv : sv = b0 := by
          have := HSv.out
          rw [hs] at this
          exact this.symm
         have hbn := (scan_some _ _ hs).1
         refine .inr (.inr ⟨ht, b0, keys.getD b0 0, by omega, hsv, HKc.out b0 (by omega), ?_⟩)
         by_cases hx : x1 < keys.getD b0 0
         · exact .inl ⟨hx, by rw [if_pos ⟨ht, fun b hb => by obtain rfl := Option.some.inj hb; exact hx⟩]; rfl⟩
         · exact .inr ⟨hx, by rw [if_neg (fun h => hx (h.2 b0 rfl)), hsv]; rfl⟩
      have HW : Hid ((tt < tk ∧ optInt (scan ps keys out tt (k + 1)) = sv) ∨ (tk ≤ tt ∧ sv < 0 ∧ optInt (scan ps keys out tt (k + 1)) = k) ∨ (tk ≤ tt ∧ ∃ (b0 : Nat) (x2 : Int), b0 < n ∧ sv = b0 ∧ W0.cell? ⟨kb, ko + b0, none⟩ = some (.int .i64 x2) ∧ ((x1 < x2 ∧ optInt (scan ps keys out tt (k + 1)) = k) ∨ (¬ x1 < x2 ∧ optInt (scan ps keys out tt (k + 1)) = sv)))) := hways
      clear hways hd hd' hkk
      by_cases hff : fv < 0
      ·
       rw [if_pos hff] at hfv'
       subst hfv'
       rcases HW.out with ⟨ht, hsc⟩ | ⟨ht, hs0, hsc⟩ | ⟨ht, b0, x2, hb0, hsv, hx2, ⟨hxx, hsc⟩ | ⟨hxx, hsc⟩⟩
       ·
        have HSc : Hid (optInt (scan ps keys out tt (k + 1)) = sv) := hsc
        have t1 : decide (tk ≤ tt) = false := decide_eq_false (by omega)
        clear hsc
        go_wp2_with fail
        go_quiet (fail)
        go_wp2_with fail
        go_roundw
        case rel => exact ⟨k + 1, by omega, by go_num, by rw [HSc.out], by rw [HFi.out], _, rfl⟩
        case measure => simp [intOf]; omega
       ·
        have HSc : Hid (optInt (scan ps keys out tt (k + 1)) = k) := hsc
        have t1 : decide (tk ≤ tt) = true := decide_eq_true ht
        have t2 : decide (sv < 0) = true := decide_eq_true hs0
        clear hsc
        go_wp2_with fail
        go_quiet (fail)
        go_wp2_with fail
        go_roundw
        case rel => exact ⟨k + 1, by omega, by go_num, by rw [HSc.out], by rw [HFi.out], _, rfl⟩
        case measure => simp [intOf]; omega
       ·
        have HSc : Hid (optInt (scan ps keys out tt (k + 1)) = k) := hsc
        subst hsv
        have t1 : decide (tk ≤ tt) = true := decide_eq_true ht
        have t2 : decide ((b0 : Int) < 0) = false := decide_eq_false (by omega)
        have t3 : decide (x1 < x2) = true := decide_eq_true hxx
        clear hsc
        go_wp2_with fail
        go_quiet (fail)
        go_wp2_with fail
        go_roundw
        case rel => exact ⟨k + 1, by omega, by go_num, by rw [HSc.out], by rw [HFi.out], _, rfl⟩
        case measure => simp [intOf]; omega
       ·
        have HSc : Hid (optInt (scan ps keys out tt (k + 1)) = sv) := hsc
        subst hsv
        have t1 : decide (tk ≤ tt) = true := decide_eq_true ht
        have t2 : decide ((b0 : Int) < 0) = false := decide_eq_false (by omega)
        have t3 : decide (x1 < x2) = false := decide_eq_false hxx
        clear hsc
        go_wp2_with fail
        go_quiet (fail)
        go_wp2_with fail
        go_roundw
        case rel => exact ⟨k + 1, by omega, by go_num, by rw [HSc.out], by rw [HFi.out], _, rfl⟩
        case measure => simp [intOf]; omega
      ·
       rw [if_neg hff] at hfv'
       subst hfv'
       rcases HW.out with ⟨ht, hsc⟩ | ⟨ht, hs0, hsc⟩ | ⟨ht, b0, x2, hb0, hsv, hx2, ⟨hxx, hsc⟩ | ⟨hxx, hsc⟩⟩
       ·
        have HSc : Hid (optInt (scan ps keys out tt (k + 1)) = sv) := hsc
        have t1 : decide (tk ≤ tt) = false := decide_eq_false (by omega)
        clear hsc
        go_wp2_with fail
        go_quiet (fail)
        go_wp2_with fail
        go_roundw
        case rel => exact ⟨k + 1, by omega, by go_num, by rw [HSc.out], by rw [HFi.out], _, rfl⟩
        case measure => simp [intOf]; omega
       ·
        have HSc : Hid (optInt (scan ps keys out tt (k + 1)) = k) := hsc
        have t1 : decide (tk ≤ tt) = true := decide_eq_true ht
        have t2 : decide (sv < 0) = true := decide_eq_true hs0
        clear hsc
        go_wp2_with fail
        go_quiet (fail)
        go_wp2_with fail
        go_roundw
        case rel => exact ⟨k + 1, by omega, by go_num, by rw [HSc.out], by rw [HFi.out], _, rfl⟩
        case measure => simp [intOf]; omega
       ·
        have HSc : Hid (optInt (scan ps keys out tt (k + 1)) = k) := hsc
        subst hsv
        have t1 : decide (tk ≤ tt) = true := decide_eq_true ht
        have t2 : decide ((b0 : Int) < 0) = false := decide_eq_false (by omega)
        have t3 : decide (x1 < x2) = true := decide_eq_true hxx
        clear hsc
        go_wp2_with fail
        go_quiet (fail)
        go_wp2_with fail
        go_roundw
        case rel => exact ⟨k + 1, by omega, by go_num, by rw [HSc.out], by rw [HFi.out], _, rfl⟩
        case measure => simp [intOf]; omega
       ·
        have HSc : Hid (optInt (scan ps keys out tt (k + 1)) = sv) := hsc
        subst hsv
        have t1 : decide (tk ≤ tt) = true := decide_eq_true ht
        have t2 : decide ((b0 : Int) < 0) = false := decide_eq_false (by omega)
        have t3 : decide (x1 < x2) = false := decide_eq_false hxx
        clear hsc
        go_wp2_with fail
        go_quiet (fail)
        go_wp2_with fail
        go_roundw
        case rel => exact ⟨k + 1, by omega, by go_num, by rw [HSc.out], by rw [HFi.out], _, rfl⟩
        case measure => simp [intOf]; omega
    ·
     obtain rfl : k = n := by omega
     have HAq : Hid (LeastAt per ps keys w (W0.drewN q) (.slice a7 out.length k7) g out tt f) := HA0.out.later (below_drewN (Below.refl _ _) _)
     obtain ⟨W, hW⟩ : ∃ W, W0.drewN q = W := ⟨_, rfl⟩
     rw [hW] at HAq
     rw [hW]
     have HA : Hid (LeastAt per ps keys w W (.slice a7 out.length k7) g out tt f) := HAq
     clear hW HAq
     obtain ⟨b, off, rfl, -, hc⟩ := HP.out.1.place (by rw [HN.out]; omega)
     have HC : Hid (∀ (i : Nat) p, ps[i]? = some p → W.cell? ⟨b, off + i * 3 + 1, none⟩ = some (.int .i64 p.size) ∧ W.cell? ⟨b, off + i * 3 + 2, none⟩ = some (.int .i64 p.tick)) := fun i p hp => ⟨cell_later HA.out.below (hc i p hp).2.1, cell_later HA.out.below (hc i p hp).2.2⟩
     clear hc
     cases hs : scan ps keys out tt k with
     | none =>
      obtain ⟨hf1, k1, p, hk1, hp1, hsk⟩ := HA.out.seeks.idle HP.out.2 (by rw [HN.out]; exact hs) (by rw [HN.out]; exact hlt)
      rw [HN.out] at hk1
      have hkn1 := (first_some _ _ hk1).1
      have c1 := (HC.out k1 p hp1).2
      rw [hk1]
      have HNew : Hid (LeastAt per ps keys w W (.slice a7 out.length k7) g out p.tick 0) := ⟨hsk, HA.out.own, HA.out.done, HA.out.apart, HA.out.new, HA.out.below⟩
      have HF1 : Hid (f = 1) := hf1
      show Code.wp _ _ _ _ _
      simp only [optInt]
      generalize p.tick = tk at *
      clear hs hk1 hp1 hsk hf1
      go_wp2_with fail
      go_roundg (2 * (k - out.length) + 0)
      case measure => have := HF1.out; omega
      case rel => exact ⟨out, tk, 0, rfl, rfl, HNew.out⟩
     | some b0 =>
      have hb0 := (scan_some _ _ hs).1
      obtain ⟨p, hp, -⟩ := get_some ps b0 (by rw [HN.out]; exact hb0)
      have c1 := (HC.out b0 p hp).1
      obtain ⟨-, -, s1, s2, -, -⟩ := okPk_true (HP.out.2.each _ _ hp).1
      have a1 : 0 ≤ per * p.size := Int.mul_nonneg (by omega) (by omega)
      have a2 : per * p.size ≤ 1000 * 1500 := Int.mul_le_mul (by omega) s2 (by omega) (by omega)
      have hsend := HA.out.seeks.send HP.out.2 h1 h2 (by rw [HN.out]; exact hs) hp (by rw [HN.out]; exact hlt)
      obtain ⟨y, hy⟩ : ∃ y, p.size = y := ⟨_, rfl⟩
      obtain ⟨m, hm⟩ : ∃ m, per * y = m := ⟨_, rfl⟩
      obtain ⟨uz, hto⟩ : ∃ uz, tt + m = uz := ⟨_, rfl⟩
      rw [hy] at c1 s1 s2 a1 a2 hsend
      rw [hm] at a1 a2 hsend
      rw [hto] at hsend
      have hw : IntKind.i64.wrap (per * y) = m := by rw [hm]; exact IntWalk.i64_in _ (by omega)
      have hw2 : IntKind.i64.wrap (tt + m) = uz := by rw [← hto]; exact IntWalk.i64_in _ (by omega)
      have HSk : Hid (Seeks per ps keys (out ++ [⟨b0, tt, uz⟩]) uz 1) := hsend
      have HTo : Hid (tt + m = uz) := hto
      have HA4 : Hid (LeastAt per ps keys w ((W.alloc (.cells #[.int .i64 b0, .int .i64 tt, .int .i64 uz] 71)).alloc (.cells #[.int .i64 b0, .int .i64 tt, .int .i64 uz] 71)) (.slice a7 out.length k7) g out tt f) := HA.out.later (((Below.refl _ _).alloc (Nat.le_refl _) _).alloc (by simp) _)
      have HNews : Hid (∀ j u, (cellsS [⟨b0, tt, uz⟩])[j]? = some u → ((W.alloc (.cells #[.int .i64 b0, .int .i64 tt, .int .i64 uz] 71)).alloc (.cells #[.int .i64 b0, .int .i64 tt, .int .i64 uz] 71)).cell? ((⟨W.heap.size + 1, 0, none⟩ : Addr).add j) = some u) := World.news_of_block (cs := #[.int .i64 b0, .int .i64 tt, .int .i64 uz]) (t := 71) (by have := heap_alloc_new (W.alloc (.cells #[.int .i64 b0, .int .i64 tt, .int .i64 uz] 71)) (.cells #[.int .i64 b0, .int .i64 tt, .int .i64 uz] 71); simpa using this)
      have HCel : Hid (((W.alloc (.cells #[.int .i64 b0, .int .i64 tt, .int .i64 uz] 71)).alloc (.cells #[.int .i64 b0, .int .i64 tt, .int .i64 uz] 71)).cell? ⟨W.heap.size, 2, none⟩ = some (.int .i64 uz)) := cell_later ((Below.refl _ _).alloc (Nat.le_refl _) _) (by simp)
      have HBs : Hid (w.heap.size ≤ ((W.alloc (.cells #[.int .i64 b0, .int .i64 tt, .int .i64 uz] 71)).alloc (.cells #[.int .i64 b0, .int .i64 tt, .int .i64 uz] 71)).heap.size ∧ W.heap.size < ((W.alloc (.cells #[.int .i64 b0, .int .i64 tt, .int .i64 uz] 71)).alloc (.cells #[.int .i64 b0, .int .i64 tt, .int .i64 uz] 71)).heap.size ∧ ((W.alloc (.cells #[.int .i64 b0, .int .i64 tt, .int .i64 uz] 71)).alloc (.cells #[.int .i64 b0, .int .i64 tt, .int .i64 uz] 71)).heap.size = W.heap.size + 2) := ⟨HA4.out.below.size, by simp; omega, by simp⟩
      have HNe : Hid (some W.heap.size ≠ (Value.slice a7 out.length k7).ownBlock) := fun e => by
       have := (ownsRow_lt HA.out.own e.symm).2
       omega
      have HGW : Hid (g < W.heap.size ∧ b0 < ps.length) := ⟨HA.out.done.lt, by rw [HN.out]; exact hb0⟩
      generalize optInt (firstTo out k) = fv
      rw [show optInt (some b0) = (b0 : Int) from rfl]
      clear hs hp s1 s2 hsend hy hm hto
      go_wp2_with (at_builtin; go_must (refine wpList_append_lies _ rfl _ _ 45 rfl w.heap.size 71 i0 (.agg #[.int .i64 0, .int .i64 0, .int .i64 0]) 3 24 Tryz.underlying45 hi hz0 hz1 hz2 rfl (by decide) (.slice a7 out.length k7) out.length (cellsS out) rfl HA4.out.own ⟨W.heap.size + 1, 0, none⟩ 1 1 (cellsS [⟨b0, tt, uz⟩]) rfl rfl HNews.out (cellsS_one _) (by decide) (by unfold maxLen; omega) (by omega) HBs.out.1 _ rfl ?_; intro g5 cap5 w5 ho5 hg5 hat5 hlt5; have c5 : w5.cell? ⟨W.heap.size, 2, none⟩ = some (.int .i64 uz) := (hg5.cell_far ⟨W.heap.size, 2, none⟩ HBs.out.2.1 HNe.out).trans HCel.out; have d5 : w5.cell? ⟨g, b0, none⟩ = some (.bool (isDone out b0)) := (hg5.cell_far ⟨g, b0, none⟩ HA4.out.done.lt (fun e => HA4.out.apart e.symm)).trans (HA4.out.done.cell b0 HGW.out.2); have f5 : w5.frozen? ⟨g, b0, none⟩ = false := (hg5.frozen_far ⟨g, b0, none⟩ HA4.out.done.lt (fun e => HA4.out.apart e.symm)).trans (HA4.out.done.frozen b0); have c6 : (w5.setCell ⟨g, b0, none⟩ (.bool true)).cell? ⟨W.heap.size, 2, none⟩ = some (.int .i64 uz) := (World.cell?_setCell_other _ _ _ _ (by intro e; have e' := congrArg Addr.block e; have := HGW.out.1; simp at e'; omega)).trans c5; have H5 : Hid (LeastAt per ps keys w (w5.setCell ⟨g, b0, none⟩ (.bool true)) (.slice (some ⟨g5, 0, none⟩) (out.length + 1) cap5) g (out ++ [⟨b0, tt, uz⟩]) uz 1) := HA4.out.grown ho5 hg5 hat5 b0 HGW.out.2 rfl uz 1 HSk.out; clear ho5 hg5 hat5 hlt5 c5))
      go_roundg (2 * (k - (out.length + 1)) + 1)
      case measure => omega
      case rel => exact ⟨out ++ [⟨b0, tt, uz⟩], uz, 1, by simp, rfl, H5.out⟩
  ·
   go_wp2_with fail
   go_ret
   exact ⟨_, out, rfl, HA0.out.own, HA0.out.seeks.sched, by have := HN.out; omega, HA0.out.below⟩
end Go.Proofs.YtnomdlclkpnjpaaGreatDoor
