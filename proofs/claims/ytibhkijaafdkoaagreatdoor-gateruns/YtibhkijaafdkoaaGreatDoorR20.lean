/- Own facts, put together: no statement of its own. -/
import Derived.Test.YtibhkijaafdkoaaGreatDoorR09
import Derived.Test.YtibhkijaafdkoaaGreatDoorR06
import Derived.Test.YtibhkijaafdkoaaGreatDoorR03
import Derived.Deep.AppendLies
import Derived.Deep.LoopGhost
import Derived.Test.YtibhkijaafdkoaaGreatDoorR07
import Derived.Deep.RegionHeldLaw
import Derived.Test.YtibhkijaafdkoaaGreatDoorR10
import Derived.Test.YtibhkijaafdkoaaGreatDoorR08
namespace Go.Proofs.YtibhkijaafdkoaaGreatDoor
open Go.RowKit
structure DoneAt (w : World) (g n : Nat) (out : List Sn) : Prop where
 cell : ∀ i, i < n → w.cell? ⟨g, i, none⟩ = some (.bool (isDone out i))
 frozen : ∀ i, w.frozen? ⟨g, i, none⟩ = false
 lt : g < w.heap.size
theorem done_made (w : World) (n : Nat) (t : TypeId) : DoneAt (w.alloc (.cells (madeCells #[.bool false] n) t)) w.heap.size n [] := by
 refine ⟨fun i hi => ?_, fun i => World.frozen?_alloc_new w _ _ i, by simp⟩
 rw [World.cell?_alloc_at _ _ _ _ rfl]
 exact made_get _ _ _ hi
theorem DoneAt.of_block {w w' : World} {g n : Nat} {out : List Sn} (h : DoneAt w g n out) (hb : w'.heap[g]? = w.heap[g]?) (hs : w.heap.size ≤ w'.heap.size) : DoneAt w' g n out :=
 ⟨fun i hi => (World.cell?_of_block (a := ⟨g, i, none⟩) hb).trans (h.cell i hi), fun i => (World.frozen?_of_block (a := ⟨g, i, none⟩) hb).trans (h.frozen i), Nat.lt_of_lt_of_le h.lt hs⟩
theorem DoneAt.put {w : World} {g n : Nat} {out : List Sn} (h : DoneAt w g n out) (b : Nat) (hb : b < n) (f t : Int) : DoneAt (w.setCell ⟨g, b, none⟩ (.bool true)) g n (out ++ [⟨b, f, t⟩]) := by
 refine ⟨fun i hi => ?_, fun i => by rw [World.frozen?_setCell]; exact h.frozen i, by simp [World.setCell]; exact h.lt⟩
 rw [isDone_snoc]
 by_cases e : b = i
 ·
  subst e
  rw [World.cell?_setCell_same' _ _ _ (by rw [h.cell b hb]; rfl)]
  simp
 ·
  rw [World.cell?_setCell_other _ _ _ _ (by intro e'; cases e'; exact e rfl), h.cell i hi]
  simp [e]
structure LeastAt (per : Int) (ps : List Pk) (keys : List Int) (w wr : World) (v : Value) (g : Nat) (out : List Sn) (t : Int) (f : Nat) : Prop where
 seeks : Seeks per ps keys out t f
 own : OwnS wr w.heap.size v out
 done : DoneAt wr g ps.length out
 apart : v.ownBlock ≠ some g
 new : w.heap.size ≤ g
 below : Below w.heap.size w wr
section
variable {per : Int} {ps : List Pk} {keys : List Int} {w wr wr' : World} {v : Value} {g : Nat} {out : List Sn} {t : Int} {f : Nat}
theorem LeastAt.later (h : LeastAt per ps keys w wr v g out t f) (hb : Below wr.heap.size wr wr') : LeastAt per ps keys w wr' v g out t f :=
 ⟨h.seeks, ownsRow_of_block h.own (fun g _ hg => hb.block g hg), h.done.of_block (hb.block g h.done.lt) hb.size, h.apart, h.new, h.below.trans (hb.mono h.below.size)⟩
theorem LeastAt.grown (h : LeastAt per ps keys w wr v g out t f) {x : Sn} {g' cap : Nat} {w2 : World} (h1 : w2.ownsRow w.heap.size 78 3 (.slice (some ⟨g', 0, none⟩) (out.length + 1) cap) (out.length + 1) (cellsS out ++ cellsS [x])) (h2 : wr.grownBy w2 v.ownBlock) (h3 : v.ownBlock = some g' ∨ g' = wr.heap.size)
  (b : Nat) (hb : b < ps.length) (hx : x = ⟨b, x.beg, x.fin⟩) (t' : Int) (f' : Nat) (hs : Seeks per ps keys (out ++ [x]) t' f') : LeastAt per ps keys w (w2.setCell ⟨g, b, none⟩ (.bool true)) (.slice (some ⟨g', 0, none⟩) (out.length + 1) cap) g (out ++ [x]) t' f' := by
 have hne : g' ≠ g := by
  rcases h3 with h3 | h3
  · intro e; subst e; exact h.apart h3
  · have := h.done.lt; omega
 have hd : DoneAt w2 g ps.length out := h.done.of_block (h2.block g h.done.lt (fun e => h.apart e.symm)) h2.size
 have hb1 : But (fun k => v.ownBlock = some k) wr w2 := ⟨h2.os, h2.tape, h2.output, h2.size, fun k hk hn => h2.block k hk (fun e => hn e.symm)⟩
 have hb2 : But (fun k => k = g) w2 (w2.setCell ⟨g, b, none⟩ (.bool true)) := But.setCell (S := fun k => k = g) (But.refl _ w2) (p := ⟨g, b, none⟩) rfl _
 refine ⟨hs, ?_, by rw [hx]; exact hd.put b hb _ _, fun e => hne (Option.some.inj e), h.new, ?_⟩
 ·
  unfold OwnS
  rw [List.length_append, cellsS_append]
  exact ownsRow_of_block h1 (fun k hk hlt => hb2.block k hlt (fun e => hne ((Option.some.inj hk).trans e)))
 · exact h.below.trans ((hb1.below h.below.size fun k hk => (ownsRow_lt h.own hk).1).trans (hb2.below (Nat.le_trans h.below.size h2.size) fun k hk => by rw [hk]; exact h.new))
end
end Go.Proofs.YtibhkijaafdkoaaGreatDoor

namespace Go.Proofs.YtibhkijaafdkoaaGreatDoor
open Go.RowKit
theorem Tryz.infoBool : (Tryz.prog.info? 4).map (fun i => (i.zero, i.size, i.bytes)) = some (some (.bool false), 1, 1) := by kernel_rfl
def LeastEnd (per : Int) (ps : List Pk) (keys : List Int) (w : World) (e : Ending) (w' : World) : Prop := ∃ v l, e = .returned v ∧ OwnS w' w.heap.size v l ∧ Sched per ps keys l ∧ l.length = ps.length ∧ Below w.heap.size w w'
set_option maxRecDepth 100000 in
set_option maxHeartbeats 8000000 in
theorem leastOf_any (a : Option Addr) (cap : Nat) (ps : List Pk) (per : Int) (ka : Option Addr) (kcap : Nat) (keys : List Int) (w : World) (hl : LiesP w a ps) (hk : LiesN w ka keys) (hkl : keys.length = ps.length) (ho : OkPks ps) (h1 : 1 ≤ per) (h2 : per ≤ 1000) :
  Calls Tryz.prog 142 #[.slice a ps.length cap, .int .i64 per, .slice ka ps.length kcap] w fun e w' => LeastEnd per ps keys w e w' := by
 have HP : Hid (LiesP w a ps ∧ OkPks ps) := ⟨hl, ho⟩
 have HK : Hid (LiesN w ka keys ∧ keys.length = ps.length) := ⟨hk, hkl⟩
 have hfew := ho.few
 clear hl hk hkl ho
 obtain ⟨n, hn⟩ : ∃ n, ps.length = n := ⟨_, rfl⟩
 have HN : Hid (ps.length = n) := hn
 rw [hn] at hfew ⊢
 have hmk : ∀ w' : World, (Instr.makeSlice 104 (.int .i64 n) (.int .i64 n)).run Tryz.prog w' = .ok (.slice (some ⟨w'.heap.size, 0, none⟩) n n) (w'.alloc (.cells (madeCells #[.bool false] n) 4)) := fun w' => by
  obtain ⟨i0, hi, hz0, hz1, hz2⟩ := info_parts Tryz.infoBool
  have := run_make (P := Tryz.prog) w' 104 4 i0 (.bool false) Tryz.underlying104 hi hz0 .i64 .i64 n n (by omega) (by omega) (by rw [hz2]; omega) (by omega)
  simpa [hz1, Value.cells] using this
 have HS0 : Hid (LeastAt per ps keys w (w.alloc (.cells (madeCells #[.bool false] n) 4)) (.slice none 0 0) w.heap.size [] 0 1) :=
  ⟨seeks_start _ _ _, World.ownsRow_nil _ _ _ _, by rw [hn]; exact done_made w n _, (fun h => by cases h), Nat.le_refl _, (Below.refl _ _).alloc (Nat.le_refl _) _⟩
 obtain ⟨i0, hi, hz0, hz1, hz2⟩ := info_parts Tryz.infoSent
 clear hn
 go_enter Tryz.func142, Tryz.ntmps142
 go_wp2_with fail
 obtain ⟨g, hg⟩ : ∃ g, w.heap.size = g := ⟨_, rfl⟩
 have HG : Hid (w.heap.size = g) := hg
 rw [hg]
 clear hg
 go_loopg [7, 9] (2 * n + 1) (fun gk v t wr => ∃ out tt f, gk = 2 * (n - out.length) + f ∧ t = .int .i64 tt ∧ LeastAt per ps keys w wr v g out tt f)
 case atStart => exact ⟨[], 0, 1, by simp, rfl, by have := HS0.out; rwa [HG.out] at this⟩
 case round =>
  obtain ⟨out, tt, f, rfl, rfl, hat⟩ := hrel
  obtain ⟨W0, hW0⟩ : ∃ W, W = wr := ⟨_, rfl⟩
  subst hW0
  have HA0 : Hid (LeastAt per ps keys w W0 u7 g out tt f) := hat
  have hol := hat.seeks.len
  have htl := hat.seeks.low
  have hth := hat.seeks.high
  rw [HN.out] at hol
  obtain ⟨a7, k7, hv7, h71, h72, -, -, -⟩ := hat.own.open
  have H7 : Hid (u7 = .slice a7 out.length k7) := hv7
  unfold maxLen at h72
  clear hat
  subst hv7
  by_cases hlt : out.length < n
  ·
   go_wp2_with fail
   go_loopw [10, 11, 12] (fun b fi i wr2 => ∃ k : Nat, k ≤ n ∧ i = .int .i64 k ∧ b = .int .i64 (optInt (scan ps keys out tt k)) ∧ fi = .int .i64 (optInt (firstTo out k)) ∧ ∃ q, wr2 = W0.drewN q) (fun _ _ i _ => n - (intOf i).toNat)
   case atStart => exact ⟨0, Nat.zero_le _, rfl, rfl, rfl, 0, rfl⟩
   case round =>
    obtain ⟨k, hk, rfl, rfl, rfl, q, rfl⟩ := hrel
    by_cases hkn : k < n
    ·
     have d1 := HA0.out.done.cell k (by rw [HN.out]; exact hkn)
     obtain ⟨p, hp, -⟩ := get_some ps k (by rw [HN.out]; exact hkn)
     obtain ⟨b, off, rfl, -, hc⟩ := HP.out.1.place (by rw [HN.out]; omega)
     obtain ⟨kb, ko, rfl, -, hkc⟩ := HK.out.1.place (by rw [HK.out.2, HN.out]; omega)
     have HKc : Hid (∀ i, i < n → W0.cell? ⟨kb, ko + i, none⟩ = some (.int .i64 (keys.getD i 0))) := fun i hi => by
      obtain ⟨x, hx, -⟩ := get_some keys i (by rw [HK.out.2, HN.out]; exact hi)
      rw [List.getD_eq_getElem?_getD, hx]
      exact cell_later HA0.out.below (hkc i x hx)
     have c1 : W0.cell? ⟨b, off + k * 3 + 2, none⟩ = some (.int .i64 p.tick) := cell_later HA0.out.below (hc k p hp).2.2
     have HTk : Hid (tickOf ps k = p.tick) := tickOf_get hp
     generalize p.tick = tk at *
     clear hc hkc hp
     obtain ⟨sv, hsv⟩ : ∃ sv, optInt (scan ps keys out tt k) = sv := ⟨_, rfl⟩
     obtain ⟨fv, hfv⟩ : ∃ fv, optInt (firstTo out k) = fv := ⟨_, rfl⟩
     have HSv : Hid (optInt (scan ps keys out tt k) = sv) := hsv
     have HFv : Hid (optInt (firstTo out k) = fv) := hfv
     rw [hsv, hfv]
     clear hsv hfv
     cases hd : isDone out k with
     | true =>
      rw [hd] at d1
      have HSc : Hid (optInt (scan ps keys out tt (k + 1)) = sv) := by
       show _ = _
       rw [← HSv.out]; simp only [scan]; rw [if_pos hd]
      have HFi : Hid (optInt (firstTo out (k + 1)) = fv) := by
       show _ = _
       rw [← HFv.out]; simp only [firstTo]; rw [if_pos hd]
      clear hd c1
      go_wp2_with fail
      go_roundw
      case rel => exact ⟨k + 1, by omega, by go_num, by rw [HSc.out], by rw [HFi.out], _, rfl⟩
      case measure => simp [intOf]; omega
     | false =>
      rw [hd] at d1
      have hd' : ¬ isDone out k = true := by rw [hd]; simp
      have HS1 : Hid (scan ps keys out tt (k + 1) = if tickOf ps k ≤ tt ∧ (∀ b, scan ps keys out tt k = some b → keys.getD k 0 < keys.getD b 0) then some k else scan ps keys out tt k) := by
       show _ = _
       rw [scan, if_neg hd']
      have HF1 : Hid (firstTo out (k + 1) = match firstTo out k with | some f => some f | none => some k) := by
       show _ = _
       rw [firstTo, if_neg hd']
       rfl
      obtain ⟨fv', hfv'⟩ : ∃ fv', (if fv < 0 then (k : Int) else fv) = fv' := ⟨_, rfl⟩
      have HFi : Hid (optInt (firstTo out (k + 1)) = fv') := by
       show _ = _
       rw [HF1.out, ← hfv', ← HFv.out]
       cases firstTo out k with
       | none => simp [optInt]
       | some f0 =>
        have h0 : ¬ optInt (some f0) < 0 := by simp only [optInt]; omega
        rw [if_neg h0]
      have HKk := HKc.out k hkn
      generalize hkk : keys.getD k 0 = x1 at *
      have hways : (tt < tk ∧ optInt (scan ps keys out tt (k + 1)) = sv) ∨ (tk ≤ tt ∧ sv < 0 ∧ optInt (scan ps keys out tt (k + 1)) = k) ∨ (tk ≤ tt ∧ ∃ (b0 : Nat) (x2 : Int), b0 < n ∧ sv = b0 ∧ W0.cell? ⟨kb, ko + b0, none⟩ = some (.int .i64 x2) ∧ ((x1 < x2 ∧ optInt (scan ps keys out tt (k + 1)) = k) ∨ (¬ x1 < x2 ∧ optInt (scan ps keys out tt (k + 1)) = sv))) := by
       rw [HS1.out, HTk.out]
       rcases Int.lt_or_le tt tk with ht | ht
       ·
        refine .inl ⟨ht, ?_⟩
        rw [if_neg (fun h => by omega)]
        exact HSv.out
       ·
        cases hs : scan ps keys out tt k with
        | none =>
         refine .inr (.inl ⟨ht, ?_, ?_⟩)
         ·
          have := HSv.out
          rw [hs] at this
          rw [← this]; decide
         ·
          rw [if_pos ⟨ht, fun b hb => by cases hb⟩]
          rfl
        | some b0 =>
         have hsv : sv = b0 := by
          have := HSv.out
          rw [hs] at this
          exact this.symm
         have hbn := (scan_some _ _ hs).1
         refine .inr (.inr ⟨ht, b0, keys.getD b0 0, by omega, hsv, HKc.out b0 (by omega), ?_⟩)
         by_cases hx : x1 < keys.getD b0 0
         · exact .inl ⟨hx, by rw [if_pos ⟨ht, fun b hb => by obtain rfl := Option.some.inj hb; exact hx⟩]; rfl⟩
         · exact .inr ⟨hx, by rw [if_neg (fun h => hx (h.2 b0 rfl)), hsv]; rfl⟩
      have HW : Hid ((tt < tk ∧ optInt (scan ps keys out tt (k + 1)) = sv) ∨ (tk ≤ tt ∧ sv < 0 ∧ optInt (scan ps keys out tt (k + 1)) = k) ∨ (tk ≤ tt ∧ ∃ (b0 : Nat) (x2 : Int), b0 < n ∧ sv = b0 ∧ W0.cell? ⟨kb, ko + b0, none⟩ = some (.int .i64 x2) ∧ ((x1 < x2 ∧ optInt (scan ps keys out tt (k + 1)) = k) ∨ (¬ x1 < x2 ∧ optInt (scan ps keys out tt (k + 1)) = sv)))) := hways
      clear hways hd hd' hkk
      by_cases hff : fv < 0
      ·
       rw [if_pos hff] at hfv'
       subst hfv'
       rcases HW.out with ⟨ht, hsc⟩ | ⟨ht, hs0, hsc⟩ | ⟨ht, b0, x2, hb0, hsv, hx2, ⟨hxx, hsc⟩ | ⟨hxx, hsc⟩⟩
       ·
        have HSc : Hid (optInt (scan ps keys out tt (k + 1)) = sv) := hsc
        have t1 : decide (tk ≤ tt) = false := decide_eq_false (by omega)
        clear hsc
        go_wp2_with fail
        go_quiet (fail)
        go_wp2_with fail
        go_roundw
        case rel => exact ⟨k + 1, by omega, by go_num, by rw [HSc.out], by rw [HFi.out], _, rfl⟩
        case measure => simp [intOf]; omega
       ·
        have HSc : Hid (optInt (scan ps keys out tt (k + 1)) = k) := hsc
        have t1 : decide (tk ≤ tt) = true := decide_eq_true ht
        have t2 : decide (sv < 0) = true := decide_eq_true hs0
        clear hsc
        go_wp2_with fail
        go_quiet (fail)
        go_wp2_with fail
        go_roundw
        case rel => exact ⟨k + 1, by omega, by go_num, by rw [HSc.out], by rw [HFi.out], _, rfl⟩
        case measure => simp [intOf]; omega
       ·
        have HSc : Hid (optInt (scan ps keys out tt (k + 1)) = k) := hsc
        subst hsv
        have t1 : decide (tk ≤ tt) = true := decide_eq_true ht
        have t2 : decide ((b0 : Int) < 0) = false := decide_eq_false (by omega)
        have t3 : decide (x1 < x2) = true := decide_eq_true hxx
        clear hsc
        go_wp2_with fail
        go_quiet (fail)
        go_wp2_with fail
        go_roundw
        case rel => exact ⟨k + 1, by omega, by go_num, by rw [HSc.out], by rw [HFi.out], _, rfl⟩
        case measure => simp [intOf]; omega
       ·
        have HSc : Hid (optInt (scan ps keys out tt (k + 1)) = sv) := hsc
        subst hsv
        have t1 : decide (tk ≤ tt) = true := decide_eq_true ht
        have t2 : decide ((b0 : Int) < 0) = false := decide_eq_false (by omega)
        have t3 : decide (x1 < x2) = false := decide_eq_false hxx
        clear hsc
        go_wp2_with fail
        go_quiet (fail)
        go_wp2_with fail
        go_roundw
        case rel => exact ⟨k + 1, by omega, by go_num, by rw [HSc.out], by rw [HFi.out], _, rfl⟩
        case measure => simp [intOf]; omega
      ·
       rw [if_neg hff] at hfv'
       subst hfv'
       rcases HW.out with ⟨ht, hsc⟩ | ⟨ht, hs0, hsc⟩ | ⟨ht, b0, x2, hb0, hsv, hx2, ⟨hxx, hsc⟩ | ⟨hxx, hsc⟩⟩
       ·
        have HSc : Hid (optInt (scan ps keys out tt (k + 1)) = sv) := hsc
        have t1 : decide (tk ≤ tt) = false := decide_eq_false (by omega)
        clear hsc
        go_wp2_with fail
        go_quiet (fail)
        go_wp2_with fail
        go_roundw
        case rel => exact ⟨k + 1, by omega, by go_num, by rw [HSc.out], by rw [HFi.out], _, rfl⟩
        case measure => simp [intOf]; omega
       ·
        have HSc : Hid (optInt (scan ps keys out tt (k + 1)) = k) := hsc
        have t1 : decide (tk ≤ tt) = true := decide_eq_true ht
        have t2 : decide (sv < 0) = true := decide_eq_true hs0
        clear hsc
        go_wp2_with fail
        go_quiet (fail)
        go_wp2_with fail
        go_roundw
        case rel => exact ⟨k + 1, by omega, by go_num, by rw [HSc.out], by rw [HFi.out], _, rfl⟩
        case measure => simp [intOf]; omega
       ·
        have HSc : Hid (optInt (scan ps keys out tt (k + 1)) = k) := hsc
        subst hsv
        have t1 : decide (tk ≤ tt) = true := decide_eq_true ht
        have t2 : decide ((b0 : Int) < 0) = false := decide_eq_false (by omega)
        have t3 : decide (x1 < x2) = true := decide_eq_true hxx
        clear hsc
        go_wp2_with fail
        go_quiet (fail)
        go_wp2_with fail
        go_roundw
        case rel => exact ⟨k + 1, by omega, by go_num, by rw [HSc.out], by rw [HFi.out], _, rfl⟩
        case measure => simp [intOf]; omega
       ·
        have HSc : Hid (optInt (scan ps keys out tt (k + 1)) = sv) := hsc
        subst hsv
        have t1 : decide (tk ≤ tt) = true := decide_eq_true ht
        have t2 : decide ((b0 : Int) < 0) = false := decide_eq_false (by omega)
        have t3 : decide (x1 < x2) = false := decide_eq_false hxx
        clear hsc
        go_wp2_with fail
        go_quiet (fail)
        go_wp2_with fail
        go_roundw
        case rel => exact ⟨k + 1, by omega, by go_num, by rw [HSc.out], by rw [HFi.out], _, rfl⟩
        case measure => simp [intOf]; omega
    ·
     obtain rfl : k = n := by omega
     have HAq : Hid (LeastAt per ps keys w (W0.drewN q) (.slice a7 out.length k7) g out tt f) := HA0.out.later (below_drewN (Below.refl _ _) _)
     obtain ⟨W, hW⟩ : ∃ W, W0.drewN q = W := ⟨_, rfl⟩
     rw [hW] at HAq
     rw [hW]
     have HA : Hid (LeastAt per ps keys w W (.slice a7 out.length k7) g out tt f) := HAq
     clear hW HAq
     obtain ⟨b, off, rfl, -, hc⟩ := HP.out.1.place (by rw [HN.out]; omega)
     have HC : Hid (∀ (i : Nat) p, ps[i]? = some p → W.cell? ⟨b, off + i * 3 + 1, none⟩ = some (.int .i64 p.size) ∧ W.cell? ⟨b, off + i * 3 + 2, none⟩ = some (.int .i64 p.tick)) := fun i p hp => ⟨cell_later HA.out.below (hc i p hp).2.1, cell_later HA.out.below (hc i p hp).2.2⟩
     clear hc
     cases hs : scan ps keys out tt k with
     | none =>
      obtain ⟨hf1, k1, p, hk1, hp1, hsk⟩ := HA.out.seeks.idle HP.out.2 (by rw [HN.out]; exact hs) (by rw [HN.out]; exact hlt)
      rw [HN.out] at hk1
      have hkn1 := (first_some _ _ hk1).1
      have c1 := (HC.out k1 p hp1).2
      rw [hk1]
      have HNew : Hid (LeastAt per ps keys w W (.slice a7 out.length k7) g out p.tick 0) := ⟨hsk, HA.out.own, HA.out.done, HA.out.apart, HA.out.new, HA.out.below⟩
      have HF1 : Hid (f = 1) := hf1
      show Code.wp _ _ _ _ _
      simp only [optInt]
      generalize p.tick = tk at *
      clear hs hk1 hp1 hsk hf1
      go_wp2_with fail
      go_roundg (2 * (k - out.length) + 0)
      case measure => have := HF1.out; omega
      case rel => exact ⟨out, tk, 0, rfl, rfl, HNew.out⟩
     | some b0 =>
      have hb0 := (scan_some _ _ hs).1
      obtain ⟨p, hp, -⟩ := get_some ps b0 (by rw [HN.out]; exact hb0)
      have c1 := (HC.out b0 p hp).1
      obtain ⟨-, -, s1, s2, -, -⟩ := okPk_true (HP.out.2.each _ _ hp).1
      have a1 : 0 ≤ per * p.size := Int.mul_nonneg (by omega) (by omega)
      have a2 : per * p.size ≤ 1000 * 1500 := Int.mul_le_mul (by omega) s2 (by omega) (by omega)
      have hsend := HA.out.seeks.send HP.out.2 h1 h2 (by rw [HN.out]; exact hs) hp (by rw [HN.out]; exact hlt)
      obtain ⟨y, hy⟩ : ∃ y, p.size = y := ⟨_, rfl⟩
      obtain ⟨m, hm⟩ : ∃ m, per * y = m := ⟨_, rfl⟩
      obtain ⟨uz, hto⟩ : ∃ uz, tt + m = uz := ⟨_, rfl⟩
      rw [hy] at c1 s1 s2 a1 a2 hsend
      rw [hm] at a1 a2 hsend
      rw [hto] at hsend
      have hw : IntKind.i64.wrap (per * y) = m := by rw [hm]; exact IntWalk.i64_in _ (by omega)
      have hw2 : IntKind.i64.wrap (tt + m) = uz := by rw [← hto]; exact IntWalk.i64_in _ (by omega)
      have HSk : Hid (Seeks per ps keys (out ++ [⟨b0, tt, uz⟩]) uz 1) := hsend
      have HTo : Hid (tt + m = uz) := hto
      have HA4 : Hid (LeastAt per ps keys w ((W.alloc (.cells #[.int .i64 b0, .int .i64 tt, .int .i64 uz] 78)).alloc (.cells #[.int .i64 b0, .int .i64 tt, .int .i64 uz] 78)) (.slice a7 out.length k7) g out tt f) := HA.out.later (((Below.refl _ _).alloc (Nat.le_refl _) _).alloc (by simp) _)
      have HNews : Hid (∀ j u, (cellsS [⟨b0, tt, uz⟩])[j]? = some u → ((W.alloc (.cells #[.int .i64 b0, .int .i64 tt, .int .i64 uz] 78)).alloc (.cells #[.int .i64 b0, .int .i64 tt, .int .i64 uz] 78)).cell? ((⟨W.heap.size + 1, 0, none⟩ : Addr).add j) = some u) := World.news_of_block (cs := #[.int .i64 b0, .int .i64 tt, .int .i64 uz]) (t := 78) (by have := heap_alloc_new (W.alloc (.cells #[.int .i64 b0, .int .i64 tt, .int .i64 uz] 78)) (.cells #[.int .i64 b0, .int .i64 tt, .int .i64 uz] 78); simpa using this)
      have HCel : Hid (((W.alloc (.cells #[.int .i64 b0, .int .i64 tt, .int .i64 uz] 78)).alloc (.cells #[.int .i64 b0, .int .i64 tt, .int .i64 uz] 78)).cell? ⟨W.heap.size, 2, none⟩ = some (.int .i64 uz)) := cell_later ((Below.refl _ _).alloc (Nat.le_refl _) _) (by simp)
      have HBs : Hid (w.heap.size ≤ ((W.alloc (.cells #[.int .i64 b0, .int .i64 tt, .int .i64 uz] 78)).alloc (.cells #[.int .i64 b0, .int .i64 tt, .int .i64 uz] 78)).heap.size ∧ W.heap.size < ((W.alloc (.cells #[.int .i64 b0, .int .i64 tt, .int .i64 uz] 78)).alloc (.cells #[.int .i64 b0, .int .i64 tt, .int .i64 uz] 78)).heap.size ∧ ((W.alloc (.cells #[.int .i64 b0, .int .i64 tt, .int .i64 uz] 78)).alloc (.cells #[.int .i64 b0, .int .i64 tt, .int .i64 uz] 78)).heap.size = W.heap.size + 2) := ⟨HA4.out.below.size, by simp; omega, by simp⟩
      have HNe : Hid (some W.heap.size ≠ (Value.slice a7 out.length k7).ownBlock) := fun e => by
       have := (ownsRow_lt HA.out.own e.symm).2
       omega
      have HGW : Hid (g < W.heap.size ∧ b0 < ps.length) := ⟨HA.out.done.lt, by rw [HN.out]; exact hb0⟩
      generalize optInt (firstTo out k) = fv
      rw [show optInt (some b0) = (b0 : Int) from rfl]
      clear hs hp s1 s2 hsend hy hm hto
      go_wp2_with (at_builtin; go_must (refine wpList_append_lies _ rfl _ _ 45 rfl w.heap.size 78 i0 (.agg #[.int .i64 0, .int .i64 0, .int .i64 0]) 3 24 Tryz.underlying45 hi hz0 hz1 hz2 rfl (by decide) (.slice a7 out.length k7) out.length (cellsS out) rfl HA4.out.own ⟨W.heap.size + 1, 0, none⟩ 1 1 (cellsS [⟨b0, tt, uz⟩]) rfl rfl HNews.out (cellsS_one _) (by decide) (by unfold maxLen; omega) (by omega) HBs.out.1 _ rfl ?_; intro g5 cap5 w5 ho5 hg5 hat5 hlt5; have c5 : w5.cell? ⟨W.heap.size, 2, none⟩ = some (.int .i64 uz) := (hg5.cell_far ⟨W.heap.size, 2, none⟩ HBs.out.2.1 HNe.out).trans HCel.out; have d5 : w5.cell? ⟨g, b0, none⟩ = some (.bool (isDone out b0)) := (hg5.cell_far ⟨g, b0, none⟩ HA4.out.done.lt (fun e => HA4.out.apart e.symm)).trans (HA4.out.done.cell b0 HGW.out.2); have f5 : w5.frozen? ⟨g, b0, none⟩ = false := (hg5.frozen_far ⟨g, b0, none⟩ HA4.out.done.lt (fun e => HA4.out.apart e.symm)).trans (HA4.out.done.frozen b0); have c6 : (w5.setCell ⟨g, b0, none⟩ (.bool true)).cell? ⟨W.heap.size, 2, none⟩ = some (.int .i64 uz) := (World.cell?_setCell_other _ _ _ _ (by intro e; have e' := congrArg Addr.block e; have := HGW.out.1; simp at e'; omega)).trans c5; have H5 : Hid (LeastAt per ps keys w (w5.setCell ⟨g, b0, none⟩ (.bool true)) (.slice (some ⟨g5, 0, none⟩) (out.length + 1) cap5) g (out ++ [⟨b0, tt, uz⟩]) uz 1) := HA4.out.grown ho5 hg5 hat5 b0 HGW.out.2 rfl uz 1 HSk.out; clear ho5 hg5 hat5 hlt5 c5))
      go_roundg (2 * (k - (out.length + 1)) + 1)
      case measure => omega
      case rel => exact ⟨out ++ [⟨b0, tt, uz⟩], uz, 1, by simp, rfl, H5.out⟩
  ·
   go_wp2_with fail
   go_ret
   exact ⟨_, out, rfl, HA0.out.own, HA0.out.seeks.sched, by have := HN.out; omega, HA0.out.below⟩
end Go.Proofs.YtibhkijaafdkoaaGreatDoor

namespace Go.Proofs.YtibhkijaafdkoaaGreatDoor
open Go.RowKit
theorem liesN_of_own {w : World} {B : Nat} {v : Value} {zs : List Int} (h : w.ownsRow B 3 1 v zs.length (ints zs)) : ∃ a cap, v = .slice a zs.length cap ∧ zs.length ≤ cap ∧ cap ≤ maxLen ∧ LiesN w a zs ∧ (a = none → zs = [] ∧ cap = 0) := by
 have hh := h
 obtain ⟨h1, ⟨rfl, h0⟩ | ⟨g, cap, cur, rfl, hB, hg, hn, hm, hc, ht⟩⟩ := h
 ·
  have e : zs = [] := List.length_eq_zero_iff.1 h0
  exact ⟨none, 0, by rw [h0], by omega, by simp [maxLen], .inl e, fun _ => ⟨e, rfl⟩⟩
 ·
  refine ⟨_, cap, rfl, hn, hm, .inr ⟨g, 0, rfl, lt_of_block hg, fun i x hx => ?_⟩, fun e => by cases e⟩
  rw [Nat.zero_add, hh.cellAt i (by have := (List.getElem?_eq_some_iff.1 hx).1; omega)]
  exact ints_get hx
def KeysTo (w wr : World) (v : Value) (keys : List Int) (k : Nat) : Prop := wr.ownsRow w.heap.size 3 1 v k (ints (keys.take k)) ∧ Below w.heap.size w wr
theorem KeysTo.next {w wr w2 : World} {v v' : Value} {keys : List Int} {k : Nat} {x : Int} (h : KeysTo w wr v keys k) (hx : keys[k]? = some x) (o : Obj) (h1 : w2.ownsRow w.heap.size 3 1 v' (k + 1) (ints (keys.take k) ++ ints [x])) (h2 : (wr.alloc o).grownBy w2 v.ownBlock) : KeysTo w w2 v' keys (k + 1) := by
 refine ⟨?_, (h.2.alloc h.2.size _).grown h2 (Nat.le_trans h.2.size (by simp)) (fun j hj => (ownsRow_lt h.1 hj).1)⟩
 rw [List.take_add_one, hx, ints_append]
 exact h1
set_option maxRecDepth 100000 in
set_option maxHeartbeats 4000000 in
theorem rankOf_any (a : Option Addr) (cap : Nat) (ps : List Pk) (per : Int) (na : Option Addr) (ncap : Nat) (ns : List Int) (w : World) (hl : LiesP w a ps) (hn : LiesN w na ns) (ho : OkPks ps) (h8 : ns.length = 8) (h1 : 1 ≤ per) (h2 : per ≤ 1000) :
  Calls Tryz.prog 106 #[.slice a ps.length cap, .int .i64 per, .slice na ns.length ncap] w fun e w' => LeastEnd per ps (rankKeys ps ns) w e w' := by
 obtain ⟨i0, hi, hz0, hz1, hz2⟩ := info_parts Tryz.infoInt
 have HP : Hid (LiesP w a ps ∧ OkPks ps) := ⟨hl, ho⟩
 have HN : Hid (LiesN w na ns ∧ ns.length = 8) := ⟨hn, h8⟩
 have hfew := ho.few
 have HLeast : Hid (∀ W v, KeysTo w W v (rankKeys ps ns) ps.length → Calls Tryz.prog 142 #[.slice a ps.length cap, .int .i64 per, v] W fun e w' => LeastEnd per ps (rankKeys ps ns) w e w') := fun W v hK => by
  have ek : (rankKeys ps ns).take ps.length = rankKeys ps ns := List.take_of_length_le (by rw [rankKeys_length]; exact Nat.le_refl _)
  have hown := hK.1
  rw [ek, ← rankKeys_length ps ns] at hown
  obtain ⟨ka, kcap, rfl, -, -, hlk, -⟩ := liesN_of_own hown
  rw [rankKeys_length]
  refine (leastOf_any a cap ps per ka kcap (rankKeys ps ns) W (hl.below hK.2) hlk (rankKeys_length _ _) ho h1 h2).mono ?_
  rintro e w' ⟨v, l, rfl, g1, g2, g3, g4⟩
  exact ⟨v, l, rfl, ownsRow_mono g1 hK.2.size, g2, g3, hK.2.trans (g4.mono hK.2.size)⟩
 clear hl hn ho
 obtain ⟨n, hnn⟩ : ∃ n, ps.length = n := ⟨_, rfl⟩
 have HNN : Hid (ps.length = n) := hnn
 rw [hnn] at hfew HLeast ⊢
 rw [h8]
 clear hnn h8
 go_enter Tryz.func106, Tryz.ntmps106
 go_wp2_with fail
 go_loopg [7, 8] n (fun gk v i wr => ∃ k : Nat, gk + k = n ∧ i = .int .i64 k ∧ KeysTo w wr v (rankKeys ps ns) k)
 case atStart => exact ⟨0, by omega, rfl, World.ownsRow_nil _ _ _ _, Below.refl _ _⟩
 case round =>
  obtain ⟨k, hgk, rfl, hK⟩ := hrel
  have HK : Hid (KeysTo w wr u7 (rankKeys ps ns) k) := hK
  clear hK
  by_cases hkn : k < n
  ·
   obtain ⟨p, hpk, -⟩ := get_some ps k (by rw [HNN.out]; exact hkn)
   obtain ⟨fl, hfl, hf, hfo⟩ := flow_at HP.out.2 hpk
   obtain ⟨du, hdu, hdud⟩ := nums_at HN.out.2 hfl
   obtain ⟨b2, o2, rfl, -, hc2⟩ := HP.out.1.place (by rw [HNN.out]; omega)
   obtain ⟨b3, o3, rfl, -, hc3⟩ := HN.out.1.place (by have := HN.out.2; omega)
   have e1 : wr.cell? ⟨b2, o2 + k * 3, none⟩ = some (.int .i64 fl) := by rw [← hf]; exact cell_later HK.out.2 (hc2 k _ hpk).1
   have d2 : wr.cell? ⟨b3, o3 + fl, none⟩ = some (.int .i64 du) := cell_later HK.out.2 (hc3 fl du hdu)
   have HX : Hid ((rankKeys ps ns)[k]? = some du) := by
    show _ = _
    rw [List.getElem?_eq_getElem (by rw [rankKeys_length, HNN.out]; exact hkn), ← getD_lt (d := 0), rankKeys_get (by rw [HNN.out]; exact hkn), ofFlow, hfo, hdud]
   have HOw : Hid ((wr.alloc (.cells #[.int .i64 du] 3)).ownsRow w.heap.size 3 1 u7 k (ints ((rankKeys ps ns).take k))) := ownsRow_of_block HK.out.1 (fun g' _ hg' => ((Below.refl _ _).alloc (Nat.le_refl _) _ : Below wr.heap.size wr _).block g' hg')
   have HNew : Hid (∀ j u, (ints [du])[j]? = some u → (wr.alloc (.cells #[.int .i64 du] 3)).cell? (Addr.add ⟨wr.heap.size, 0, none⟩ j) = some u) := by
    intro j u hu
    cases j with
    | zero => simp [ints] at hu; subst hu; simp [Addr.add]
    | succ j => simp [ints] at hu
   have HBs : Hid (w.heap.size ≤ (wr.alloc (.cells #[.int .i64 du] 3)).heap.size) := Nat.le_trans HK.out.2.size (by simp)
   clear hc2 hc3 hpk hf hfo hdu hdud
   go_wp2_with (at_builtin; go_must (refine wpList_append_lies _ rfl _ _ 23 rfl w.heap.size 3 i0 (.int .i64 0) 1 8 Tryz.underlying23 hi hz0 hz1 hz2 rfl (by decide) u7 k (ints ((rankKeys ps ns).take k)) rfl HOw.out ⟨wr.heap.size, 0, none⟩ 1 1 (ints [du]) rfl rfl HNew.out (ints_one _) (by decide) (by unfold maxLen; omega) (by omega) HBs.out _ rfl ?_; intro g5 cap5 w5 ho5 hg5 hat5 hlt5; have H5 : Hid (KeysTo w w5 (.slice (some ⟨g5, 0, none⟩) (k + 1) cap5) (rankKeys ps ns) (k + 1)) := HK.out.next HX.out _ ho5 hg5; clear ho5 hg5 hat5 hlt5))
   go_roundg (gk - 1)
   case measure => omega
   case rel => exact ⟨k + 1, by omega, by go_num, H5.out⟩
  ·
   obtain rfl : k = n := by omega
   have HC : Hid (Calls Tryz.prog 142 #[.slice a k cap, .int .i64 per, u7] wr fun e w' => LeastEnd per ps (rankKeys ps ns) w e w') := HLeast.out wr u7 HK.out
   go_wp2_with fail
   refine HC.out.mono ?_
   rintro e w1 ⟨v, l, rfl, g1, g2, g3, g4⟩
   have HE : Hid (LeastEnd per ps (rankKeys ps ns) w (.returned v) w1) := ⟨v, l, rfl, g1, g2, g3, g4⟩
   clear g1 g2 g3 g4
   go_wp2_with fail
   go_ret
   exact HE.out
set_option maxRecDepth 100000 in
set_option maxHeartbeats 4000000 in
theorem duesOf_any (a : Option Addr) (cap : Nat) (ps : List Pk) (per : Int) (na : Option Addr) (ncap : Nat) (ns : List Int) (w : World) (hl : LiesP w a ps) (hn : LiesN w na ns) (ho : OkPks ps) (hk8 : NumsOk 0 1099511627776 ns) (h1 : 1 ≤ per) (h2 : per ≤ 1000) :
  Calls Tryz.prog 107 #[.slice a ps.length cap, .int .i64 per, .slice na ns.length ncap] w fun e w' => LeastEnd per ps (dueKeys ps ns) w e w' := by
 obtain ⟨i0, hi, hz0, hz1, hz2⟩ := info_parts Tryz.infoInt
 have HP : Hid (LiesP w a ps ∧ OkPks ps) := ⟨hl, ho⟩
 have h8 := hk8.len
 have HN : Hid (LiesN w na ns ∧ NumsOk 0 1099511627776 ns) := ⟨hn, hk8⟩
 have hfew := ho.few
 have HLeast : Hid (∀ W v, KeysTo w W v (dueKeys ps ns) ps.length → Calls Tryz.prog 142 #[.slice a ps.length cap, .int .i64 per, v] W fun e w' => LeastEnd per ps (dueKeys ps ns) w e w') := fun W v hK => by
  have ek : (dueKeys ps ns).take ps.length = dueKeys ps ns := List.take_of_length_le (by rw [dueKeys_length]; exact Nat.le_refl _)
  have hown := hK.1
  rw [ek, ← dueKeys_length ps ns] at hown
  obtain ⟨ka, kcap, rfl, -, -, hlk, -⟩ := liesN_of_own hown
  rw [dueKeys_length]
  refine (leastOf_any a cap ps per ka kcap (dueKeys ps ns) W (hl.below hK.2) hlk (dueKeys_length _ _) ho h1 h2).mono ?_
  rintro e w' ⟨v, l, rfl, g1, g2, g3, g4⟩
  exact ⟨v, l, rfl, ownsRow_mono g1 hK.2.size, g2, g3, hK.2.trans (g4.mono hK.2.size)⟩
 clear hl hn ho hk8
 obtain ⟨n, hnn⟩ : ∃ n, ps.length = n := ⟨_, rfl⟩
 have HNN : Hid (ps.length = n) := hnn
 rw [hnn] at hfew HLeast ⊢
 rw [h8]
 clear hnn h8
 go_enter Tryz.func107, Tryz.ntmps107
 go_wp2_with fail
 go_loopg [7, 8] n (fun gk v i wr => ∃ k : Nat, gk + k = n ∧ i = .int .i64 k ∧ KeysTo w wr v (dueKeys ps ns) k)
 case atStart => exact ⟨0, by omega, rfl, World.ownsRow_nil _ _ _ _, Below.refl _ _⟩
 case round =>
  obtain ⟨k, hgk, rfl, hK⟩ := hrel
  have HK : Hid (KeysTo w wr u7 (dueKeys ps ns) k) := hK
  clear hK
  by_cases hkn : k < n
  ·
   obtain ⟨p, hpk, -⟩ := get_some ps k (by rw [HNN.out]; exact hkn)
   obtain ⟨fl, hfl, hf, hfo⟩ := flow_at HP.out.2 hpk
   obtain ⟨du, hdu, hdud⟩ := nums_at HN.out.2.len hfl
   obtain ⟨b2, o2, rfl, -, hc2⟩ := HP.out.1.place (by rw [HNN.out]; omega)
   obtain ⟨b3, o3, rfl, -, hc3⟩ := HN.out.1.place (by have := HN.out.2.len; omega)
   have e1 : wr.cell? ⟨b2, o2 + k * 3, none⟩ = some (.int .i64 fl) := by rw [← hf]; exact cell_later HK.out.2 (hc2 k _ hpk).1
   have d2 : wr.cell? ⟨b3, o3 + fl, none⟩ = some (.int .i64 du) := cell_later HK.out.2 (hc3 fl du hdu)
   obtain ⟨tk, htk⟩ : ∃ tk, p.tick = tk := ⟨_, rfl⟩
   have e3 : wr.cell? ⟨b2, o2 + k * 3 + 2, none⟩ = some (.int .i64 tk) := by rw [← htk]; exact cell_later HK.out.2 (hc2 k _ hpk).2.2
   have hdr := HN.out.2.each fl du hdu
   have htr : 0 ≤ tk ∧ tk ≤ 1099511627776 := by have := okPk_true (HP.out.2.each _ p hpk).1; omega
   obtain ⟨kv, hkv⟩ : ∃ kv, tk + du = kv := ⟨_, rfl⟩
   have hw : IntKind.i64.wrap (tk + du) = kv := by rw [← hkv]; exact IntWalk.i64_in _ (by omega)
   have HX : Hid ((dueKeys ps ns)[k]? = some kv) := by
    show _ = _
    rw [List.getElem?_eq_getElem (by rw [dueKeys_length, HNN.out]; exact hkn), ← getD_lt (d := 0), dueKeys_get (by rw [HNN.out]; exact hkn), ofFlow, hfo, hdud, tickOf_get hpk, htk, hkv]
   have HOw : Hid ((wr.drew.alloc (.cells #[.int .i64 kv] 3)).ownsRow w.heap.size 3 1 u7 k (ints ((dueKeys ps ns).take k))) := ownsRow_of_block HK.out.1 (fun g' _ hg' => ((Below.refl _ _).drew.alloc (Nat.le_refl _) _ : Below wr.heap.size wr (wr.drew.alloc _)).block g' hg')
   have HNew : Hid (∀ j u, (ints [kv])[j]? = some u → (wr.drew.alloc (.cells #[.int .i64 kv] 3)).cell? (Addr.add ⟨wr.heap.size, 0, none⟩ j) = some u) := World.news_of_block (cs := #[.int .i64 kv]) (t := 3) (heap_alloc_new wr.drew _)
   have HBs : Hid (w.heap.size ≤ (wr.drew.alloc (.cells #[.int .i64 kv] 3)).heap.size) := Nat.le_trans HK.out.2.size (by simp)
   have HKd : Hid (KeysTo w wr.drew u7 (dueKeys ps ns) k) := ⟨ownsRow_of_block HK.out.1 (fun g' _ hg' => rfl), HK.out.2.drew⟩
   have HCw : Hid (w.cell? ⟨b2, o2 + k * 3, none⟩ = some (.int .i64 fl) ∧ w.cell? ⟨b2, o2 + k * 3 + 2, none⟩ = some (.int .i64 tk) ∧ w.cell? ⟨b3, o3 + fl, none⟩ = some (.int .i64 du)) := ⟨by rw [← hf]; exact (hc2 k _ hpk).1, by rw [← htk]; exact (hc2 k _ hpk).2.2, hc3 fl du hdu⟩
   clear hc2 hc3 hpk hf hfo hdu hdud htk hkv
   go_wp2_with fail
   go_region_held_law (fun w' => w'.cell? ⟨b2, o2 + k * 3, none⟩ = some (.int .i64 fl) ∧ w'.cell? ⟨b2, o2 + k * 3 + 2, none⟩ = some (.int .i64 tk) ∧ w'.cell? ⟨b3, o3 + fl, none⟩ = some (.int .i64 du)) (go_keep)
    (first
     | (refine step_append_lies _ rfl _ _ 23 rfl w.heap.size 3 i0 (.int .i64 0) 1 8 Tryz.underlying23 hi hz0 hz1 hz2 rfl (by decide) u7 k (ints ((dueKeys ps ns).take k)) rfl HOw.out ⟨wr.heap.size, 0, none⟩ 1 1 (ints [kv]) rfl rfl HNew.out (ints_one _) (by decide) (by unfold maxLen; omega) (by omega) HBs.out _ rfl ?_
        intro g5 cap5 w5 ho5 hg5 hat5 hlt5
        have H5 : Hid (KeysTo w w5 (.slice (some ⟨g5, 0, none⟩) (k + 1) cap5) (dueKeys ps ns) (k + 1)) := HKd.out.next HX.out _ ho5 hg5
        have y1 := cell_later H5.out.2 HCw.out.1
        have y2 := cell_later H5.out.2 HCw.out.2.1
        have y3 := cell_later H5.out.2 HCw.out.2.2
        clear ho5 hg5 hat5 hlt5)
     | fail)
   all_goals
    go_wp2_with fail
    go_roundg (gk - 1)
    case measure => omega
    case rel => exact ⟨k + 1, by omega, by go_num, H5.out⟩
  ·
   obtain rfl : k = n := by omega
   have HC : Hid (Calls Tryz.prog 142 #[.slice a k cap, .int .i64 per, u7] wr fun e w' => LeastEnd per ps (dueKeys ps ns) w e w') := HLeast.out wr u7 HK.out
   go_wp2_with fail
   refine HC.out.mono ?_
   rintro e w1 ⟨v, l, rfl, g1, g2, g3, g4⟩
   have HE : Hid (LeastEnd per ps (dueKeys ps ns) w (.returned v) w1) := ⟨v, l, rfl, g1, g2, g3, g4⟩
   clear g1 g2 g3 g4
   go_wp2_with fail
   go_ret
   exact HE.out
end Go.Proofs.YtibhkijaafdkoaaGreatDoor
