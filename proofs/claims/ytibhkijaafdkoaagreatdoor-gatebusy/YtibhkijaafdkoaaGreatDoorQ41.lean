/- Own facts, put together: no statement of its own. -/
import Derived.Test.YtibhkijaafdkoaaGreatDoorQ40
import Derived.Test.YtibhkijaafdkoaaGreatDoorQ13
import Derived.Deep.LoopGhost
import Derived.Test.YtibhkijaafdkoaaGreatDoorQ38
import Derived.Test.YtibhkijaafdkoaaGreatDoorQ32
import Derived.Test.YtibhkijaafdkoaaGreatDoorQ02
import Derived.Test.YtibhkijaafdkoaaGreatDoorQ17
import Derived.Test.YtibhkijaafdkoaaGreatDoorQ04
import Derived.Deep.RegionHeldLaw
import Derived.Deep.AppendLies
import Derived.Test.YtibhkijaafdkoaaGreatDoorQ14
import Derived.Test.YtibhkijaafdkoaaGreatDoorQ21
import Derived.Test.YtibhkijaafdkoaaGreatDoorQ15
namespace Go.Proofs.YtibhkijaafdkoaaGreatDoor
open Go.RowKit
structure RowP (w : World) (b off n : Nat) (pk : Nat → Pk) (f : Nat → Nat) : Prop where
 lt : b < w.heap.size
 c0 : ∀ i, i < n → w.cell? ⟨b, off + i * 3, none⟩ = some (.int .i64 (pk (f i)).flow)
 c1 : ∀ i, i < n → w.cell? ⟨b, off + i * 3 + 1, none⟩ = some (.int .i64 (pk (f i)).size)
 c2 : ∀ i, i < n → w.cell? ⟨b, off + i * 3 + 2, none⟩ = some (.int .i64 (pk (f i)).tick)
 fz : ∀ j, w.frozen? ⟨b, j, none⟩ = false
def put3 (w : World) (b o : Nat) (p : Pk) : World := ((w.setCell ⟨b, o, none⟩ (.int .i64 p.flow)).setCell ⟨b, o + 1, none⟩ (.int .i64 p.size)).setCell ⟨b, o + 2, none⟩ (.int .i64 p.tick)
theorem put3_size (w : World) (b o : Nat) (p : Pk) : (put3 w b o p).heap.size = w.heap.size := by simp [put3]
theorem put3_out (w : World) (b o : Nat) (p : Pk) {j : Nat} (h : j < o ∨ o + 3 ≤ j) : (put3 w b o p).cell? ⟨b, j, none⟩ = w.cell? ⟨b, j, none⟩ := by
 unfold put3
 rw [World.cell?_setCell_other _ _ _ _ (fun e => by injection e with _ e _; omega), World.cell?_setCell_other _ _ _ _ (fun e => by injection e with _ e _; omega), World.cell?_setCell_other _ _ _ _ (fun e => by injection e with _ e _; omega)]
theorem put3_in {w : World} {b o : Nat} (p : Pk) {u0 u1 u2 : Value} (h0 : w.cell? ⟨b, o, none⟩ = some u0) (h1 : w.cell? ⟨b, o + 1, none⟩ = some u1) (h2 : w.cell? ⟨b, o + 2, none⟩ = some u2) :
  (put3 w b o p).cell? ⟨b, o, none⟩ = some (.int .i64 p.flow) ∧ (put3 w b o p).cell? ⟨b, o + 1, none⟩ = some (.int .i64 p.size) ∧ (put3 w b o p).cell? ⟨b, o + 2, none⟩ = some (.int .i64 p.tick) := by
 unfold put3
 refine ⟨?_, ?_, ?_⟩
 ·
  rw [World.cell?_setCell_other _ _ _ _ (fun e => by injection e with _ e _; omega), World.cell?_setCell_other _ _ _ _ (fun e => by injection e with _ e _; omega)]
  exact World.cell?_setCell_same' _ _ _ (by rw [h0]; rfl)
 ·
  rw [World.cell?_setCell_other _ _ _ _ (fun e => by injection e with _ e _; omega)]
  exact World.cell?_setCell_same' _ _ _ (by rw [World.cell?_setCell_other _ _ _ _ (fun e => by injection e with _ e _; omega), h1]; rfl)
 · exact World.cell?_setCell_same' _ _ _ (by rw [World.cell?_setCell_other _ _ _ _ (fun e => by injection e with _ e _; omega), World.cell?_setCell_other _ _ _ _ (fun e => by injection e with _ e _; omega), h2]; rfl)
theorem put3_frozen (w : World) (b o : Nat) (p : Pk) (a : Addr) : (put3 w b o p).frozen? a = w.frozen? a := by simp [put3]
theorem put3_but {S : Nat → Prop} {a w : World} (h : But S a w) {b : Nat} (hb : S b) (o : Nat) (p : Pk) : But S a (put3 w b o p) := ((h.setCell (p := ⟨b, o, none⟩) hb _).setCell (p := ⟨b, o + 1, none⟩) hb _).setCell (p := ⟨b, o + 2, none⟩) hb _
section
variable {w w' : World} {b off n : Nat} {pk : Nat → Pk} {f : Nat → Nat}
theorem RowP.later (h : RowP w b off n pk f) (hb : Below w.heap.size w w') : RowP w' b off n pk f :=
 ⟨Nat.lt_of_lt_of_le h.lt hb.size, fun i hi => cell_later hb (h.c0 i hi), fun i hi => cell_later hb (h.c1 i hi), fun i hi => cell_later hb (h.c2 i hi), fun j => (World.frozen?_of_block (w := w) (hb.block b h.lt)).trans (h.fz j)⟩
theorem RowP.put (h : RowP w b off n pk f) {i : Nat} (hi : i < n) (x : Nat) : RowP (put3 w b (off + i * 3) (pk x)) b off n pk (fun k => if k = i then x else f k) := by
 have hin := put3_in (pk x) (h.c0 i hi) (h.c1 i hi) (h.c2 i hi)
 have key : ∀ k (c : Nat), k ≠ i → c < 3 → (put3 w b (off + i * 3) (pk x)).cell? ⟨b, off + k * 3 + c, none⟩ = w.cell? ⟨b, off + k * 3 + c, none⟩ := fun k c hk hc => put3_out w b _ _ (by omega)
 refine ⟨by rw [put3_size]; exact h.lt, fun k hk => ?_, fun k hk => ?_, fun k hk => ?_, fun j => by rw [put3_frozen]; exact h.fz j⟩
 ·
  by_cases e : k = i
  · subst e; rw [if_pos rfl]; exact hin.1
  ·
   simp only [if_neg e]
   have := key k 0 e (by omega)
   rw [Nat.add_zero] at this
   rw [this]; exact h.c0 k hk
 ·
  by_cases e : k = i
  · subst e; rw [if_pos rfl]; exact hin.2.1
  · simp only [if_neg e]; rw [key k 1 e (by omega)]; exact h.c1 k hk
 ·
  by_cases e : k = i
  · subst e; rw [if_pos rfl]; exact hin.2.2
  · simp only [if_neg e]; rw [key k 2 e (by omega)]; exact h.c2 k hk
theorem RowP.xch (h : RowP w b off n pk f) {i j : Nat} (hi : i < n) (hj : j < n) : RowP (put3 (put3 w b (off + i * 3) (pk (f j))) b (off + j * 3) (pk (f i))) b off n pk (xch f i j) := by
 have := (h.put hi (f j)).put hj (f i)
 have e : (fun k => if k = j then f i else if k = i then f j else f k) = Go.Proofs.YtibhkijaafdkoaaGreatDoor.xch f i j := by
  funext k
  unfold Go.Proofs.YtibhkijaafdkoaaGreatDoor.xch
  by_cases h1 : k = i
  ·
   subst h1
   by_cases h2 : k = j
   · subst h2; simp
   · simp [h2]
  · simp [h1]
 rw [e] at this
 exact this
end
structure StaAt (w0 : World) (b off n : Nat) (pk : Nat → Pk) (f : Nat → Nat) (w : World) : Prop where
 row : RowP w b off n pk f
 but : But (fun k => k = b) w0 w
section
variable {w0 w w' : World} {b off n : Nat} {pk : Nat → Pk} {f : Nat → Nat}
theorem StaAt.later (h : StaAt w0 b off n pk f w) (hb : Below w.heap.size w w') : StaAt w0 b off n pk f w' := ⟨h.row.later hb, h.but.trans (.ofBelow hb)⟩
theorem StaAt.drew (h : StaAt w0 b off n pk f w) : StaAt w0 b off n pk f w.drew := h.later (below_drewN (Below.refl _ _) 1)
theorem StaAt.xch (h : StaAt w0 b off n pk f w) {i j : Nat} (hi : i < n) (hj : j < n) : StaAt w0 b off n pk (xch f i j) (put3 (put3 w b (off + i * 3) (pk (f j))) b (off + j * 3) (pk (f i))) :=
 ⟨h.row.xch hi hj, put3_but (put3_but h.but rfl _ _) rfl _ _⟩
end
end Go.Proofs.YtibhkijaafdkoaaGreatDoor

namespace Go.Proofs.YtibhkijaafdkoaaGreatDoor
open Go.RowKit
set_option maxRecDepth 100000 in
set_option maxHeartbeats 1000000 in
theorem clonePkts_any (pa : Option Addr) (pcap : Nat) (ps : List Pk) (w : World) (hl : LiesP w pa ps) (hn : ps.length ≤ 1000) (ha : pa = none → ps = [] ∧ pcap = 0) :
  Calls Tryz.prog 79 #[.slice pa ps.length pcap] w fun e w' => ∃ v, e = .returned v ∧ OwnP w' w.heap.size v ps ∧ Below w.heap.size w w' := by
 cases pa with
 | none =>
  obtain ⟨rfl, rfl⟩ := ha rfl
  have hnil := fun wx => Go.Lib.run_eql_slice_nil (P := Tryz.prog) wx 43 52 none 0 0 0 0 Tryz.underlying43
  go_enter Tryz.func79, Tryz.ntmps79
  go_wp2_with fail
  go_ret
  exact ⟨_, rfl, World.ownsRow_nil _ _ _ _, Below.refl _ _⟩
 | some ad =>
  have hb0 : Below w.heap.size w (w.alloc (.cells #[] 52)) := (Below.refl _ _).alloc (Nat.le_refl _) _
  have H1 : Hid (LiesP (w.alloc (.cells #[] 52)) (some ad) ps) := hl.below hb0
  have H4 : Hid (OwnP (w.alloc (.cells #[] 52)) w.heap.size (.slice (some ⟨w.heap.size, 0, none⟩) 0 0) []) := World.ownsRow_lit w #[] 0 (Nat.le_refl _) (by simp [maxLen]) (by simp)
  have HB0 : Hid (Below w.heap.size w (w.alloc (.cells #[] 52))) := hb0
  have hnil := fun wx => Go.Lib.run_eql_slice_nil (P := Tryz.prog) wx 43 52 (some ad) ps.length pcap 0 0 Tryz.underlying43
  clear hl hb0 ha
  go_enter Tryz.func79, Tryz.ntmps79
  go_wp2_with (at_builtin; refine wpList_append_pks _ rfl _ _ rfl w.heap.size (.slice (some ⟨w.heap.size, 0, none⟩) 0 0) [] ps (some ad) ps.length pcap rfl rfl rfl H4.out H1.out (fun h => by cases h) (by simpa using hn) (by simp) ?_; rintro v' w3 ⟨hown', hb3⟩)
  go_ret
  exact ⟨_, rfl, by simpa using hown', HB0.out.trans hb3⟩
set_option maxRecDepth 100000 in
set_option maxHeartbeats 2000000 in
theorem numbersOf_any (b off n pcap : Nat) (xs : Nat → Pk) (ps : List Pk) (f : Nat) (w : World) (h : RowP w b off n xs (fun i => i)) (hn : n ≤ 300) (hnum : ∀ i, i < n → ((xs i).flow == (f : Int)) = (flowOf ps i == f)) :
  Calls Tryz.prog 125 #[.slice (some ⟨b, off, none⟩) n pcap, .int .i64 (f : Int)] w fun e w' => ∃ v, e = .returned v ∧ w'.ownsRow w.heap.size 3 1 v (numTo ps f n).length (ints (asInts (numTo ps f n))) ∧ Below w.heap.size w w' := by
 have HR : Hid (RowP w b off n xs (fun i => i)) := h
 have HF : Hid (∀ i, i < n → ((xs i).flow == (f : Int)) = (flowOf ps i == f)) := hnum
 clear h hnum
 go_enter Tryz.func125, Tryz.ntmps125
 go_wp2_with fail
 go_loopg [5, 10] n (fun gk ov iv wr => ∃ k : Nat, iv = .int .i64 (k : Int) ∧ k ≤ n ∧ n - k ≤ gk ∧ Hid (Both wr w.heap.size (.slice none 0 0) ov [] (asInts (numTo ps f k)) ∧ Below w.heap.size w wr))
 case atStart => exact ⟨0, rfl, Nat.zero_le _, Nat.le_refl _, both_nil _ _, Below.refl _ _⟩
 case round =>
  obtain ⟨k, rfl, hkn, hgk, H⟩ := hrel
  by_cases hlt : k < n
  ·
   have hltz : (k : Int) < (n : Int) := by omega
   have HRr := HR.out.later H.out.2
   have c0 : wr.cell? ⟨b, off + k * 3, none⟩ = some (.int .i64 (xs k).flow) := HRr.c0 k hlt
   have c1 : wr.cell? ⟨b, off + k * 3 + 1, none⟩ = some (.int .i64 (xs k).size) := HRr.c1 k hlt
   have c2 : wr.cell? ⟨b, off + k * 3 + 2, none⟩ = some (.int .i64 (xs k).tick) := HRr.c2 k hlt
   have hfk := HF.out k hlt
   obtain ⟨x0, hx0⟩ : ∃ x, (xs k).flow = x := ⟨_, rfl⟩
   obtain ⟨x1, hx1⟩ : ∃ x, (xs k).size = x := ⟨_, rfl⟩
   obtain ⟨x2, hx2⟩ : ∃ x, (xs k).tick = x := ⟨_, rfl⟩
   rw [hx0] at c0 hfk
   rw [hx1] at c1
   rw [hx2] at c2
   have HLen : Hid ((numTo ps f k).length ≤ k) := by show (numTo ps f k).length ≤ k; unfold numTo; exact Nat.le_trans (List.length_filter_le _ _) (by simp)
   clear HRr hx0 hx1 hx2
   by_cases hfl : flowOf ps k = f
   ·
    have hq : (x0 == (f : Int)) = true := by rw [hfk]; simpa using hfl
    have HS : Hid (numTo ps f (k + 1) = numTo ps f k ++ [k]) := by show _ = _; rw [numTo_succ, if_pos hfl]
    clear hfk hfl
    have hb1 : Below wr.heap.size wr (wr.alloc (.cells #[.int .i64 x0, .int .i64 x1, .int .i64 x2] 52)) := (Below.refl _ _).alloc (Nat.le_refl _) _
    have hb2 : Below wr.heap.size wr ((wr.alloc (.cells #[.int .i64 x0, .int .i64 x1, .int .i64 x2] 52)).alloc (.cells #[.int .i64 (k : Int)] 3)) := hb1.alloc hb1.size _
    have HV : Hid (Both ((wr.alloc (.cells #[.int .i64 x0, .int .i64 x1, .int .i64 x2] 52)).alloc (.cells #[.int .i64 (k : Int)] 3)) w.heap.size (.slice none 0 0) u5 [] (asInts (numTo ps f k)) ∧ Below w.heap.size w ((wr.alloc (.cells #[.int .i64 x0, .int .i64 x1, .int .i64 x2] 52)).alloc (.cells #[.int .i64 (k : Int)] 3)) ∧ ((wr.alloc (.cells #[.int .i64 x0, .int .i64 x1, .int .i64 x2] 52)).alloc (.cells #[.int .i64 (k : Int)] 3)).cell? ⟨wr.heap.size + 1, 0, none⟩ = some (.int .i64 (k : Int))) := ⟨H.out.1.later hb2, H.out.2.trans (hb2.mono H.out.2.size), by simp⟩
    clear hb1 hb2 H
    go_wp2_with (at_builtin; refine wpList_both_num _ rfl _ _ rfl w.heap.size (.slice none 0 0) u5 [] (asInts (numTo ps f k)) (k : Int) ⟨wr.heap.size + 1, 0, none⟩ rfl rfl HV.out.1 HV.out.2.2 (by have := HLen.out; simp [asInts]; omega) HV.out.2.1.size ?_; rintro v7 w7 ⟨hbo7, hb7⟩; have H7 : Hid (Both w7 w.heap.size (.slice none 0 0) v7 [] (asInts (numTo ps f (k + 1))) ∧ Below w.heap.size w w7) := ⟨by rw [HS.out, asInts_more]; exact hbo7, HV.out.2.1.trans hb7⟩; clear hbo7 hb7)
    go_roundg (n - (k + 1))
    case measure => omega
    case rel => exact ⟨k + 1, by go_num, hlt, Nat.le_refl _, H7⟩
   ·
    have hq : (x0 == (f : Int)) = false := by rw [hfk]; simpa using hfl
    have HS : Hid (numTo ps f (k + 1) = numTo ps f k) := by show _ = _; rw [numTo_succ, if_neg hfl]
    have hb1 : Below wr.heap.size wr (wr.alloc (.cells #[.int .i64 x0, .int .i64 x1, .int .i64 x2] 52)) := (Below.refl _ _).alloc (Nat.le_refl _) _
    have HV : Hid (Both (wr.alloc (.cells #[.int .i64 x0, .int .i64 x1, .int .i64 x2] 52)) w.heap.size (.slice none 0 0) u5 [] (asInts (numTo ps f (k + 1))) ∧ Below w.heap.size w (wr.alloc (.cells #[.int .i64 x0, .int .i64 x1, .int .i64 x2] 52))) := by
     refine ⟨?_, H.out.2.trans (hb1.mono H.out.2.size)⟩
     rw [HS.out]
     exact H.out.1.later hb1
    clear hfk hfl hb1 H
    go_wp2_with fail
    go_roundg (n - (k + 1))
    case measure => omega
    case rel => exact ⟨k + 1, by go_num, hlt, Nat.le_refl _, HV⟩
  ·
   have hltz : ¬ (k : Int) < (n : Int) := by omega
   obtain rfl : k = n := by omega
   go_wp2_with fail
   go_ret
   refine ⟨_, rfl, ?_, H.out.2⟩
   have := H.out.1.nums
   rwa [show (asInts (numTo ps f k)).length = (numTo ps f k).length by simp [asInts]] at this
end Go.Proofs.YtibhkijaafdkoaaGreatDoor

namespace Go.Proofs.YtibhkijaafdkoaaGreatDoor
open Go.RowKit
theorem Errs9.four {w : World} {ad : Nat → Addr} (h : Errs9 w ad) : Errs4 w ad := ⟨h.c1, h.c2, h.c3, h.c4⟩
end Go.Proofs.YtibhkijaafdkoaaGreatDoor

namespace Go.Proofs.YtibhkijaafdkoaaGreatDoor
open Go.RowKit
structure DoneAt (w : World) (g n : Nat) (out : List Sn) : Prop where
 cell : ∀ i, i < n → w.cell? ⟨g, i, none⟩ = some (.bool (isDone out i))
 frozen : ∀ i, w.frozen? ⟨g, i, none⟩ = false
 lt : g < w.heap.size
theorem DoneAt.of_block {w w' : World} {g n : Nat} {out : List Sn} (h : DoneAt w g n out) (hb : w'.heap[g]? = w.heap[g]?) (hs : w.heap.size ≤ w'.heap.size) : DoneAt w' g n out :=
 ⟨fun i hi => (World.cell?_of_block (a := ⟨g, i, none⟩) hb).trans (h.cell i hi), fun i => (World.frozen?_of_block (a := ⟨g, i, none⟩) hb).trans (h.frozen i), Nat.lt_of_lt_of_le h.lt hs⟩
structure LeastAt (per : Int) (ps : List Pk) (keys : List Int) (w wr : World) (v : Value) (g : Nat) (out : List Sn) (t : Int) (f : Nat) : Prop where
 seeks : Seeks per ps keys out t f
 own : OwnS wr w.heap.size v out
 done : DoneAt wr g ps.length out
 apart : v.ownBlock ≠ some g
 new : w.heap.size ≤ g
 below : Below w.heap.size w wr
section
variable {per : Int} {ps : List Pk} {keys : List Int} {w wr wr' : World} {v : Value} {g : Nat} {out : List Sn} {t : Int} {f : Nat}
theorem LeastAt.later (h : LeastAt per ps keys w wr v g out t f) (hb : Below wr.heap.size wr wr') : LeastAt per ps keys w wr' v g out t f :=
 ⟨h.seeks, ownsRow_of_block h.own (fun g _ hg => hb.block g hg), h.done.of_block (hb.block g h.done.lt) hb.size, h.apart, h.new, h.below.trans (hb.mono h.below.size)⟩
end
end Go.Proofs.YtibhkijaafdkoaaGreatDoor

namespace Go.Proofs.YtibhkijaafdkoaaGreatDoor
open Go.RowKit
theorem liesN_of_own {w : World} {B : Nat} {v : Value} {zs : List Int} (h : w.ownsRow B 3 1 v zs.length (ints zs)) : ∃ a cap, v = .slice a zs.length cap ∧ zs.length ≤ cap ∧ cap ≤ maxLen ∧ LiesN w a zs ∧ (a = none → zs = [] ∧ cap = 0) := by
 have hh := h
 obtain ⟨h1, ⟨rfl, h0⟩ | ⟨g, cap, cur, rfl, hB, hg, hn, hm, hc, ht⟩⟩ := h
 ·
  have e : zs = [] := List.length_eq_zero_iff.1 h0
  exact ⟨none, 0, by rw [h0], by omega, by simp [maxLen], .inl e, fun _ => ⟨e, rfl⟩⟩
 ·
  refine ⟨_, cap, rfl, hn, hm, .inr ⟨g, 0, rfl, lt_of_block hg, fun i x hx => ?_⟩, fun e => by cases e⟩
  rw [Nat.zero_add, hh.cellAt i (by have := (List.getElem?_eq_some_iff.1 hx).1; omega)]
  exact ints_get hx
end Go.Proofs.YtibhkijaafdkoaaGreatDoor
