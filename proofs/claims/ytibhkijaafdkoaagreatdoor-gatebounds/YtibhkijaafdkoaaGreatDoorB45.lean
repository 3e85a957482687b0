/- Own facts, put together: no statement of its own. -/
import Derived.Deep.LoopGhost
import Derived.Test.YtibhkijaafdkoaaGreatDoorB44
import Derived.Test.YtibhkijaafdkoaaGreatDoorB25
namespace Go.Proofs.YtibhkijaafdkoaaGreatDoor
open Go.RowKit
set_option maxRecDepth 100000 in
set_option maxHeartbeats 1000000 in
theorem clonePkts_any (pa : Option Addr) (pcap : Nat) (ps : List Pk) (w : World) (hl : LiesP w pa ps) (hn : ps.length ≤ 1000) (ha : pa = none → ps = [] ∧ pcap = 0) :
  Calls Tryz.prog 79 #[.slice pa ps.length pcap] w fun e w' => ∃ v, e = .returned v ∧ OwnP w' w.heap.size v ps ∧ Below w.heap.size w w' := by
 cases pa with
 | none =>
  obtain ⟨rfl, rfl⟩ := ha rfl
  have hnil := fun wx => Go.Lib.run_eql_slice_nil (P := Tryz.prog) wx 43 52 none 0 0 0 0 Tryz.underlying43
  go_enter Tryz.func79, Tryz.ntmps79
  go_wp2_with fail
  go_ret
  exact ⟨_, rfl, World.ownsRow_nil _ _ _ _, Below.refl _ _⟩
 | some ad =>
  have hb0 : Below w.heap.size w (w.alloc (.cells #[] 52)) := (Below.refl _ _).alloc (Nat.le_refl _) _
  have H1 : Hid (LiesP (w.alloc (.cells #[] 52)) (some ad) ps) := hl.below hb0
  have H4 : Hid (OwnP (w.alloc (.cells #[] 52)) w.heap.size (.slice (some ⟨w.heap.size, 0, none⟩) 0 0) []) := World.ownsRow_lit w #[] 0 (Nat.le_refl _) (by simp [maxLen]) (by simp)
  have HB0 : Hid (Below w.heap.size w (w.alloc (.cells #[] 52))) := hb0
  have hnil := fun wx => Go.Lib.run_eql_slice_nil (P := Tryz.prog) wx 43 52 (some ad) ps.length pcap 0 0 Tryz.underlying43
  clear hl hb0 ha
  go_enter Tryz.func79, Tryz.ntmps79
  go_wp2_with (at_builtin; refine wpList_append_pks _ rfl _ _ rfl w.heap.size (.slice (some ⟨w.heap.size, 0, none⟩) 0 0) [] ps (some ad) ps.length pcap rfl rfl rfl H4.out H1.out (fun h => by cases h) (by simpa using hn) (by simp) ?_; rintro v' w3 ⟨hown', hb3⟩)
  go_ret
  exact ⟨_, rfl, by simpa using hown', HB0.out.trans hb3⟩
set_option maxRecDepth 100000 in
set_option maxHeartbeats 2000000 in
theorem numbersOf_any (b off n pcap : Nat) (xs : Nat → Pk) (ps : List Pk) (f : Nat) (w : World) (h : RowP w b off n xs (fun i => i)) (hn : n ≤ 300) (hnum : ∀ i, i < n → ((xs i).flow == (f : Int)) = (flowOf ps i == f)) :
  Calls Tryz.prog 125 #[.slice (some ⟨b, off, none⟩) n pcap, .int .i64 (f : Int)] w fun e w' => ∃ v, e = .returned v ∧ w'.ownsRow w.heap.size 3 1 v (numTo ps f n).length (ints (asInts (numTo ps f n))) ∧ Below w.heap.size w w' := by
 have HR : Hid (RowP w b off n xs (fun i => i)) := h
 have HF : Hid (∀ i, i < n → ((xs i).flow == (f : Int)) = (flowOf ps i == f)) := hnum
 clear h hnum
 go_enter Tryz.func125, Tryz.ntmps125
 go_wp2_with fail
 go_loopg [5, 10] n (fun gk ov iv wr => ∃ k : Nat, iv = .int .i64 (k : Int) ∧ k ≤ n ∧ n - k ≤ gk ∧ Hid (Both wr w.heap.size (.slice none 0 0) ov [] (asInts (numTo ps f k)) ∧ Below w.heap.size w wr))
 case atStart => exact ⟨0, rfl, Nat.zero_le _, Nat.le_refl _, both_nil _ _, Below.refl _ _⟩
 case round =>
  obtain ⟨k, rfl, hkn, hgk, H⟩ := hrel
  by_cases hlt : k < n
  ·
   have hltz : (k : Int) < (n : Int) := by omega
   have HRr := HR.out.later H.out.2
   have c0 : wr.cell? ⟨b, off + k * 3, none⟩ = some (.int .i64 (xs k).flow) := HRr.c0 k hlt
   have c1 : wr.cell? ⟨b, off + k * 3 + 1, none⟩ = some (.int .i64 (xs k).size) := HRr.c1 k hlt
   have c2 : wr.cell? ⟨b, off + k * 3 + 2, none⟩ = some (.int .i64 (xs k).tick) := HRr.c2 k hlt
   have hfk := HF.out k hlt
   obtain ⟨x0, hx0⟩ : ∃ x, (xs k).flow = x := ⟨_, rfl⟩
   obtain ⟨x1, hx1⟩ : ∃ x, (xs k).size = x := ⟨_, rfl⟩
   obtain ⟨x2, hx2⟩ : ∃ x, (xs k).tick = x := ⟨_, rfl⟩
   rw [hx0] at c0 hfk
   rw [hx1] at c1
   rw [hx2] at c2
   have HLen : Hid ((numTo ps f k).length ≤ k) := by show (numTo ps f k).length ≤ k; unfold numTo; exact Nat.le_trans (List.length_filter_le _ _) (by simp)
   clear HRr hx0 hx1 hx2
   by_cases hfl : flowOf ps k = f
   ·
    have hq : (x0 == (f : Int)) = true := by rw [hfk]; simpa using hfl
    have HS : Hid (numTo ps f (k + 1) = numTo ps f k ++ [k]) := by show _ = _; rw [numTo_succ, if_pos hfl]
    clear hfk hfl
    have hb1 : Below wr.heap.size wr (wr.alloc (.cells #[.int .i64 x0, .int .i64 x1, .int .i64 x2] 52)) := (Below.refl _ _).alloc (Nat.le_refl _) _
    have hb2 : Below wr.heap.size wr ((wr.alloc (.cells #[.int .i64 x0, .int .i64 x1, .int .i64 x2] 52)).alloc (.cells #[.int .i64 (k : Int)] 3)) := hb1.alloc hb1.size _
    have HV : Hid (Both ((wr.alloc (.cells #[.int .i64 x0, .int .i64 x1, .int .i64 x2] 52)).alloc (.cells #[.int .i64 (k : Int)] 3)) w.heap.size (.slice none 0 0) u5 [] (asInts (numTo ps f k)) ∧ Below w.heap.size w ((wr.alloc (.cells #[.int .i64 x0, .int .i64 x1, .int .i64 x2] 52)).alloc (.cells #[.int .i64 (k : Int)] 3)) ∧ ((wr.alloc (.cells #[.int .i64 x0, .int .i64 x1, .int .i64 x2] 52)).alloc (.cells #[.int .i64 (k : Int)] 3)).cell? ⟨wr.heap.size + 1, 0, none⟩ = some (.int .i64 (k : Int))) := ⟨H.out.1.later hb2, H.out.2.trans (hb2.mono H.out.2.size), by simp⟩
    clear hb1 hb2 H
    go_wp2_with (at_builtin; refine wpList_both_num _ rfl _ _ rfl w.heap.size (.slice none 0 0) u5 [] (asInts (numTo ps f k)) (k : Int) ⟨wr.heap.size + 1, 0, none⟩ rfl rfl HV.out.1 HV.out.2.2 (by have := HLen.out; simp [asInts]; omega) HV.out.2.1.size ?_; rintro v7 w7 ⟨hbo7, hb7⟩; have H7 : Hid (Both w7 w.heap.size (.slice none 0 0) v7 [] (asInts (numTo ps f (k + 1))) ∧ Below w.heap.size w w7) := ⟨by rw [HS.out, asInts_more]; exact hbo7, HV.out.2.1.trans hb7⟩; clear hbo7 hb7)
    go_roundg (n - (k + 1))
    case measure => omega
    case rel => exact ⟨k + 1, by go_num, hlt, Nat.le_refl _, H7⟩
   ·
    have hq : (x0 == (f : Int)) = false := by rw [hfk]; simpa using hfl
    have HS : Hid (numTo ps f (k + 1) = numTo ps f k) := by show _ = _; rw [numTo_succ, if_neg hfl]
    have hb1 : Below wr.heap.size wr (wr.alloc (.cells #[.int .i64 x0, .int .i64 x1, .int .i64 x2] 52)) := (Below.refl _ _).alloc (Nat.le_refl _) _
    have HV : Hid (Both (wr.alloc (.cells #[.int .i64 x0, .int .i64 x1, .int .i64 x2] 52)) w.heap.size (.slice none 0 0) u5 [] (asInts (numTo ps f (k + 1))) ∧ Below w.heap.size w (wr.alloc (.cells #[.int .i64 x0, .int .i64 x1, .int .i64 x2] 52))) := by
     refine ⟨?_, H.out.2.trans (hb1.mono H.out.2.size)⟩
     rw [HS.out]
     exact H.out.1.later hb1
    clear hfk hfl hb1 H
    go_wp2_with fail
    go_roundg (n - (k + 1))
    case measure => omega
    case rel => exact ⟨k + 1, by go_num, hlt, Nat.le_refl _, HV⟩
  ·
   have hltz : ¬ (k : Int) < (n : Int) := by omega
   obtain rfl : k = n := by omega
   go_wp2_with fail
   go_ret
   refine ⟨_, rfl, ?_, H.out.2⟩
   have := H.out.1.nums
   rwa [show (asInts (numTo ps f k)).length = (numTo ps f k).length by simp [asInts]] at this
end Go.Proofs.YtibhkijaafdkoaaGreatDoor
