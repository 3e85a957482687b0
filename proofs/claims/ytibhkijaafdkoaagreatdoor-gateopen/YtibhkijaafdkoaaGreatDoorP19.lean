/- Own facts, put together: no statement of its own. -/
import Derived.Test.YtibhkijaafdkoaaGreatDoorP18
namespace Go.Proofs.YtibhkijaafdkoaaGreatDoor
open Go.RowKit
theorem own_open {w : World} {B : Nat} {v : Value} {zs : List Int} (h : w.ownsRow B 3 1 v zs.length (ints zs)) : ∃ ao cap, v = .slice ao zs.length cap ∧ zs.length ≤ cap ∧ cap ≤ maxLen := by
 obtain ⟨h1, ⟨rfl, h0⟩ | ⟨g, cap, cur, rfl, hB, hg, hn, hm, hc, ht⟩⟩ := h
 · exact ⟨none, 0, by rw [h0], by omega, by simp [maxLen]⟩
 · exact ⟨_, cap, rfl, hn, hm⟩
theorem own_some {w : World} {B : Nat} {v : Value} {zs : List Int} (h : w.ownsRow B 3 1 v zs.length (ints zs)) (h0 : 0 < zs.length) : ∃ g cap, v = .slice (some ⟨g, 0, none⟩) zs.length cap ∧ zs.length ≤ cap ∧ cap ≤ maxLen ∧ ∀ (i : Nat) x, zs[i]? = some x → w.cell? ⟨g, i, none⟩ = some (.int .i64 x) := by
 have hh := h
 obtain ⟨h1, ⟨rfl, h0'⟩ | ⟨g, cap, cur, rfl, hB, hg, hn, hm, hc, ht⟩⟩ := h
 · omega
 ·
  refine ⟨g, cap, rfl, hn, hm, fun i x hx => ?_⟩
  have hi : i < zs.length := by
   rcases Nat.lt_or_ge i zs.length with h' | h'
   · exact h'
   · simp [List.getElem?_eq_none h'] at hx
  rw [hh.cellAt i (by omega)]
  exact ints_get hx
def LeastTaken (B : Nat) (w : World) (r cap : Nat) (q : List Nat) (i : Nat) (e : Ending) (w' : World) : Prop :=
 e = .returned (.tuple #[.int .i64 (q.getD i 0 : Nat), .slice (some ⟨r, 0, none⟩) (q.length - 1) cap]) ∧ w'.ownsRow B 3 1 (.slice (some ⟨r, 0, none⟩) (q.length - 1) cap) (q.length - 1) (ints (asInts (q.eraseIdx i))) ∧ But (fun j => j = r) w w'
set_option maxRecDepth 100000 in
set_option maxHeartbeats 4000000 in
theorem takeLeastA (B : Nat) (f : Nat) (x1 x2 : Value) (key : Nat → Int) (n r cap : Nat) (q : List Nat) (w : World) (hn : q.length ≤ 1000) (h0 : 0 < q.length) (hq : ∀ k, k ∈ q → k < n)
  (h2 : w.ownsRow B 3 1 (.slice (some ⟨r, 0, none⟩) q.length cap) q.length (ints (asInts q))) (hlc : q.length ≤ cap) (hcm : cap ≤ maxLen)
  (hf : ∀ args W, Sem.run Tryz.prog (callFunc f args) W = .ok (.enter f args) W)
  (hM : ∀ m k, k < n → Calls Tryz.prog f #[.int .i64 ((k : Nat) : Int), x1, x2] (w.drewN m) fun e w' => e = .returned (.int .i64 (key k)) ∧ ∃ m', w' = (w.drewN m).drewN m') :
  Calls Tryz.prog 159 #[.slice (some ⟨r, 0, none⟩) q.length cap, .func (.func f) #[] #[x1, x2]] w fun e w' => LeastTaken B w r cap q (pickAt key q) e w' := by
 have HM : Hid (∀ m k, k < n → Calls Tryz.prog f #[.int .i64 ((k : Nat) : Int), x1, x2] (w.drewN m) fun e w' => e = .returned (.int .i64 (key k)) ∧ ∃ m', w' = (w.drewN m).drewN m') := hM
 have hcell := (fun (i : Nat) x (hx : (asInts q)[i]? = some x) => (h2.cellAt i (by have := lt_of_get hx; rw [asInts_length] at this; omega)).trans (ints_get hx) : ∀ (i : Nat) x, (asInts q)[i]? = some x → w.cell? ⟨r, i, none⟩ = some (.int .i64 x))
 have H2 : Hid (w.ownsRow B 3 1 (.slice (some ⟨r, 0, none⟩) (asInts q).length cap) (asInts q).length (ints (asInts q)) ∧ cap ≤ maxLen ∧ (asInts q).length ≤ cap) := by rw [asInts_length]; exact ⟨h2, hcm, hlc⟩
 have HC : Hid (∀ i, i < q.length → ∃ k, q[i]? = some k ∧ q.getD i 0 = k ∧ k < n ∧ w.cell? ⟨r, i, none⟩ = some (.int .i64 ((k : Nat) : Int))) := fun i hi => by
  obtain ⟨k, hk, hmem⟩ := get_some q i hi
  exact ⟨k, hk, by simp [List.getD, hk], hq k hmem, hcell i _ (asInts_get hk)⟩
 unfold maxLen at hcm
 clear h2 hq hM hcell
 obtain ⟨l, hl⟩ : ∃ l, q.length = l := ⟨_, rfl⟩
 have HL : Hid (q.length = l) := hl
 rw [hl] at hn h0 hlc HC ⊢
 clear hl
 go_enter Tryz.func159, Tryz.ntmps159
 go_wp2_with fail
 go_loopw [6, 11] (fun fi i wr => ∃ k : Nat, k ≤ l ∧ i = .int .i64 k ∧ fi = .int .i64 (firstLeast key q k) ∧ ∃ m, wr = w.drewN m) (fun _ i _ => l - (intOf i).toNat)
 case atStart => exact ⟨0, Nat.zero_le _, rfl, rfl, 0, rfl⟩
 case round =>
  obtain ⟨k, hk, rfl, rfl, m, hm⟩ := hrel
  have HW : Hid (wr = w.drewN m) := hm
  by_cases hkl : k < l
  ·
   have hfl : firstLeast key q k < l := by rw [← HL.out]; exact firstLeast_lt key (by rw [HL.out]; exact h0) (by rw [HL.out]; exact hk)
   obtain ⟨fl, hfe⟩ : ∃ fl, firstLeast key q k = fl := ⟨_, rfl⟩
   obtain ⟨a, ha, had, han, ca⟩ := HC.out k hkl
   rw [hfe] at hfl ⊢
   obtain ⟨b, hb, hbd, hbn, cb⟩ := HC.out fl hfl
   have HE : Hid (firstLeast key q (k + 1) = if key a < key b then k else fl) := by
    show firstLeast key q (k + 1) = _
    simp only [firstLeast, had, hfe, hbd]
   have da : wr.cell? ⟨r, k, none⟩ = some (.int .i64 (a : Int)) := by rw [hm]; exact ca
   have db : wr.cell? ⟨r, fl, none⟩ = some (.int .i64 (b : Int)) := by rw [hm]; exact cb
   have HMa : Hid (∀ j, Calls Tryz.prog f #[.int .i64 ((a : Nat) : Int), x1, x2] (wr.drewN j) fun e w' => e = .returned (.int .i64 (key a)) ∧ ∃ m', w' = (wr.drewN j).drewN m') := fun j => by
    have := HM.out (m + j) a han
    rw [hm, World.drewN_drewN]
    exact this
   have HMb : Hid (∀ j, Calls Tryz.prog f #[.int .i64 ((b : Nat) : Int), x1, x2] (wr.drewN j) fun e w' => e = .returned (.int .i64 (key b)) ∧ ∃ m', w' = (wr.drewN j).drewN m') := fun j => by
    have := HM.out (m + j) b hbn
    rw [hm, World.drewN_drewN]
    exact this
   clear hfe ha had hb hbd ca cb hm
   by_cases hlt : key a < key b
   ·
    have HE' : Hid (firstLeast key q (k + 1) = k) := HE.out.trans (if_pos hlt)
    go_wp2_with fail
    go_quiet (first
     | exact Calls.quiet_of (HMa.out _)
     | exact Calls.quiet_of (HMb.out _))
    go_wp2_with fail
    go_roundw
    case rel => exact ⟨k + 1, by omega, by go_num, by rw [HE'.out], m + nq, by rw [HW.out, World.drewN_drewN]⟩
    case measure => simp [intOf]; omega
   ·
    have HE' : Hid (firstLeast key q (k + 1) = fl) := HE.out.trans (if_neg hlt)
    go_wp2_with fail
    go_quiet (first
     | exact Calls.quiet_of (HMa.out _)
     | exact Calls.quiet_of (HMb.out _))
    go_wp2_with fail
    go_roundw
    case rel => exact ⟨k + 1, by omega, by go_num, by rw [HE'.out], m + nq, by rw [HW.out, World.drewN_drewN]⟩
    case measure => simp [intOf]; omega
  ·
   obtain rfl : k = l := by omega
   have hfl : firstLeast key q k < k := by rw [← HL.out]; exact firstLeast_lt key (by rw [HL.out]; exact h0) (Nat.le_refl _)
   obtain ⟨fl, hfe⟩ : ∃ fl, firstLeast key q k = fl := ⟨_, rfl⟩
   rw [hfe] at hfl ⊢
   obtain ⟨b, hb, hbd, hbn, cb⟩ := HC.out fl hfl
   have db : wr.cell? ⟨r, fl, none⟩ = some (.int .i64 (b : Int)) := by rw [hm]; exact cb
   have HPick : Hid (pickAt key q = fl ∧ q.getD fl 0 = b) := ⟨by unfold pickAt; rw [HL.out]; exact hfe, hbd⟩
   have HBw : Hid (But (fun j => j = r) w wr) := by
    show But _ _ _
    rw [hm]
    exact .ofBelow (below_drewN (Below.refl _ _) _)
   have HDel : Hid (Calls Tryz.prog 165 #[.slice (some ⟨r, 0, none⟩) k cap, .int .i64 (fl : Int), .int .i64 ((fl : Int) + 1)] wr fun e w' => e = .returned (.slice (some ⟨r, 0, none⟩) (k - 1) cap) ∧ w'.ownsRow B 3 1 (.slice (some ⟨r, 0, none⟩) (k - 1) cap) (k - 1) (ints (asInts (q.eraseIdx fl))) ∧ But (fun j => j = r) wr w') := by
    have hown : wr.ownsRow B 3 1 (.slice (some ⟨r, 0, none⟩) (asInts q).length cap) (asInts q).length (ints (asInts q)) := by rw [hm]; exact H2.out.1
    have hd := delete_one B r cap fl (asInts q) wr hown (by rw [asInts_length, HL.out]; exact hfl) H2.out.2.2 H2.out.2.1
    rw [asInts_length, HL.out, asInts_erase] at hd
    exact hd
   clear hfe hb hbd cb hm
   go_wp2_with fail
   refine HDel.out.mono ?_
   rintro e w2 ⟨rfl, hown2, hbut2⟩
   have HO : Hid (w2.ownsRow B 3 1 (.slice (some ⟨r, 0, none⟩) (k - 1) cap) (k - 1) (ints (asInts (q.eraseIdx fl))) ∧ But (fun j => j = r) wr w2) := ⟨hown2, hbut2⟩
   clear hown2 hbut2
   go_wp2_with fail
   go_ret2
   rw [HPick.out.1]
   unfold LeastTaken
   rw [HL.out, HPick.out.2]
   exact ⟨rfl, HO.out.1, HBw.out.trans HO.out.2⟩
set_option maxRecDepth 100000 in
set_option maxHeartbeats 4000000 in
theorem takeLeastB (B : Nat) (f : Nat) (x1 : Value) (key : Nat → Int) (n r cap : Nat) (q : List Nat) (w : World) (hn : q.length ≤ 1000) (h0 : 0 < q.length) (hq : ∀ k, k ∈ q → k < n)
  (h2 : w.ownsRow B 3 1 (.slice (some ⟨r, 0, none⟩) q.length cap) q.length (ints (asInts q))) (hlc : q.length ≤ cap) (hcm : cap ≤ maxLen)
  (hf : ∀ args W, Sem.run Tryz.prog (callFunc f args) W = .ok (.enter f args) W)
  (hM : ∀ m k, k < n → Calls Tryz.prog f #[x1, .int .i64 ((k : Nat) : Int)] (w.drewN m) fun e w' => e = .returned (.int .i64 (key k)) ∧ ∃ m', w' = (w.drewN m).drewN m') :
  Calls Tryz.prog 159 #[.slice (some ⟨r, 0, none⟩) q.length cap, .func (.func f) #[x1] #[]] w fun e w' => LeastTaken B w r cap q (pickAt key q) e w' := by
 have HM : Hid (∀ m k, k < n → Calls Tryz.prog f #[x1, .int .i64 ((k : Nat) : Int)] (w.drewN m) fun e w' => e = .returned (.int .i64 (key k)) ∧ ∃ m', w' = (w.drewN m).drewN m') := hM
 have hcell := (fun (i : Nat) x (hx : (asInts q)[i]? = some x) => (h2.cellAt i (by have := lt_of_get hx; rw [asInts_length] at this; omega)).trans (ints_get hx) : ∀ (i : Nat) x, (asInts q)[i]? = some x → w.cell? ⟨r, i, none⟩ = some (.int .i64 x))
 have H2 : Hid (w.ownsRow B 3 1 (.slice (some ⟨r, 0, none⟩) (asInts q).length cap) (asInts q).length (ints (asInts q)) ∧ cap ≤ maxLen ∧ (asInts q).length ≤ cap) := by rw [asInts_length]; exact ⟨h2, hcm, hlc⟩
 have HC : Hid (∀ i, i < q.length → ∃ k, q[i]? = some k ∧ q.getD i 0 = k ∧ k < n ∧ w.cell? ⟨r, i, none⟩ = some (.int .i64 ((k : Nat) : Int))) := fun i hi => by
  obtain ⟨k, hk, hmem⟩ := get_some q i hi
  exact ⟨k, hk, by simp [List.getD, hk], hq k hmem, hcell i _ (asInts_get hk)⟩
 unfold maxLen at hcm
 clear h2 hq hM hcell
 obtain ⟨l, hl⟩ : ∃ l, q.length = l := ⟨_, rfl⟩
 have HL : Hid (q.length = l) := hl
 rw [hl] at hn h0 hlc HC ⊢
 clear hl
 go_enter Tryz.func159, Tryz.ntmps159
 go_wp2_with fail
 go_loopw [6, 11] (fun fi i wr => ∃ k : Nat, k ≤ l ∧ i = .int .i64 k ∧ fi = .int .i64 (firstLeast key q k) ∧ ∃ m, wr = w.drewN m) (fun _ i _ => l - (intOf i).toNat)
 case atStart => exact ⟨0, Nat.zero_le _, rfl, rfl, 0, rfl⟩
 case round =>
  obtain ⟨k, hk, rfl, rfl, m, hm⟩ := hrel
  have HW : Hid (wr = w.drewN m) := hm
  by_cases hkl : k < l
  ·
   have hfl : firstLeast key q k < l := by rw [← HL.out]; exact firstLeast_lt key (by rw [HL.out]; exact h0) (by rw [HL.out]; exact hk)
   obtain ⟨fl, hfe⟩ : ∃ fl, firstLeast key q k = fl := ⟨_, rfl⟩
   obtain ⟨a, ha, had, han, ca⟩ := HC.out k hkl
   rw [hfe] at hfl ⊢
   obtain ⟨b, hb, hbd, hbn, cb⟩ := HC.out fl hfl
   have HE : Hid (firstLeast key q (k + 1) = if key a < key b then k else fl) := by
    show firstLeast key q (k + 1) = _
    simp only [firstLeast, had, hfe, hbd]
   have da : wr.cell? ⟨r, k, none⟩ = some (.int .i64 (a : Int)) := by rw [hm]; exact ca
   have db : wr.cell? ⟨r, fl, none⟩ = some (.int .i64 (b : Int)) := by rw [hm]; exact cb
   have HMa : Hid (∀ j, Calls Tryz.prog f #[x1, .int .i64 ((a : Nat) : Int)] (wr.drewN j) fun e w' => e = .returned (.int .i64 (key a)) ∧ ∃ m', w' = (wr.drewN j).drewN m') := fun j => by
    have := HM.out (m + j) a han
    rw [hm, World.drewN_drewN]
    exact this
   have HMb : Hid (∀ j, Calls Tryz.prog f #[x1, .int .i64 ((b : Nat) : Int)] (wr.drewN j) fun e w' => e = .returned (.int .i64 (key b)) ∧ ∃ m', w' = (wr.drewN j).drewN m') := fun j => by
    have := HM.out (m + j) b hbn
    rw [hm, World.drewN_drewN]
    exact this
   clear hfe ha had hb hbd ca cb hm
   by_cases hlt : key a < key b
   ·
    have HE' : Hid (firstLeast key q (k + 1) = k) := HE.out.trans (if_pos hlt)
    go_wp2_with fail
    go_quiet (first
     | exact Calls.quiet_of (HMa.out _)
     | exact Calls.quiet_of (HMb.out _))
    go_wp2_with fail
    go_roundw
    case rel => exact ⟨k + 1, by omega, by go_num, by rw [HE'.out], m + nq, by rw [HW.out, World.drewN_drewN]⟩
    case measure => simp [intOf]; omega
   ·
    have HE' : Hid (firstLeast key q (k + 1) = fl) := HE.out.trans (if_neg hlt)
    go_wp2_with fail
    go_quiet (first
     | exact Calls.quiet_of (HMa.out _)
     | exact Calls.quiet_of (HMb.out _))
    go_wp2_with fail
    go_roundw
    case rel => exact ⟨k + 1, by omega, by go_num, by rw [HE'.out], m + nq, by rw [HW.out, World.drewN_drewN]⟩
    case measure => simp [intOf]; omega
  ·
   obtain rfl : k = l := by omega
   have hfl : firstLeast key q k < k := by rw [← HL.out]; exact firstLeast_lt key (by rw [HL.out]; exact h0) (Nat.le_refl _)
   obtain ⟨fl, hfe⟩ : ∃ fl, firstLeast key q k = fl := ⟨_, rfl⟩
   rw [hfe] at hfl ⊢
   obtain ⟨b, hb, hbd, hbn, cb⟩ := HC.out fl hfl
   have db : wr.cell? ⟨r, fl, none⟩ = some (.int .i64 (b : Int)) := by rw [hm]; exact cb
   have HPick : Hid (pickAt key q = fl ∧ q.getD fl 0 = b) := ⟨by unfold pickAt; rw [HL.out]; exact hfe, hbd⟩
   have HBw : Hid (But (fun j => j = r) w wr) := by
    show But _ _ _
    rw [hm]
    exact .ofBelow (below_drewN (Below.refl _ _) _)
   have HDel : Hid (Calls Tryz.prog 165 #[.slice (some ⟨r, 0, none⟩) k cap, .int .i64 (fl : Int), .int .i64 ((fl : Int) + 1)] wr fun e w' => e = .returned (.slice (some ⟨r, 0, none⟩) (k - 1) cap) ∧ w'.ownsRow B 3 1 (.slice (some ⟨r, 0, none⟩) (k - 1) cap) (k - 1) (ints (asInts (q.eraseIdx fl))) ∧ But (fun j => j = r) wr w') := by
    have hown : wr.ownsRow B 3 1 (.slice (some ⟨r, 0, none⟩) (asInts q).length cap) (asInts q).length (ints (asInts q)) := by rw [hm]; exact H2.out.1
    have hd := delete_one B r cap fl (asInts q) wr hown (by rw [asInts_length, HL.out]; exact hfl) H2.out.2.2 H2.out.2.1
    rw [asInts_length, HL.out, asInts_erase] at hd
    exact hd
   clear hfe hb hbd cb hm
   go_wp2_with fail
   refine HDel.out.mono ?_
   rintro e w2 ⟨rfl, hown2, hbut2⟩
   have HO : Hid (w2.ownsRow B 3 1 (.slice (some ⟨r, 0, none⟩) (k - 1) cap) (k - 1) (ints (asInts (q.eraseIdx fl))) ∧ But (fun j => j = r) wr w2) := ⟨hown2, hbut2⟩
   clear hown2 hbut2
   go_wp2_with fail
   go_ret2
   rw [HPick.out.1]
   unfold LeastTaken
   rw [HL.out, HPick.out.2]
   exact ⟨rfl, HO.out.1, HBw.out.trans HO.out.2⟩
end Go.Proofs.YtibhkijaafdkoaaGreatDoor
