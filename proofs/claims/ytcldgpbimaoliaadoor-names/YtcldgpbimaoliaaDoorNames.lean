/- The walk of Names. -/
import Derived.Test.YtcldgpbimaoliaaDoorLaws
namespace Go.Proofs.YtcldgpbimaoliaaDoor
open Go.RowKit

/-- The document's numbers. -/
abbrev numbers : Array Value := #[.int .i64 8, .int .i64 300, .int .i64 1500, .int .i64 1099511627776, .int .i64 20000, .int .i64 100000, .int .i64 6, .int .i64 1000, .int .i64 3000, .int .i64 100, .int .i64 16, .int .i64 12]
def number : Nat → Int
  | 0 => 8 | 1 => 300 | 2 => 1500 | 3 => 1099511627776 | 4 => 20000 | 5 => 100000 | 6 => 6 | 7 => 1000 | 8 => 3000 | 9 => 100 | 10 => 16 | _ => 12
theorem numbers_at (k : Nat) (hk : k < 12) : numbers[k]? = some (.int .i64 (number k)) := by
  match k, hk with
  | 0, _ => rfl
  | 1, _ => rfl
  | 2, _ => rfl
  | 3, _ => rfl
  | 4, _ => rfl
  | 5, _ => rfl
  | 6, _ => rfl
  | 7, _ => rfl
  | 8, _ => rfl
  | 9, _ => rfl
  | 10, _ => rfl
  | 11, _ => rfl
  | k + 12, h => omega
theorem cell_new (w : World) (cs : Array Value) (t : TypeId) (k : Nat) (v : Value) (h : cs[k]? = some v) : (w.alloc (.cells cs t)).cell? ⟨w.heap.size, 0 + k, none⟩ = some v := by
  rw [World.cell?_alloc_at _ _ _ _ rfl, Nat.zero_add]; exact h

theorem new_any (s : ByteArray) (w : World) : Calls Tryd.prog 18 #[.string s] w fun e w' => e = .returned (.iface 98 (.pointer (some ⟨w.heap.size, 0, none⟩))) ∧ w' = w.alloc (.cells #[.string s] 100) := by
  go_enter Tryd.func18, Tryd.ntmps18
  go_wp2
  go_ret
  exact ⟨rfl, rfl⟩

set_option maxHeartbeats 1000000 in
theorem names_any (ad : Nat → Addr) (w : World) (he : Errs9 w ad) :
    Calls Tryd.prog 3 #[] w fun e w' => e = .returned (.bool true) ∧ Below w.heap.size w w' := by
  have g1 : ∀ i, i < 12 → ((w.alloc (.cells numbers 3)).alloc (.cells numbers 3)).cell? ⟨w.heap.size, 0 + i, none⟩ = some (.int .i64 (number i)) := fun i hi => by
    rw [World.cell?_alloc_lt _ _ ⟨w.heap.size, 0 + i, none⟩ (by simp)]; exact cell_new w _ _ i _ (numbers_at i hi)
  have g2 : ∀ i, i < 12 → ((w.alloc (.cells numbers 3)).alloc (.cells numbers 3)).cell? ⟨w.heap.size + 1, 0 + i, none⟩ = some (.int .i64 (number i)) := fun i hi => by
    have := cell_new (w.alloc (.cells numbers 3)) numbers 3 i _ (numbers_at i hi)
    simpa using this
  have hb0 : Below w.heap.size w ((w.alloc (.cells numbers 3)).alloc (.cells numbers 3)) := ((Below.refl _ _).alloc (Nat.le_refl _) _).alloc (by simp) _
  have HS : Hid (Calls Tryd.prog 15 #[.slice (some ⟨w.heap.size, 0, none⟩) 12 12, .slice (some ⟨w.heap.size + 1, 0, none⟩) 12 12] ((w.alloc (.cells numbers 3)).alloc (.cells numbers 3)) fun e w' => e = .returned (.bool true) ∧ Below ((w.alloc (.cells numbers 3)).alloc (.cells numbers 3)).heap.size ((w.alloc (.cells numbers 3)).alloc (.cells numbers 3)) w') := (sameInts_yes w.heap.size 0 (w.heap.size + 1) 0 12 12 12 number _ (by decide) g1 g2)
  have HE : Hid (Errs9 w ad) := he
  have HB0 : Hid (Below w.heap.size w ((w.alloc (.cells numbers 3)).alloc (.cells numbers 3))) := hb0
  clear g1 g2 he hb0
  go_enter Tryd.func3, Tryd.ntmps3
  go_wp2_with fail
  refine HS.out.mono ?_
  rintro e w1 ⟨rfl, hb1⟩
  have HB1 : Hid (Below w.heap.size w w1) := HB0.out.trans (hb1.mono HB0.out.size)
  clear hb1
  have he1 := HE.out.below HB1.out
  have h0 := he1.c0
  have h1 := he1.c1
  have h2 := he1.c2
  have h3 := he1.c3
  have h4 := he1.c4
  have h5 := he1.c5
  have h6 := he1.c6
  have h7 := he1.c7
  have h8 := he1.c8
  have HE1 : Hid (Errs9 w1 ad) := he1
  clear he1
  go_wp2_with fail
  clear h0 h1 h2 h3 h4 h5 h6 h7 h8
  have hcell := nine_at ad w1
  have hb2 : Below w.heap.size w (w1.alloc (.cells (nine ad) 25)) := HB1.out.alloc HB1.out.size _
  have he2 : Errs9 (w1.alloc (.cells (nine ad) 25)) ad := HE1.out.below ((Below.refl _ _).alloc (Nat.le_refl _) _)
  have hsz : w1.heap.size < (w1.alloc (.cells (nine ad) 25)).heap.size := by simp
  generalize w1.alloc (.cells (nine ad) 25) = W2 at *
  have HC : Hid (∀ j, j < 9 → W2.cell? ⟨w1.heap.size, j, none⟩ = some (.iface 98 (.pointer (some (ad j))))) := hcell
  have HB2 : Hid (Below w.heap.size w W2) := hb2
  have HE2 : Hid (Errs9 W2 ad) := he2
  clear hcell hb2 he2
  go_loopw [4] (fun i wr => ∃ k : Nat, k ≤ 9 ∧ i = .int .i64 k ∧ Below W2.heap.size W2 wr) (fun i _ => 9 - (intOf i).toNat)
  case atStart => exact ⟨0, Nat.zero_le _, rfl, Below.refl _ _⟩
  case round =>
    obtain ⟨k, hk, rfl, hbr⟩ := hrel
    have HBR : Hid (Below W2.heap.size W2 wr) := hbr
    by_cases hkn : k < 9
    · have hc := cell_later hbr (HC.out k hkn)
      have HER : Hid (Errs9 wr ad) := HE2.out.below hbr
      clear hbr
      go_wp2_with fail
      refine (codeIs_fault (w := wr.alloc (.cells #[.int .i64 7, .iface 98 (.pointer (some (ad k)))] 31)) (HER.out.below ((Below.refl _ _).alloc (Nat.le_refl _) _)) k hkn 7 wr.heap.size (by simp) (by simp) _ (Below.refl _ _)).mono ?_
      rintro e w3 ⟨rfl, hb3⟩
      have HB3 : Hid (Below wr.heap.size wr w3) := ((Below.refl _ _).alloc (Nat.le_refl _) _).trans (hb3.mono (by simp))
      have hc3 := cell_later HB3.out hc
      clear hb3
      go_wp2_with fail
      refine (coded_yes _ ((k : Int) + 1) w3 (codeIs_sent (HER.out.below HB3.out) k hkn)).mono ?_
      rintro e w4 ⟨rfl, hb4⟩
      have HB4 : Hid (Below wr.heap.size wr w4) := HB3.out.trans (hb4.mono HB3.out.size)
      clear hb4
      go_wp2_with fail
      go_roundw
      case rel => exact ⟨k + 1, by omega, by go_num, HBR.out.trans (HB4.out.mono HBR.out.size)⟩
      case measure => simp [intOf]; omega
    · have HER : Hid (Errs9 wr ad) := HE2.out.below hbr
      clear hbr
      go_wp2_with fail
      refine (new_any _ _).mono ?_
      rintro e w3 ⟨rfl, hw3⟩
      have HB3 : Hid (Below wr.heap.size wr w3) := by show Below _ _ _; rw [hw3]; exact (Below.refl _ _).alloc (Nat.le_refl _) _
      have hblk : ∃ c t, w3.heap[wr.heap.size]? = some (.cells c t (0, 0)) := by rw [hw3]; exact ⟨_, _, by show (wr.heap.push _)[wr.heap.size]? = _; rw [Array.getElem?_push_size]⟩
      have hne : ∀ j, j < 9 → (⟨wr.heap.size, 0, none⟩ : Addr) ≠ ad j := fun j hj e => by
        obtain ⟨c, t, h⟩ := HER.out.blk j hj
        rw [← e] at h
        simp at h
      have HX : Hid (CodeIs w3 (.iface 98 (.pointer (some ⟨wr.heap.size, 0, none⟩))) (-1) (-1)) := codeIs_other (HER.out.below HB3.out) _ hne hblk
      clear hw3 hblk hne
      go_wp2_with fail
      refine (HX.out _ (Below.refl _ _)).mono ?_
      rintro e w4 ⟨rfl, hb4⟩
      have HB4 : Hid (Below wr.heap.size wr w4) := HB3.out.trans (hb4.mono HB3.out.size)
      clear hb4
      go_wp2_with fail
      refine (coded_yes _ 0 _ (codeIs_nil _)).mono ?_
      rintro e w5 ⟨rfl, hb5⟩
      go_wp2_with fail
      go_ret
      have h5 : Below wr.heap.size wr w5 := HB4.out.trans (hb5.mono HB4.out.size)
      have h6 : Below W2.heap.size W2 w5 := HBR.out.trans (h5.mono HBR.out.size)
      exact ⟨rfl, HB2.out.trans (h6.mono HB2.out.size)⟩
end Go.Proofs.YtcldgpbimaoliaaDoor
