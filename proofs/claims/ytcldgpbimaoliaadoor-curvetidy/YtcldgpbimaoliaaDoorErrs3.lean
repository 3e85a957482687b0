/- package plain's Code, by its contracts. -/
import Derived.Test.YtcldgpbimaoliaaDoorErrs2
namespace Go.Proofs.YtcldgpbimaoliaaDoor
open Go.RowKit Go.Extern.Stop Go.Stop Go.Extern

/-- The nine errors of package api, and package errors' own type. -/
structure Errs9 (w : World) (ad : Nat → Addr) : Prop where
  typ : w.cell? ⟨9, 0, none⟩ = some (.iface 145 (.agg #[.pointer (some ⟨10, 25, none⟩)]))
  c0 : w.cell? ⟨0, 0, none⟩ = some (.iface 98 (.pointer (some (ad 0))))
  c1 : w.cell? ⟨1, 0, none⟩ = some (.iface 98 (.pointer (some (ad 1))))
  c2 : w.cell? ⟨2, 0, none⟩ = some (.iface 98 (.pointer (some (ad 2))))
  c3 : w.cell? ⟨3, 0, none⟩ = some (.iface 98 (.pointer (some (ad 3))))
  c4 : w.cell? ⟨4, 0, none⟩ = some (.iface 98 (.pointer (some (ad 4))))
  c5 : w.cell? ⟨5, 0, none⟩ = some (.iface 98 (.pointer (some (ad 5))))
  c6 : w.cell? ⟨6, 0, none⟩ = some (.iface 98 (.pointer (some (ad 6))))
  c7 : w.cell? ⟨7, 0, none⟩ = some (.iface 98 (.pointer (some (ad 7))))
  c8 : w.cell? ⟨8, 0, none⟩ = some (.iface 98 (.pointer (some (ad 8))))
  ne : ∀ i j, i < 9 → j < 9 → i ≠ j → ad i ≠ ad j
  blk : ∀ i, i < 9 → ∃ c t, w.heap[(ad i).block]? = some (.cells c t (0, 0))

theorem block_later {w w' : World} {b : Nat} {o : Obj} (hb : Below w.heap.size w w') (h : w.heap[b]? = some o) : w'.heap[b]? = some o := by
  rw [hb.block b ?_]; exact h
  rcases Nat.lt_or_ge b w.heap.size with h' | h'
  · exact h'
  · simp [Array.getElem?_eq_none h'] at h
theorem Errs9.below {w w' : World} {ad : Nat → Addr} (h : Errs9 w ad) (hb : Below w.heap.size w w') : Errs9 w' ad :=
  ⟨cell_later hb h.typ, cell_later hb h.c0, cell_later hb h.c1, cell_later hb h.c2, cell_later hb h.c3, cell_later hb h.c4, cell_later hb h.c5, cell_later hb h.c6, cell_later hb h.c7, cell_later hb h.c8, h.ne, fun i hi => by
    obtain ⟨c, t, e⟩ := h.blk i hi; exact ⟨c, t, block_later hb e⟩⟩

/-- The row that Code makes of the nine. -/
abbrev nine (ad : Nat → Addr) : Array Value := #[.iface 98 (.pointer (some (ad 0))), .iface 98 (.pointer (some (ad 1))), .iface 98 (.pointer (some (ad 2))), .iface 98 (.pointer (some (ad 3))), .iface 98 (.pointer (some (ad 4))), .iface 98 (.pointer (some (ad 5))), .iface 98 (.pointer (some (ad 6))), .iface 98 (.pointer (some (ad 7))), .iface 98 (.pointer (some (ad 8)))]
theorem nine_at (ad : Nat → Addr) (w : World) (k : Nat) (hk : k < 9) : (w.alloc (.cells (nine ad) 25)).cell? ⟨w.heap.size, k, none⟩ = some (.iface 98 (.pointer (some (ad k)))) := by
  rw [World.cell?_alloc_at _ _ _ _ rfl]
  match k, hk with
  | 0, _ => rfl
  | 1, _ => rfl
  | 2, _ => rfl
  | 3, _ => rfl
  | 4, _ => rfl
  | 5, _ => rfl
  | 6, _ => rfl
  | 7, _ => rfl
  | 8, _ => rfl
  | k + 9, h => omega

theorem set_at (w : World) (o1 o2 o3 o4 : Obj) (v : Value) : (((((w.alloc (.cells #[.pointer none] 29)).alloc o1).alloc o2).alloc o3).alloc o4 |>.setCell ⟨w.heap.size, 0, none⟩ v).cell? ⟨w.heap.size, 0, none⟩ = some v :=
  World.cell?_setCell_same _ _ _ (u := .pointer none) (by
    rw [World.cell?_alloc_lt _ _ ⟨w.heap.size, 0, none⟩ (by simp; omega), World.cell?_alloc_lt _ _ ⟨w.heap.size, 0, none⟩ (by simp; omega), World.cell?_alloc_lt _ _ ⟨w.heap.size, 0, none⟩ (by simp; omega), World.cell?_alloc_lt _ _ ⟨w.heap.size, 0, none⟩ (by simp), World.cell?_alloc_at _ _ _ _ rfl]; rfl)
theorem code_nil (w : World) : Calls Tryd.prog 16 #[.nilIface] w fun e w' => e = .returned (.tuple #[.int .i64 0, .int .i64 (-1)]) ∧ w' = w := by
  go_enter Tryd.func16, Tryd.ntmps16
  go_wp2
  go_ret2
  exact ⟨rfl, rfl⟩

set_option maxHeartbeats 1000000 in
theorem code_sent (ad : Nat → Addr) (k : Nat) (hk : k < 9) (w : World) (he : Errs9 w ad) :
    Calls Tryd.prog 16 #[.iface 98 (.pointer (some (ad k)))] w fun e w' => e = .returned (.tuple #[.int .i64 (k + 1), .int .i64 (-1)]) ∧ Below w.heap.size w w' := by
  have hb0 : Below w.heap.size w (w.alloc (.cells #[.pointer none] 29)) := (Below.refl _ _).alloc (Nat.le_refl _) _
  have HE : Hid (Errs9 w ad) := he
  have HB0 : Hid (Below w.heap.size w (w.alloc (.cells #[.pointer none] 29))) := hb0
  clear he hb0
  go_enter Tryd.func16, Tryd.ntmps16
  go_wp2_with fail
  refine (as_miss (ad k) _ _ (HE.out.below HB0.out).typ).mono ?_
  rintro e w1 ⟨rfl, hw1⟩
  have hb1 : Below w.heap.size w w1 := by
    rw [hw1]
    exact ((HB0.out.alloc (by simp) _).alloc (by simp; omega) _).alloc (by simp; omega) _
  have HB1 : Hid (Below w.heap.size w w1) := hb1
  have he1 := HE.out.below hb1
  have h0 := he1.c0
  have h1 := he1.c1
  have h2 := he1.c2
  have h3 := he1.c3
  have h4 := he1.c4
  have h5 := he1.c5
  have h6 := he1.c6
  have h7 := he1.c7
  have h8 := he1.c8
  have HE1 : Hid (Errs9 w1 ad) := he1
  clear hw1 hb1 he1
  go_wp2_with fail
  clear h0 h1 h2 h3 h4 h5 h6 h7 h8
  have hcell := nine_at ad w1
  have hb2 : Below w.heap.size w (w1.alloc (.cells (nine ad) 25)) := HB1.out.alloc HB1.out.size _
  have he2 : Errs9 (w1.alloc (.cells (nine ad) 25)) ad := HE1.out.below ((Below.refl _ _).alloc (Nat.le_refl _) _)
  generalize w1.alloc (.cells (nine ad) 25) = W2 at *
  have HC : Hid (∀ j, j < 9 → W2.cell? ⟨w1.heap.size, j, none⟩ = some (.iface 98 (.pointer (some (ad j))))) := hcell
  have HB2 : Hid (Below w.heap.size w W2) := hb2
  have HE2 : Hid (Errs9 W2 ad) := he2
  clear hcell hb2 he2
  go_loop [3, 27] (fun s i => s = .int .i64 (-1) ∧ ∃ j : Nat, j ≤ k ∧ i = .int .i64 j) (fun _ i => 9 - (intOf i).toNat)
  case atStart => exact ⟨rfl, 0, Nat.zero_le _, rfl⟩
  case round =>
    obtain ⟨rfl, j, hj, rfl⟩ := hrel
    have hc := HC.out j (by omega)
    by_cases hjk : j < k
    · obtain ⟨ca, ta, ba⟩ := HE2.out.blk k hk
      obtain ⟨cb, tb, bb⟩ := HE2.out.blk j (by omega)
      have HI : Hid (Calls Tryd.prog 56 #[.iface 98 (.pointer (some (ad k))), .iface 98 (.pointer (some (ad j)))] W2 fun e w' => e = .returned (.bool false) ∧ w' = W2) := is_other (ad k) (ad j) ca cb ta tb W2 (HE2.out.ne k j hk (by omega) (by omega)) ba bb
      clear ba bb
      go_wp2_with (go_at_call 56; refine HI.out.mono ?_; rintro e w' ⟨rfl, rfl⟩)
      go_round
      case rel => exact ⟨rfl, j + 1, by omega, by go_num⟩
      case measure => simp [intOf]; omega
    · obtain rfl : j = k := by omega
      go_wp2_with (go_at_call 56; refine (is_same (ad j) _).mono ?_; rintro e w' ⟨rfl, rfl⟩)
      go_ret2
      exact ⟨rfl, HB2.out⟩

set_option maxHeartbeats 1000000 in
theorem code_fault (ad : Nat → Addr) (k : Nat) (hk : k < 9) (n : Int) (pb : Nat) (w : World) (he : Errs9 w ad) (hp0 : w.cell? ⟨pb, 0, none⟩ = some (.int .i64 n)) (hp1 : w.cell? ⟨pb, 1, none⟩ = some (.iface 98 (.pointer (some (ad k))))) :
    Calls Tryd.prog 16 #[.iface 29 (.pointer (some ⟨pb, 0, none⟩))] w fun e w' => e = .returned (.tuple #[.int .i64 (k + 1), .int .i64 n]) ∧ Below w.heap.size w w' := by
  have hb0 : Below w.heap.size w (w.alloc (.cells #[.pointer none] 29)) := (Below.refl _ _).alloc (Nat.le_refl _) _
  have HE : Hid (Errs9 w ad) := he
  have HB0 : Hid (Below w.heap.size w (w.alloc (.cells #[.pointer none] 29))) := hb0
  have HP0 : Hid (w.cell? ⟨pb, 0, none⟩ = some (.int .i64 n)) := hp0
  have HP1 : Hid (w.cell? ⟨pb, 1, none⟩ = some (.iface 98 (.pointer (some (ad k))))) := hp1
  clear he hb0 hp0 hp1
  go_enter Tryd.func16, Tryd.ntmps16
  go_wp2_with fail
  refine (as_hit ⟨pb, 0, none⟩ ⟨w.heap.size, 0, none⟩ (.pointer none) _ (HE.out.below HB0.out).typ (by simp) (by simp)).mono ?_
  rintro e w1 ⟨rfl, hw1⟩
  have hb1 : Below w.heap.size w w1 := by
    rw [hw1]
    exact ((((HB0.out.alloc (by simp) _).alloc (by simp; omega) _).alloc (by simp; omega) _).alloc (by simp; omega) _).setCell (Nat.le_refl _) _
  have ht1 : w1.cell? ⟨w.heap.size, 0, none⟩ = some (.pointer (some ⟨pb, 0, none⟩)) := by
    rw [hw1]
    exact set_at w _ _ _ _ _
  have HB1 : Hid (Below w.heap.size w w1) := hb1
  have he1 := HE.out.below hb1
  have hq0 : w1.cell? ⟨pb, 0, none⟩ = some (.int .i64 n) := cell_later hb1 HP0.out
  have h0 := he1.c0
  have h1 := he1.c1
  have h2 := he1.c2
  have h3 := he1.c3
  have h4 := he1.c4
  have h5 := he1.c5
  have h6 := he1.c6
  have h7 := he1.c7
  have h8 := he1.c8
  have HE1 : Hid (Errs9 w1 ad) := he1
  clear hw1 hb1 he1
  go_wp2_with fail
  clear ht1 hq0 h0 h1 h2 h3 h4 h5 h6 h7 h8
  have hcell := nine_at ad w1
  have hb2 : Below w.heap.size w (w1.alloc (.cells (nine ad) 25)) := HB1.out.alloc HB1.out.size _
  have he2 : Errs9 (w1.alloc (.cells (nine ad) 25)) ad := HE1.out.below ((Below.refl _ _).alloc (Nat.le_refl _) _)
  generalize w1.alloc (.cells (nine ad) 25) = W2 at *
  have HC : Hid (∀ j, j < 9 → W2.cell? ⟨w1.heap.size, j, none⟩ = some (.iface 98 (.pointer (some (ad j))))) := hcell
  have HB2 : Hid (Below w.heap.size w W2) := hb2
  have HP2 : Hid (W2.cell? ⟨pb, 1, none⟩ = some (.iface 98 (.pointer (some (ad k))))) := cell_later hb2 HP1.out
  have HE2 : Hid (Errs9 W2 ad) := he2
  clear hcell hb2 he2
  go_loop [3, 27] (fun s i => s = .int .i64 n ∧ ∃ j : Nat, j ≤ k ∧ i = .int .i64 j) (fun _ i => 9 - (intOf i).toNat)
  case atStart => exact ⟨rfl, 0, Nat.zero_le _, rfl⟩
  case round =>
    obtain ⟨rfl, j, hj, rfl⟩ := hrel
    have hc := HC.out j (by omega)
    by_cases hjk : j < k
    · obtain ⟨ca, ta, ba⟩ := HE2.out.blk k hk
      obtain ⟨cb, tb, bb⟩ := HE2.out.blk j (by omega)
      have HI : Hid (Calls Tryd.prog 56 #[.iface 29 (.pointer (some ⟨pb, 0, none⟩)), .iface 98 (.pointer (some (ad j)))] W2 fun e w' => e = .returned (.bool false) ∧ w' = W2) := is_fault_other pb (ad j) (ad k) ca cb ta tb W2 HP2.out (HE2.out.ne k j hk (by omega) (by omega)) ba bb
      clear ba bb
      go_wp2_with (go_at_call 56; refine HI.out.mono ?_; rintro e w' ⟨rfl, rfl⟩)
      go_round
      case rel => exact ⟨rfl, j + 1, by omega, by go_num⟩
      case measure => simp [intOf]; omega
    · obtain rfl : j = k := by omega
      go_wp2_with (go_at_call 56; refine (is_fault_same pb (ad j) _ HP2.out).mono ?_; rintro e w' ⟨rfl, rfl⟩)
      go_ret2
      exact ⟨rfl, HB2.out⟩

set_option maxHeartbeats 1000000 in
/-- An error of errors.New's make that is none of the nine. -/
theorem code_other (ad : Nat → Addr) (a : Addr) (w : World) (he : Errs9 w ad) (hne : ∀ j, j < 9 → a ≠ ad j) (hba : ∃ c t, w.heap[a.block]? = some (.cells c t (0, 0))) :
    Calls Tryd.prog 16 #[.iface 98 (.pointer (some a))] w fun e w' => e = .returned (.tuple #[.int .i64 (-1), .int .i64 (-1)]) ∧ Below w.heap.size w w' := by
  have hb0 : Below w.heap.size w (w.alloc (.cells #[.pointer none] 29)) := (Below.refl _ _).alloc (Nat.le_refl _) _
  have HE : Hid (Errs9 w ad) := he
  have HB0 : Hid (Below w.heap.size w (w.alloc (.cells #[.pointer none] 29))) := hb0
  have HN : Hid (∀ j, j < 9 → a ≠ ad j) := hne
  have HA : Hid (∃ c t, w.heap[a.block]? = some (.cells c t (0, 0))) := hba
  clear he hb0 hne hba
  go_enter Tryd.func16, Tryd.ntmps16
  go_wp2_with fail
  refine (as_miss a _ _ (HE.out.below HB0.out).typ).mono ?_
  rintro e w1 ⟨rfl, hw1⟩
  have hb1 : Below w.heap.size w w1 := by
    rw [hw1]
    exact ((HB0.out.alloc (by simp) _).alloc (by simp; omega) _).alloc (by simp; omega) _
  have HB1 : Hid (Below w.heap.size w w1) := hb1
  have he1 := HE.out.below hb1
  have h0 := he1.c0
  have h1 := he1.c1
  have h2 := he1.c2
  have h3 := he1.c3
  have h4 := he1.c4
  have h5 := he1.c5
  have h6 := he1.c6
  have h7 := he1.c7
  have h8 := he1.c8
  have HE1 : Hid (Errs9 w1 ad) := he1
  clear hw1 hb1 he1
  go_wp2_with fail
  clear h0 h1 h2 h3 h4 h5 h6 h7 h8
  have hcell := nine_at ad w1
  have hb2 : Below w.heap.size w (w1.alloc (.cells (nine ad) 25)) := HB1.out.alloc HB1.out.size _
  have he2 : Errs9 (w1.alloc (.cells (nine ad) 25)) ad := HE1.out.below ((Below.refl _ _).alloc (Nat.le_refl _) _)
  generalize w1.alloc (.cells (nine ad) 25) = W2 at *
  have HC : Hid (∀ j, j < 9 → W2.cell? ⟨w1.heap.size, j, none⟩ = some (.iface 98 (.pointer (some (ad j))))) := hcell
  have HB2 : Hid (Below w.heap.size w W2) := hb2
  have HA2 : Hid (∃ c t, W2.heap[a.block]? = some (.cells c t (0, 0))) := by obtain ⟨c, t, h⟩ := HA.out; exact ⟨c, t, block_later hb2 h⟩
  have HE2 : Hid (Errs9 W2 ad) := he2
  clear hcell hb2 he2
  go_loop [3, 27] (fun s i => s = .int .i64 (-1) ∧ ∃ j : Nat, j ≤ 9 ∧ i = .int .i64 j) (fun _ i => 9 - (intOf i).toNat)
  case atStart => exact ⟨rfl, 0, Nat.zero_le _, rfl⟩
  case round =>
    obtain ⟨rfl, j, hj, rfl⟩ := hrel
    by_cases hjk : j < 9
    · have hc := HC.out j (by omega)
      obtain ⟨ca, ta, ba⟩ := HA2.out
      obtain ⟨cb, tb, bb⟩ := HE2.out.blk j (by omega)
      have HI : Hid (Calls Tryd.prog 56 #[.iface 98 (.pointer (some a)), .iface 98 (.pointer (some (ad j)))] W2 fun e w' => e = .returned (.bool false) ∧ w' = W2) := is_other a (ad j) ca cb ta tb W2 (HN.out j hjk) ba bb
      clear ba bb
      go_wp2_with (go_at_call 56; refine HI.out.mono ?_; rintro e w' ⟨rfl, rfl⟩)
      go_round
      case rel => exact ⟨rfl, j + 1, by omega, by go_num⟩
      case measure => simp [intOf]; omega
    · go_wp2_with fail
      go_ret2
      exact ⟨rfl, HB2.out⟩
end Go.Proofs.YtcldgpbimaoliaaDoor
