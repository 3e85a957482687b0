/- Own facts, put together: no statement of its own. -/
import Derived.Test.YtibhkijaafdkoaaGreatDoorR01
namespace Go.Proofs.YtibhkijaafdkoaaGreatDoor
open Go.RowKit Go.Extern.Stop Go.Stop Go.Extern
structure Errs9 (w : World) (ad : Nat → Addr) : Prop where
 typ : w.cell? ⟨9, 0, none⟩ = some (.iface 207 (.agg #[.pointer (some ⟨10, 29, none⟩)]))
 c0 : w.cell? ⟨2, 0, none⟩ = some (.iface 271 (.pointer (some (ad 0))))
 c1 : w.cell? ⟨3, 0, none⟩ = some (.iface 271 (.pointer (some (ad 1))))
 c2 : w.cell? ⟨4, 0, none⟩ = some (.iface 271 (.pointer (some (ad 2))))
 c3 : w.cell? ⟨0, 0, none⟩ = some (.iface 271 (.pointer (some (ad 3))))
 c4 : w.cell? ⟨5, 0, none⟩ = some (.iface 271 (.pointer (some (ad 4))))
 c5 : w.cell? ⟨6, 0, none⟩ = some (.iface 271 (.pointer (some (ad 5))))
 c6 : w.cell? ⟨7, 0, none⟩ = some (.iface 271 (.pointer (some (ad 6))))
 c7 : w.cell? ⟨8, 0, none⟩ = some (.iface 271 (.pointer (some (ad 7))))
 c8 : w.cell? ⟨1, 0, none⟩ = some (.iface 271 (.pointer (some (ad 8))))
 ne : ∀ i j, i < 9 → j < 9 → i ≠ j → ad i ≠ ad j
 blk : ∀ i, i < 9 → ∃ c t, w.heap[(ad i).block]? = some (.cells c t (0, 0))
theorem block_later {w w' : World} {b : Nat} {o : Obj} (hb : Below w.heap.size w w') (h : w.heap[b]? = some o) : w'.heap[b]? = some o := by
 rw [hb.block b ?_]; exact h
 rcases Nat.lt_or_ge b w.heap.size with h' | h'
 · exact h'
 · simp [Array.getElem?_eq_none h'] at h
theorem Errs9.below {w w' : World} {ad : Nat → Addr} (h : Errs9 w ad) (hb : Below w.heap.size w w') : Errs9 w' ad :=
 ⟨cell_later hb h.typ, cell_later hb h.c0, cell_later hb h.c1, cell_later hb h.c2, cell_later hb h.c3, cell_later hb h.c4, cell_later hb h.c5, cell_later hb h.c6, cell_later hb h.c7, cell_later hb h.c8, h.ne, fun i hi => by
  obtain ⟨c, t, e⟩ := h.blk i hi; exact ⟨c, t, block_later hb e⟩⟩
abbrev nine (ad : Nat → Addr) : Array Value := #[.iface 271 (.pointer (some (ad 0))), .iface 271 (.pointer (some (ad 1))), .iface 271 (.pointer (some (ad 2))), .iface 271 (.pointer (some (ad 3))), .iface 271 (.pointer (some (ad 4))), .iface 271 (.pointer (some (ad 5))), .iface 271 (.pointer (some (ad 6))), .iface 271 (.pointer (some (ad 7))), .iface 271 (.pointer (some (ad 8)))]
theorem nine_at (ad : Nat → Addr) (w : World) (k : Nat) (hk : k < 9) : (w.alloc (.cells (nine ad) 29)).cell? ⟨w.heap.size, k, none⟩ = some (.iface 271 (.pointer (some (ad k)))) := by
 rw [World.cell?_alloc_at _ _ _ _ rfl]
 match k, hk with
 | 0, _ => rfl
 | 1, _ => rfl
 | 2, _ => rfl
 | 3, _ => rfl
 | 4, _ => rfl
 | 5, _ => rfl
 | 6, _ => rfl
 | 7, _ => rfl
 | 8, _ => rfl
 | k + 9, h => omega
theorem set_at (w : World) (o1 o2 o3 o4 : Obj) (v : Value) : (((((w.alloc (.cells #[.pointer none] 110)).alloc o1).alloc o2).alloc o3).alloc o4 |>.setCell ⟨w.heap.size, 0, none⟩ v).cell? ⟨w.heap.size, 0, none⟩ = some v :=
 World.cell?_setCell_same _ _ _ (u := .pointer none) (by
  rw [World.cell?_alloc_lt _ _ ⟨w.heap.size, 0, none⟩ (by simp; omega), World.cell?_alloc_lt _ _ ⟨w.heap.size, 0, none⟩ (by simp; omega), World.cell?_alloc_lt _ _ ⟨w.heap.size, 0, none⟩ (by simp; omega), World.cell?_alloc_lt _ _ ⟨w.heap.size, 0, none⟩ (by simp), World.cell?_alloc_at _ _ _ _ rfl]; rfl)
theorem code_nil (w : World) : Calls Tryz.prog 41 #[.nilIface] w fun e w' => e = .returned (.tuple #[.int .i64 0, .int .i64 (-1)]) ∧ w' = w := by
 go_enter Tryz.func41, Tryz.ntmps41
 go_wp2
 go_ret2
 exact ⟨rfl, rfl⟩
set_option maxHeartbeats 1000000 in
theorem code_sent (ad : Nat → Addr) (k : Nat) (hk : k < 9) (w : World) (he : Errs9 w ad) :
  Calls Tryz.prog 41 #[.iface 271 (.pointer (some (ad k)))] w fun e w' => e = .returned (.tuple #[.int .i64 (k + 1), .int .i64 (-1)]) ∧ Below w.heap.size w w' := by
 have hb0 : Below w.heap.size w (w.alloc (.cells #[.pointer none] 110)) := (Below.refl _ _).alloc (Nat.le_refl _) _
 have HE : Hid (Errs9 w ad) := he
 have HB0 : Hid (Below w.heap.size w (w.alloc (.cells #[.pointer none] 110))) := hb0
 clear he hb0
 go_enter Tryz.func41, Tryz.ntmps41
 go_wp2_with fail
 refine (as_miss (ad k) _ _ (HE.out.below HB0.out).typ).mono ?_
 rintro e w1 ⟨rfl, hw1⟩
 have hb1 : Below w.heap.size w w1 := by
  rw [hw1]
  exact ((HB0.out.alloc (by simp) _).alloc (by simp; omega) _).alloc (by simp; omega) _
 have HB1 : Hid (Below w.heap.size w w1) := hb1
 have he1 := HE.out.below hb1
 have h0 := he1.c0
 have h1 := he1.c1
 have h2 := he1.c2
 have h3 := he1.c3
 have h4 := he1.c4
 have h5 := he1.c5
 have h6 := he1.c6
 have h7 := he1.c7
 have h8 := he1.c8
 have HE1 : Hid (Errs9 w1 ad) := he1
 clear hw1 hb1 he1
 go_wp2_with fail
 clear h0 h1 h2 h3 h4 h5 h6 h7 h8
 have hcell := nine_at ad w1
 have hb2 : Below w.heap.size w (w1.alloc (.cells (nine ad) 29)) := HB1.out.alloc HB1.out.size _
 have he2 : Errs9 (w1.alloc (.cells (nine ad) 29)) ad := HE1.out.below ((Below.refl _ _).alloc (Nat.le_refl _) _)
 generalize w1.alloc (.cells (nine ad) 29) = W2 at *
 have HC : Hid (∀ j, j < 9 → W2.cell? ⟨w1.heap.size, j, none⟩ = some (.iface 271 (.pointer (some (ad j))))) := hcell
 have HB2 : Hid (Below w.heap.size w W2) := hb2
 have HE2 : Hid (Errs9 W2 ad) := he2
 clear hcell hb2 he2
 go_loop [3, 27] (fun s i => s = .int .i64 (-1) ∧ ∃ j : Nat, j ≤ k ∧ i = .int .i64 j) (fun _ i => 9 - (intOf i).toNat)
 case atStart => exact ⟨rfl, 0, Nat.zero_le _, rfl⟩
 case round =>
  obtain ⟨rfl, j, hj, rfl⟩ := hrel
  have hc := HC.out j (by omega)
  by_cases hjk : j < k
  ·
   obtain ⟨ca, ta, ba⟩ := HE2.out.blk k hk
   obtain ⟨cb, tb, bb⟩ := HE2.out.blk j (by omega)
   have HI : Hid (Calls Tryz.prog 71 #[.iface 271 (.pointer (some (ad k))), .iface 271 (.pointer (some (ad j)))] W2 fun e w' => e = .returned (.bool false) ∧ w' = W2) := is_other (ad k) (ad j) ca cb ta tb W2 (HE2.out.ne k j hk (by omega) (by omega)) ba bb
   clear ba bb
   go_wp2_with (go_at_call 71; refine HI.out.mono ?_; rintro e w' ⟨rfl, rfl⟩)
   go_round
   case rel => exact ⟨rfl, j + 1, by omega, by go_num⟩
   case measure => simp [intOf]; omega
  ·
   obtain rfl : j = k := by omega
   go_wp2_with (go_at_call 71; refine (is_same (ad j) _).mono ?_; rintro e w' ⟨rfl, rfl⟩)
   go_ret2
   exact ⟨rfl, HB2.out⟩
set_option maxHeartbeats 1000000 in
theorem code_fault (ad : Nat → Addr) (k : Nat) (hk : k < 9) (n : Int) (pb : Nat) (w : World) (he : Errs9 w ad) (hp0 : w.cell? ⟨pb, 0, none⟩ = some (.int .i64 n)) (hp1 : w.cell? ⟨pb, 1, none⟩ = some (.iface 271 (.pointer (some (ad k))))) :
  Calls Tryz.prog 41 #[.iface 110 (.pointer (some ⟨pb, 0, none⟩))] w fun e w' => e = .returned (.tuple #[.int .i64 (k + 1), .int .i64 n]) ∧ Below w.heap.size w w' := by
 have hb0 : Below w.heap.size w (w.alloc (.cells #[.pointer none] 110)) := (Below.refl _ _).alloc (Nat.le_refl _) _
 have HE : Hid (Errs9 w ad) := he
 have HB0 : Hid (Below w.heap.size w (w.alloc (.cells #[.pointer none] 110))) := hb0
 have HP0 : Hid (w.cell? ⟨pb, 0, none⟩ = some (.int .i64 n)) := hp0
 have HP1 : Hid (w.cell? ⟨pb, 1, none⟩ = some (.iface 271 (.pointer (some (ad k))))) := hp1
 clear he hb0 hp0 hp1
 go_enter Tryz.func41, Tryz.ntmps41
 go_wp2_with fail
 refine (as_hit ⟨pb, 0, none⟩ ⟨w.heap.size, 0, none⟩ (.pointer none) _ (HE.out.below HB0.out).typ (by simp) (by simp)).mono ?_
 rintro e w1 ⟨rfl, hw1⟩
 have hb1 : Below w.heap.size w w1 := by
  rw [hw1]
  exact ((((HB0.out.alloc (by simp) _).alloc (by simp; omega) _).alloc (by simp; omega) _).alloc (by simp; omega) _).setCell (Nat.le_refl _) _
 have ht1 : w1.cell? ⟨w.heap.size, 0, none⟩ = some (.pointer (some ⟨pb, 0, none⟩)) := by
  rw [hw1]
  exact set_at w _ _ _ _ _
 have HB1 : Hid (Below w.heap.size w w1) := hb1
 have he1 := HE.out.below hb1
 have hq0 : w1.cell? ⟨pb, 0, none⟩ = some (.int .i64 n) := cell_later hb1 HP0.out
 have h0 := he1.c0
 have h1 := he1.c1
 have h2 := he1.c2
 have h3 := he1.c3
 have h4 := he1.c4
 have h5 := he1.c5
 have h6 := he1.c6
 have h7 := he1.c7
 have h8 := he1.c8
 have HE1 : Hid (Errs9 w1 ad) := he1
 clear hw1 hb1 he1
 go_wp2_with fail
 clear ht1 hq0 h0 h1 h2 h3 h4 h5 h6 h7 h8
 have hcell := nine_at ad w1
 have hb2 : Below w.heap.size w (w1.alloc (.cells (nine ad) 29)) := HB1.out.alloc HB1.out.size _
 have he2 : Errs9 (w1.alloc (.cells (nine ad) 29)) ad := HE1.out.below ((Below.refl _ _).alloc (Nat.le_refl _) _)
 generalize w1.alloc (.cells (nine ad) 29) = W2 at *
 have HC : Hid (∀ j, j < 9 → W2.cell? ⟨w1.heap.size, j, none⟩ = some (.iface 271 (.pointer (some (ad j))))) := hcell
 have HB2 : Hid (Below w.heap.size w W2) := hb2
 have HP2 : Hid (W2.cell? ⟨pb, 1, none⟩ = some (.iface 271 (.pointer (some (ad k))))) := cell_later hb2 HP1.out
 have HE2 : Hid (Errs9 W2 ad) := he2
 clear hcell hb2 he2
 go_loop [3, 27] (fun s i => s = .int .i64 n ∧ ∃ j : Nat, j ≤ k ∧ i = .int .i64 j) (fun _ i => 9 - (intOf i).toNat)
 case atStart => exact ⟨rfl, 0, Nat.zero_le _, rfl⟩
 case round =>
  obtain ⟨rfl, j, hj, rfl⟩ := hrel
  have hc := HC.out j (by omega)
  by_cases hjk : j < k
  ·
   obtain ⟨ca, ta, ba⟩ := HE2.out.blk k hk
   obtain ⟨cb, tb, bb⟩ := HE2.out.blk j (by omega)
   have HI : Hid (Calls Tryz.prog 71 #[.iface 110 (.pointer (some ⟨pb, 0, none⟩)), .iface 271 (.pointer (some (ad j)))] W2 fun e w' => e = .returned (.bool false) ∧ w' = W2) := is_fault_other pb (ad j) (ad k) ca cb ta tb W2 HP2.out (HE2.out.ne k j hk (by omega) (by omega)) ba bb
   clear ba bb
   go_wp2_with (go_at_call 71; refine HI.out.mono ?_; rintro e w' ⟨rfl, rfl⟩)
   go_round
   case rel => exact ⟨rfl, j + 1, by omega, by go_num⟩
   case measure => simp [intOf]; omega
  ·
   obtain rfl : j = k := by omega
   go_wp2_with (go_at_call 71; refine (is_fault_same pb (ad j) _ HP2.out).mono ?_; rintro e w' ⟨rfl, rfl⟩)
   go_ret2
   exact ⟨rfl, HB2.out⟩
end Go.Proofs.YtibhkijaafdkoaaGreatDoor

namespace Go.Proofs.YtibhkijaafdkoaaGreatDoor
open Go.RowKit
def CodeIs (w0 : World) (E : Value) (c a : Int) : Prop :=
 ∀ w, Below w0.heap.size w0 w → Calls Tryz.prog 41 #[E] w fun e w' => e = .returned (.tuple #[.int .i64 c, .int .i64 a]) ∧ Below w.heap.size w w'
theorem CodeIs.below {w w' : World} {E : Value} {c a : Int} (h : CodeIs w E c a) (hb : Below w.heap.size w w') : CodeIs w' E c a :=
 fun _ hb' => h _ (hb.trans (hb'.mono hb.size))
theorem codeIs_nil (w : World) : CodeIs w .nilIface 0 (-1) := fun w _ => (code_nil w).mono fun _ _ h => ⟨h.1, by rw [h.2]; exact Below.refl _ _⟩
theorem codeIs_sent {w : World} {ad : Nat → Addr} (he : Errs9 w ad) (k : Nat) (hk : k < 9) : CodeIs w (.iface 271 (.pointer (some (ad k)))) (k + 1) (-1) :=
 fun w' hb => code_sent ad k hk w' (he.below hb)
theorem codeIs_fault {w : World} {ad : Nat → Addr} (he : Errs9 w ad) (k : Nat) (hk : k < 9) (n : Int) (pb : Nat) (h0 : w.cell? ⟨pb, 0, none⟩ = some (.int .i64 n)) (h1 : w.cell? ⟨pb, 1, none⟩ = some (.iface 271 (.pointer (some (ad k))))) :
  CodeIs w (.iface 110 (.pointer (some ⟨pb, 0, none⟩))) (k + 1) n :=
 fun w' hb => code_fault ad k hk n pb w' (he.below hb) (cell_later hb h0) (cell_later hb h1)
structure ErrIs (w : World) (E : Value) (c p : Int) : Prop where
 code : CodeIs w E c p
 none_ : c = 0 → E = .nilIface
 some_ : c ≠ 0 → ∃ ty v, E = .iface ty v
theorem errIs_nil (w : World) : ErrIs w .nilIface 0 (-1) := ⟨codeIs_nil w, fun _ => rfl, fun h => absurd rfl h⟩
theorem errIs_sent {w : World} {ad : Nat → Addr} (he : Errs9 w ad) (k : Nat) (hk : k < 9) : ErrIs w (.iface 271 (.pointer (some (ad k)))) (k + 1) (-1) := ⟨codeIs_sent he k hk, fun h => by omega, fun _ => ⟨_, _, rfl⟩⟩
end Go.Proofs.YtibhkijaafdkoaaGreatDoor

namespace Go.Proofs.YtibhkijaafdkoaaGreatDoor
open Go.RowKit
theorem faulted_yes (E : Value) (code at_ : Int) (w : World) (h : CodeIs w E code at_) :
  Calls Tryz.prog 14 #[E, .agg #[.int .i64 code, .int .i64 at_]] w fun e w' => e = .returned (.bool true) ∧ Below w.heap.size w w' := by
 have hb0 : Below w.heap.size w (w.alloc (.cells #[.int .i64 code, .int .i64 at_] 35)) := (Below.refl _ _).alloc (Nat.le_refl _) _
 have HC := (show Hid (Calls Tryz.prog 41 #[E] (w.alloc (.cells #[.int .i64 code, .int .i64 at_] 35)) fun e w' => e = .returned (.tuple #[.int .i64 code, .int .i64 at_]) ∧ Below (w.alloc (.cells #[.int .i64 code, .int .i64 at_] 35)).heap.size (w.alloc (.cells #[.int .i64 code, .int .i64 at_] 35)) w') from h _ hb0)
 clear h hb0
 by_cases hz : code = 0
 ·
  subst hz
  go_enter Tryz.func14, Tryz.ntmps14
  go_wp2_with fail
  refine HC.out.mono ?_
  rintro e w1 ⟨rfl, hb⟩
  have HB : Hid (Below w.heap.size w w1) := ((Below.refl _ _).alloc (Nat.le_refl _) _).trans (hb.mono (by simp))
  have c0 : w1.cell? ⟨w.heap.size, 0, none⟩ = some (.int .i64 0) := cell_later hb (by simp)
  clear hb
  go_wp2_with fail
  go_ret
  exact ⟨rfl, HB.out⟩
 ·
  have hz' : (code == 0) = false := by simpa using hz
  go_enter Tryz.func14, Tryz.ntmps14
  go_wp2_with fail
  refine HC.out.mono ?_
  rintro e w1 ⟨rfl, hb⟩
  have HB : Hid (Below w.heap.size w w1) := ((Below.refl _ _).alloc (Nat.le_refl _) _).trans (hb.mono (by simp))
  have c0 : w1.cell? ⟨w.heap.size, 0, none⟩ = some (.int .i64 code) := cell_later hb (by simp)
  have c1 : w1.cell? ⟨w.heap.size, 1, none⟩ = some (.int .i64 at_) := cell_later hb (by simp)
  clear hb
  go_wp2_with fail
  go_ret
  exact ⟨rfl, HB.out⟩
end Go.Proofs.YtibhkijaafdkoaaGreatDoor

namespace Go.Proofs.YtibhkijaafdkoaaGreatDoor
open Go.RowKit
set_option maxHeartbeats 400000 in
theorem bare_any (n : Int) (w : World) : Calls Tryz.prog 36 #[.int .i64 n] w fun e w' => e = .returned (.agg #[.int .i64 n, .int .i64 (-1)]) ∧ Below w.heap.size w w' := by
 go_enter Tryz.func36, Tryz.ntmps36
 go_wp2
 exact bodyPost_ret (v := .agg #[.int .i64 n, .int .i64 (-1)]) (by simp [results, Tryz.results36, go_sem]) rfl ⟨rfl, (Below.refl _ _).alloc (Nat.le_refl _) _⟩
set_option maxHeartbeats 400000 in
theorem fine_any (w : World) : Calls Tryz.prog 40 #[] w fun e w' => e = .returned (.agg #[.int .i64 0, .int .i64 (-1)]) ∧ Below w.heap.size w w' := by
 go_enter Tryz.func40, Tryz.ntmps40
 go_wp2
 exact bodyPost_ret (v := .agg #[.int .i64 0, .int .i64 (-1)]) (by simp [results, Tryz.results40, go_sem]) rfl ⟨rfl, (Below.refl _ _).alloc (Nat.le_refl _) _⟩
structure Two (w w1 : World) (x y : Value) : Prop where
 c0 : w1.cell? ⟨w.heap.size, 0, none⟩ = some x
 c1 : w1.cell? ⟨w.heap.size, 1, none⟩ = some y
 f0 : w1.frozen? ⟨w.heap.size, 0, none⟩ = false
 f1 : w1.frozen? ⟨w.heap.size, 1, none⟩ = false
theorem two_new (w : World) (x y : Value) (t : TypeId) : Two w (w.alloc (.cells #[x, y] t)) x y := ⟨by simp, by simp, by simp, by simp⟩
theorem Two.later {w w1 w2 : World} {x y : Value} (h : Two w w1 x y) (hb : Below w1.heap.size w1 w2) : Two w w2 x y :=
 have l := cell_lt h.c0
 ⟨cell_later hb h.c0, cell_later hb h.c1, by rw [hb.frozen (p := ⟨w.heap.size, 0, none⟩) l]; exact h.f0, by rw [hb.frozen (p := ⟨w.heap.size, 1, none⟩) l]; exact h.f1⟩
end Go.Proofs.YtibhkijaafdkoaaGreatDoor

namespace Go.Proofs.YtibhkijaafdkoaaGreatDoor
theorem leastAt_le (t : Int) (l : List (Int × Int)) : ∀ m : Int, leastAt t m l ≤ m ∧ ∀ p, p ∈ l → leastAt t m l ≤ lineAt t p.1 p.2 := by
 induction l with
 | nil => intro m; exact ⟨Int.le_refl _, fun p hp => by cases hp⟩
 | cons q r ih =>
  intro m
  have := ih (min m (lineAt t q.1 q.2))
  refine ⟨?_, fun p hp => ?_⟩
  ·
   show leastAt t (min m (lineAt t q.1 q.2)) r ≤ m
   have := this.1; omega
  ·
   show leastAt t (min m (lineAt t q.1 q.2)) r ≤ _
   rcases List.mem_cons.1 hp with rfl | hp
   · have := this.1; omega
   · exact this.2 p hp
theorem leastAt_is (t : Int) (l : List (Int × Int)) : ∀ m : Int, leastAt t m l = m ∨ ∃ p, p ∈ l ∧ leastAt t m l = lineAt t p.1 p.2 := by
 induction l with
 | nil => intro m; exact .inl rfl
 | cons q r ih =>
  intro m
  show leastAt t (min m (lineAt t q.1 q.2)) r = m ∨ ∃ p, p ∈ q :: r ∧ leastAt t (min m (lineAt t q.1 q.2)) r = lineAt t p.1 p.2
  rcases ih (min m (lineAt t q.1 q.2)) with h | ⟨p, hp, h⟩
  ·
   rw [h]
   by_cases hm : m ≤ lineAt t q.1 q.2
   · exact .inl (by omega)
   · exact .inr ⟨q, List.mem_cons_self .., by omega⟩
  · exact .inr ⟨p, List.mem_cons_of_mem _ hp, h⟩
theorem curveAt_le (t : Int) (ls : List (Int × Int)) (p : Int × Int) (hp : p ∈ ls) : curveAt t ls ≤ lineAt t p.1 p.2 := by
 cases ls with
 | nil => cases hp
 | cons q r =>
  have := leastAt_le t r (lineAt t q.1 q.2)
  rcases List.mem_cons.1 hp with rfl | hp
  · exact this.1
  · exact this.2 p hp
theorem curveAt_is (t : Int) (ls : List (Int × Int)) (h : 1 ≤ ls.length) : ∃ p, p ∈ ls ∧ curveAt t ls = lineAt t p.1 p.2 := by
 cases ls with
 | nil => simp at h
 | cons q r =>
  rcases leastAt_is t r (lineAt t q.1 q.2) with h | ⟨p, hp, h⟩
  · exact ⟨q, List.mem_cons_self .., h⟩
  · exact ⟨p, List.mem_cons_of_mem _ hp, h⟩
end Go.Proofs.YtibhkijaafdkoaaGreatDoor

namespace Go.Proofs.YtibhkijaafdkoaaGreatDoor
open Go.RowKit
def FaultIs (ls : List (Int × Int)) (c a : Int) : Prop :=
 ((ls.length < 1 ∨ 6 < ls.length) ∧ c = 3 ∧ a = -1) ∨
 (1 ≤ ls.length ∧ ls.length ≤ 6 ∧ ∃ j : Nat, j < ls.length ∧ (∀ i x y, i < j → ls[i]? = some (x, y) → okLine x y = true) ∧ (∀ x y, ls[j]? = some (x, y) → okLine x y = false) ∧ c = 2 ∧ a = j) ∨
 (okCurve ls ∧ c = 0 ∧ a = -1)
theorem fault_is (ls : List (Int × Int)) : ∃ c a, FaultIs ls c a := by
 by_cases hs : ls.length < 1 ∨ 6 < ls.length
 · exact ⟨3, -1, .inl ⟨hs, rfl, rfl⟩⟩
 ·
  rcases firstBad ls with h | ⟨j, hj, h1, h2⟩
  · exact ⟨0, -1, .inr (.inr ⟨⟨by omega, by omega, h⟩, rfl, rfl⟩)⟩
  · exact ⟨2, j, .inr (.inl ⟨by omega, by omega, j, hj, h1, h2, rfl, rfl⟩)⟩
theorem FaultIs.ok {ls : List (Int × Int)} {a : Int} (h : FaultIs ls 0 a) : okCurve ls ∧ a = -1 := by
 rcases h with ⟨_, h, _⟩ | ⟨_, _, _, _, _, _, h, _⟩ | ⟨h, _, h'⟩
 · omega
 · omega
 · exact ⟨h, h'⟩
theorem FaultIs.num {ls : List (Int × Int)} {c a : Int} (h : FaultIs ls c a) : c = 0 ∨ c = 2 ∨ c = 3 := by
 rcases h with ⟨_, h, _⟩ | ⟨_, _, _, _, _, _, h, _⟩ | ⟨_, h, _⟩ <;> omega
set_option maxHeartbeats 400000 in
theorem curveFault_shape (a : Option Addr) (n cap : Nat) (w : World) (hm : n ≤ maxLen) (h : n < 1 ∨ 6 < n) :
  Calls Tryz.prog 37 #[.slice a n cap] w fun e w' => e = .returned (.agg #[.int .i64 3, .int .i64 (-1)]) ∧ Below w.heap.size w w' := by
 unfold maxLen at hm
 have hb0 : Below w.heap.size w (w.alloc (.cells #[.int .i64 0, .int .i64 0] 35)) := (Below.refl _ _).alloc (Nat.le_refl _) _
 rcases h with h | h
 ·
  obtain rfl : n = 0 := by omega
  go_enter Tryz.func37, Tryz.ntmps37
  go_wp2_with fail
  refine (bare_any 3 _).mono ?_
  rintro e w1 ⟨rfl, hb⟩
  obtain ⟨hc, hc', hf, hf'⟩ := (two_new w _ _ _).later hb
  have HB : Hid (Below w.heap.size w w1) := hb0.trans (hb.mono hb0.size)
  clear hb hb0
  go_wp2_with fail
  exact bodyPost_ret (v := .agg #[.int .i64 3, .int .i64 (-1)]) (by simp [results, Tryz.results37, go_sem, hc, hc']) rfl ⟨rfl, (HB.out.setCell (Nat.le_refl _) _).setCell (Nat.le_refl _) _⟩
 ·
  have h1 : ¬ n < 1 := by omega
  go_enter Tryz.func37, Tryz.ntmps37
  go_wp2_with fail
  refine (bare_any 3 _).mono ?_
  rintro e w1 ⟨rfl, hb⟩
  obtain ⟨hc, hc', hf, hf'⟩ := (two_new w _ _ _).later hb
  have HB : Hid (Below w.heap.size w w1) := hb0.trans (hb.mono hb0.size)
  clear hb hb0
  go_wp2_with fail
  exact bodyPost_ret (v := .agg #[.int .i64 3, .int .i64 (-1)]) (by simp [results, Tryz.results37, go_sem, hc, hc']) rfl ⟨rfl, (HB.out.setCell (Nat.le_refl _) _).setCell (Nat.le_refl _) _⟩
set_option maxHeartbeats 400000 in
theorem curveFault_ok (a : Option Addr) (cap : Nat) (ls : List (Int × Int)) (w : World) (hl : Lies w a ls) (h : okCurve ls) :
  Calls Tryz.prog 37 #[.slice a ls.length cap] w fun e w' => e = .returned (.agg #[.int .i64 0, .int .i64 (-1)]) ∧ Below w.heap.size w w' := by
 obtain ⟨h1, h6, hok⟩ := h
 obtain ⟨b, off, rfl, hlt, hc⟩ := hl.some h1
 clear hl
 generalize hn : ls.length = n at *
 have Hn := (show Hid (ls.length = n) from hn)
 have hb0 : Below w.heap.size w (w.alloc (.cells #[.int .i64 0, .int .i64 0] 35)) := (Below.refl _ _).alloc (Nat.le_refl _) _
 clear hn
 go_enter Tryz.func37, Tryz.ntmps37
 go_wp2_with fail
 go_loopw [3] (fun i wr => ∃ k : Nat, k ≤ n ∧ i = .int .i64 k ∧ Below w.heap.size w wr ∧ Two w wr (.int .i64 0) (.int .i64 0)) (fun i _ => n - (intOf i).toNat)
 case atStart => exact ⟨0, Nat.zero_le _, rfl, hb0, two_new w _ _ _⟩
 case round =>
  obtain ⟨k, hk, rfl, hb, h2⟩ := hrel
  have HB : Hid (Below w.heap.size w wr) := hb
  have H2 : Hid (Two w wr (.int .i64 0) (.int .i64 0)) := h2
  by_cases hkn : k < n
  ·
   obtain ⟨⟨x, y⟩, hp, hm⟩ := get_some ls k (by rw [Hn.out]; exact hkn)
   have hc1 : wr.cell? ⟨b, off + k * 2, none⟩ = some (.int .i64 x) := by rw [hb.cell (p := ⟨b, off + k * 2, none⟩) hlt]; exact (hc k x y hp).1
   have hc2 : wr.cell? ⟨b, off + k * 2 + 1, none⟩ = some (.int .i64 y) := by rw [hb.cell (p := ⟨b, off + k * 2 + 1, none⟩) hlt]; exact (hc k x y hp).2
   have Hxy := (show Hid (okLine x y = true) from hok _ hm)
   clear hc hok hp hm hb h2 hb0
   go_wp2_with (go_at_call 69; refine (lineError_yes x y _ Hxy.out).mono ?_; rintro e w' ⟨rfl, rfl⟩)
   go_roundw
   case rel => exact ⟨k + 1, by omega, by go_num, HB.out.alloc HB.out.size _, H2.out.later ((Below.refl _ _).alloc (Nat.le_refl _) _)⟩
   case measure => simp [intOf]; omega
  ·
   clear hc hok hb h2 hb0
   go_wp2_with fail
   refine (fine_any _).mono ?_
   rintro e w1 ⟨rfl, hb⟩
   obtain ⟨hc, hc', hf, hf'⟩ := H2.out.later hb
   have HB1 : Hid (Below w.heap.size w w1) := HB.out.trans (hb.mono HB.out.size)
   clear hb
   go_wp2_with fail
   exact bodyPost_ret (v := .agg #[.int .i64 0, .int .i64 (-1)]) (by simp [results, Tryz.results37, go_sem, hc, hc']) rfl ⟨rfl, (HB1.out.setCell (Nat.le_refl _) _).setCell (Nat.le_refl _) _⟩
set_option maxHeartbeats 400000 in
theorem curveFault_bad (a : Option Addr) (cap : Nat) (ls : List (Int × Int)) (w : World) (hl : Lies w a ls) (h1 : 1 ≤ ls.length) (h6 : ls.length ≤ 6)
  (j : Nat) (hj : j < ls.length) (hok : ∀ i x y, i < j → ls[i]? = some (x, y) → okLine x y = true) (hbad : ∀ x y, ls[j]? = some (x, y) → okLine x y = false) :
  Calls Tryz.prog 37 #[.slice a ls.length cap] w fun e w' => e = .returned (.agg #[.int .i64 2, .int .i64 j]) ∧ Below w.heap.size w w' := by
 obtain ⟨b, off, rfl, hlt, hc⟩ := hl.some h1
 clear hl
 generalize hn : ls.length = n at *
 have Hn := (show Hid (ls.length = n) from hn)
 have hb0 : Below w.heap.size w (w.alloc (.cells #[.int .i64 0, .int .i64 0] 35)) := (Below.refl _ _).alloc (Nat.le_refl _) _
 clear hn
 go_enter Tryz.func37, Tryz.ntmps37
 go_wp2_with fail
 go_loopw [3] (fun i wr => ∃ k : Nat, k ≤ j ∧ i = .int .i64 k ∧ Below w.heap.size w wr ∧ Two w wr (.int .i64 0) (.int .i64 0)) (fun i _ => n - (intOf i).toNat)
 case atStart => exact ⟨0, Nat.zero_le _, rfl, hb0, two_new w _ _ _⟩
 case round =>
  obtain ⟨k, hk, rfl, hb, h2⟩ := hrel
  have HB : Hid (Below w.heap.size w wr) := hb
  have H2 : Hid (Two w wr (.int .i64 0) (.int .i64 0)) := h2
  have hkn : k < n := by omega
  obtain ⟨⟨x, y⟩, hp, hm⟩ := get_some ls k (by rw [Hn.out]; exact hkn)
  have hc1 : wr.cell? ⟨b, off + k * 2, none⟩ = some (.int .i64 x) := by rw [hb.cell (p := ⟨b, off + k * 2, none⟩) hlt]; exact (hc k x y hp).1
  have hc2 : wr.cell? ⟨b, off + k * 2 + 1, none⟩ = some (.int .i64 y) := by rw [hb.cell (p := ⟨b, off + k * 2 + 1, none⟩) hlt]; exact (hc k x y hp).2
  by_cases hkj : k < j
  ·
   have Hxy := (show Hid (okLine x y = true) from hok k x y hkj hp)
   clear hc hok hp hm hb h2 hb0 hbad
   go_wp2_with (go_at_call 69; refine (lineError_yes x y _ Hxy.out).mono ?_; rintro e w' ⟨rfl, rfl⟩)
   go_roundw
   case rel => exact ⟨k + 1, by omega, by go_num, HB.out.alloc HB.out.size _, H2.out.later ((Below.refl _ _).alloc (Nat.le_refl _) _)⟩
   case measure => simp [intOf]; omega
  ·
   obtain rfl : k = j := by omega
   have Hxy := (show Hid (okLine x y = false) from hbad x y hp)
   clear hc hok hp hm hb h2 hb0 hbad
   go_wp2_with fail
   refine (lineError_no x y _ Hxy.out).mono ?_
   rintro e w1 ⟨rfl, hw1⟩
   have hb : Below wr.heap.size wr w1 := by rw [hw1]; exact (Below.refl _ _).alloc (Nat.le_refl _) _
   obtain ⟨hc, hc', hf, hf'⟩ := H2.out.later hb
   have HB1 : Hid (Below w.heap.size w w1) := HB.out.trans (hb.mono HB.out.size)
   clear hb hw1
   go_wp2_with fail
   exact bodyPost_ret (v := .agg #[.int .i64 2, .int .i64 k]) (by simp [results, Tryz.results37, go_sem, hc, hc']) rfl ⟨rfl, (HB1.out.setCell (Nat.le_refl _) _).setCell (Nat.le_refl _) _⟩
theorem curveFault_is (a : Option Addr) (cap : Nat) (ls : List (Int × Int)) (w : World) (hl : Lies w a ls) (hcap : ls.length ≤ cap) (hm : cap ≤ maxLen) (c p : Int) (h : FaultIs ls c p) :
  Calls Tryz.prog 37 #[.slice a ls.length cap] w fun e w' => e = .returned (.agg #[.int .i64 c, .int .i64 p]) ∧ Below w.heap.size w w' := by
 rcases h with ⟨h, rfl, rfl⟩ | ⟨h1, h6, j, hj, h2, h3, rfl, rfl⟩ | ⟨h, rfl, rfl⟩
 · exact curveFault_shape a ls.length cap w (Nat.le_trans hcap hm) h
 · exact curveFault_bad a cap ls w hl h1 h6 j hj h2 h3
 · exact curveFault_ok a cap ls w hl h
end Go.Proofs.YtibhkijaafdkoaaGreatDoor

namespace Go.Proofs.YtibhkijaafdkoaaGreatDoor
structure Bk where
 most : Int
 rate : Int
 has : Int
 last : Int
structure Bk.Ok (b : Bk) : Prop where
 m0 : 1000 ≤ b.most
 m1 : b.most ≤ 20000000
 r0 : 0 ≤ b.rate
 r1 : b.rate ≤ 100000
 h0 : 0 ≤ b.has
 h1 : b.has ≤ b.most
 l0 : 0 ≤ b.last
 l1 : b.last ≤ 1099511627776
def Bk.lev (b : Bk) (t : Int) : Int := min b.most (b.has + b.rate * (t - b.last))
def Bk.take (b : Bk) (t n : Int) : Bk := if n * 1000 ≤ b.lev t then ⟨b.most, b.rate, b.lev t - n * 1000, t⟩ else ⟨b.most, b.rate, b.lev t, t⟩
def Bk.when (b : Bk) (t n : Int) : Option Int :=
 if n * 1000 ≤ b.lev t then some t
 else if b.most < n * 1000 ∨ b.rate = 0 then none
 else if 1099511627776 - t < (n * 1000 - b.lev t + b.rate - 1) / b.rate then none
 else some (t + (n * 1000 - b.lev t + b.rate - 1) / b.rate)
def tickErr (last t : Int) : Nat := if 0 ≤ t ∧ t ≤ 1099511627776 then (if t < last then 5 else 0) else 2
def askErr (last t n : Int) : Nat := if 1 ≤ n ∧ n ≤ 1500 then tickErr last t else 2
theorem tickErr_ok {last t : Int} : tickErr last t = 0 ↔ 0 ≤ t ∧ t ≤ 1099511627776 ∧ last ≤ t := by unfold tickErr; split <;> (try split) <;> simp <;> omega
theorem askErr_ok {last t n : Int} : askErr last t n = 0 ↔ 1 ≤ n ∧ n ≤ 1500 ∧ 0 ≤ t ∧ t ≤ 1099511627776 ∧ last ≤ t := by unfold askErr; split <;> simp [tickErr_ok] <;> omega
def bkOf (p : Int × Int) : Bk := ⟨p.1 * 1000, p.2, p.1 * 1000, 0⟩
theorem bkOf_ok {p : Int × Int} (h : okLine p.1 p.2 = true) : (bkOf p).Ok := by
 obtain ⟨a, b, c, d⟩ := okLine_true h
 constructor <;> simp [bkOf] <;> omega
theorem mul_split (r a b c : Int) : r * (a - c) = r * (b - c) + r * (a - b) := by
 simp only [Int.mul_sub]; omega
theorem Bk.Ok.grow {b : Bk} (h : b.Ok) {t : Int} (ht : b.last ≤ t) (t1 : t ≤ 1099511627776) : 0 ≤ b.rate * (t - b.last) ∧ b.rate * (t - b.last) ≤ 109951162777600000 :=
 mul_bd h.r0 h.r1 (by omega) (by have := h.l0; omega)
theorem Bk.Ok.lev_bd {b : Bk} (h : b.Ok) {t : Int} (ht : b.last ≤ t) : 0 ≤ b.lev t ∧ b.lev t ≤ b.most := by
 have := Int.mul_nonneg h.r0 (show 0 ≤ t - b.last by omega)
 have := h.h0; have := h.h1; have := h.m0
 unfold Bk.lev; omega
theorem Bk.lev_mono {b : Bk} (h : 0 ≤ b.rate) {s t : Int} (hs : s ≤ t) : b.lev s ≤ b.lev t := by
 have := mul_split b.rate t s b.last
 have := Int.mul_nonneg h (show 0 ≤ t - s by omega)
 unfold Bk.lev; omega
theorem Bk.Ok.take {b : Bk} (h : b.Ok) {t n : Int} (ht : b.last ≤ t) (t1 : t ≤ 1099511627776) (hn : 0 ≤ n) : (b.take t n).Ok := by
 have := h.lev_bd ht
 have := h.l0
 unfold Bk.take
 split <;> exact ⟨h.m0, h.m1, h.r0, h.r1, by simp; omega, by simp; omega, by simp; omega, by simp; omega⟩
theorem Bk.take_last (b : Bk) (t n : Int) : (b.take t n).last = t := by unfold Bk.take; split <;> rfl
theorem div_up {r x : Int} (hr : 0 < r) : x ≤ r * ((x + r - 1) / r) ∧ r * ((x + r - 1) / r) < x + r := by
 have h1 := Int.mul_ediv_add_emod (x + r - 1) r
 have h2 := Int.emod_nonneg (x + r - 1) (show r ≠ 0 by omega)
 have h3 := Int.emod_lt_of_pos (x + r - 1) hr
 omega
theorem Bk.when_some {b : Bk} (h : b.Ok) {t n T : Int} (t1 : t ≤ 1099511627776) (e : b.when t n = some T) :
  t ≤ T ∧ T ≤ 1099511627776 ∧ n * 1000 ≤ b.lev T ∧ ∀ s, t ≤ s → s < T → b.lev s < n * 1000 := by
 unfold Bk.when at e
 split at e
 ·
  rename_i h1
  cases e
  exact ⟨Int.le_refl _, t1, h1, fun s h2 h3 => by omega⟩
 ·
  rename_i h1
  split at e
  · cases e
  ·
   rename_i h2
   split at e
   · cases e
   ·
    rename_i h3
    have hr : 0 < b.rate := by have := h.r0; omega
    have hd := div_up (r := b.rate) (x := n * 1000 - b.lev t) hr
    have hm : ¬ b.most < n * 1000 := fun h => h2 (.inl h)
    generalize hk : (n * 1000 - b.lev t + b.rate - 1) / b.rate = k at e h3 hd
    cases e
    have hk0 : 0 < k := by
     by_cases h0 : 0 < k
     · exact h0
     ·
      have := Int.mul_le_mul_of_nonneg_left (show k ≤ 0 by omega) h.r0
      simp at this; omega
    have hlt : b.lev t = b.has + b.rate * (t - b.last) := by unfold Bk.lev at h1 ⊢; omega
    have hT := mul_split b.rate (t + k) t b.last
    rw [show t + k - t = k by omega] at hT
    refine ⟨by omega, by omega, ?_, fun s h4 h5 => ?_⟩
    · unfold Bk.lev; omega
    ·
     have hS := mul_split b.rate s t b.last
     have h6 : b.rate * (s - t) ≤ b.rate * (k - 1) := Int.mul_le_mul_of_nonneg_left (by omega) h.r0
     have h7 : b.rate * (k - 1) = b.rate * k - b.rate := by simp [Int.mul_sub]
     unfold Bk.lev; omega
theorem Bk.when_none {b : Bk} (h : b.Ok) {t n : Int} (e : b.when t n = none) :
  ∀ s, t ≤ s → s ≤ 1099511627776 → b.lev s < n * 1000 := by
 intro s hs s1
 unfold Bk.when at e
 split at e
 · cases e
 ·
  rename_i h1
  split at e
  ·
   rename_i h2
   rcases h2 with h2 | h2
   · unfold Bk.lev; omega
   ·
    have := h.h1
    unfold Bk.lev at h1 ⊢; rw [h2] at h1 ⊢; omega
  ·
   rename_i h2
   split at e
   ·
    rename_i h3
    have hr : 0 < b.rate := by have := h.r0; omega
    have hd := div_up (r := b.rate) (x := n * 1000 - b.lev t) hr
    have hm : ¬ b.most < n * 1000 := fun h => h2 (.inl h)
    generalize hk : (n * 1000 - b.lev t + b.rate - 1) / b.rate = k at e h3 hd
    have hlt : b.lev t = b.has + b.rate * (t - b.last) := by unfold Bk.lev at h1 ⊢; omega
    have hS := mul_split b.rate s t b.last
    have h6 : b.rate * (s - t) ≤ b.rate * (k - 1) := Int.mul_le_mul_of_nonneg_left (by omega) h.r0
    have h7 : b.rate * (k - 1) = b.rate * k - b.rate := by simp [Int.mul_sub]
    unfold Bk.lev; omega
   · cases e
end Go.Proofs.YtibhkijaafdkoaaGreatDoor

namespace Go.Proofs.YtibhkijaafdkoaaGreatDoor
structure Pk where
 flow : Int
 size : Int
 tick : Int
def okPk (p : Pk) : Bool := decide (0 ≤ p.flow ∧ p.flow < 8 ∧ 1 ≤ p.size ∧ p.size ≤ 1500 ∧ 0 ≤ p.tick ∧ p.tick ≤ 1099511627776)
theorem okPk_true {p : Pk} (h : okPk p = true) : 0 ≤ p.flow ∧ p.flow < 8 ∧ 1 ≤ p.size ∧ p.size ≤ 1500 ∧ 0 ≤ p.tick ∧ p.tick ≤ 1099511627776 := of_decide_eq_true h
theorem okPk_mk {p : Pk} (h : 0 ≤ p.flow ∧ p.flow < 8 ∧ 1 ≤ p.size ∧ p.size ≤ 1500 ∧ 0 ≤ p.tick ∧ p.tick ≤ 1099511627776) : okPk p = true := decide_eq_true h
def ahead (ps : List Pk) : Nat → Int
 | 0 => 0
 | i + 1 => match ps[i]? with | some p => p.tick | none => 0
structure OkPks (ps : List Pk) : Prop where
 few : ps.length ≤ 300
 each : ∀ i p, ps[i]? = some p → okPk p = true ∧ ahead ps i ≤ p.tick
theorem okPks_none : OkPks [] := ⟨by simp, fun i p h => by simp at h⟩
def total : List Pk → Int
 | [] => 0
 | p :: r => p.size + total r
theorem total_snoc (ps : List Pk) (p : Pk) : total (ps ++ [p]) = total ps + p.size := by
 induction ps with
 | nil => simp [total]
 | cons q r ih => simp [total, ih]; omega
def ends : List Pk → List (Int × Int)
 | [] => []
 | p :: r => (p.tick, total (p :: r)) :: ends r
theorem ends_snoc (ps : List Pk) (p : Pk) (a s : Int) : (a, s) ∈ ends (ps ++ [p]) ↔ (a, s - p.size) ∈ ends ps ∨ (a = p.tick ∧ s = p.size) := by
 induction ps with
 | nil => simp [ends, total]
 | cons q r ih =>
  show (a, s) ∈ (q.tick, total (q :: (r ++ [p]))) :: ends (r ++ [p]) ↔ (a, s - p.size) ∈ (q.tick, total (q :: r)) :: ends r ∨ _
  have ht : total (q :: (r ++ [p])) = total (q :: r) + p.size := total_snoc (q :: r) p
  simp only [List.mem_cons, Prod.mk.injEq, ht, ih]
  constructor
  ·
   rintro (⟨h1, h2⟩ | h | h)
   · exact .inl (.inl ⟨h1, by omega⟩)
   · exact .inl (.inr h)
   · exact .inr h
  ·
   rintro ((⟨h1, h2⟩ | h) | h)
   · exact .inl ⟨h1, by omega⟩
   · exact .inr (.inl h)
   · exact .inr (.inr h)
def lastFits (ls : List (Int × Int)) (ps : List Pk) (p : Pk) : Prop := ∀ a s, (a, s) ∈ ends (ps ++ [p]) → s ≤ curveAt (p.tick - a) ls
def startB (ls : List (Int × Int)) (a c : Int) : List Pk → Bool
 | [] => true
 | p :: r => decide (c + p.size ≤ curveAt (p.tick - a) ls) && startB ls a (c + p.size) r
def fitsB (ls : List (Int × Int)) : List Pk → Bool
 | [] => true
 | p :: r => startB ls p.tick 0 (p :: r) && fitsB ls r
theorem startB_snoc (ls : List (Int × Int)) (a : Int) (ps : List Pk) (p : Pk) : ∀ c, startB ls a c (ps ++ [p]) = true ↔ startB ls a c ps = true ∧ c + total (ps ++ [p]) ≤ curveAt (p.tick - a) ls := by
 induction ps with
 | nil => intro c; simp [startB, total]
 | cons q r ih =>
  intro c
  have ht : total (q :: r ++ [p]) = q.size + total (r ++ [p]) := rfl
  simp only [List.cons_append, startB, Bool.and_eq_true, ih] at *
  rw [ht, Int.add_assoc, and_assoc]
theorem fitsB_snoc (ls : List (Int × Int)) (ps : List Pk) (p : Pk) : fitsB ls (ps ++ [p]) = true ↔ fitsB ls ps = true ∧ lastFits ls ps p := by
 induction ps with
 | nil => simp [fitsB, startB, lastFits, ends, total]
 | cons q r ih =>
  have h1 := startB_snoc ls q.tick (q :: r) p 0
  simp only [List.cons_append] at h1
  simp only [List.cons_append, fitsB, Bool.and_eq_true, h1, ih]
  have h2 : lastFits ls (q :: r) p ↔ 0 + total (q :: (r ++ [p])) ≤ curveAt (p.tick - q.tick) ls ∧ lastFits ls r p := by
   show (∀ a s, (a, s) ∈ (q.tick, total (q :: (r ++ [p]))) :: ends (r ++ [p]) → _) ↔ _
   simp only [List.mem_cons, Prod.mk.injEq, Int.zero_add]
   constructor
   ·
    intro h
    exact ⟨h _ _ (.inl ⟨rfl, rfl⟩), fun a s hm => h a s (.inr hm)⟩
   ·
    rintro ⟨h, h'⟩ a s (⟨rfl, rfl⟩ | hm)
    · exact h
    · exact h' a s hm
  rw [h2]
  exact ⟨fun ⟨⟨a, b⟩, c, d⟩ => ⟨⟨a, c⟩, b, d⟩, fun ⟨⟨a, c⟩, b, d⟩ => ⟨⟨a, b⟩, c, d⟩⟩
theorem le_curveAt (t s : Int) (ls : List (Int × Int)) (h : 1 ≤ ls.length) : s ≤ curveAt t ls ↔ ∀ p, p ∈ ls → s ≤ lineAt t p.1 p.2 := by
 constructor
 ·
  intro hs p hp
  have := curveAt_le t ls p hp
  omega
 ·
  intro hs
  obtain ⟨p, hp, e⟩ := curveAt_is t ls h
  rw [e]
  exact hs p hp
theorem lastFits_lines (ls : List (Int × Int)) (h : 1 ≤ ls.length) (ps : List Pk) (p : Pk) : lastFits ls ps p ↔ ∀ q, q ∈ ls → lastFits [q] ps p := by
 have h1 : ∀ q : Int × Int, ∀ t s, s ≤ curveAt t [q] ↔ s ≤ lineAt t q.1 q.2 := fun q t s => by simp [curveAt, leastAt]
 simp only [lastFits, le_curveAt _ _ ls h, h1]
 exact ⟨fun H q hq a s hm => H a s hm q hq, fun H a s hm q hq => H q hq a s hm⟩
structure Passed (q : Int × Int) (ps : List Pk) (b : Bk) : Prop where
 most : b.most = q.1 * 1000
 rate : b.rate = q.2
 lev : ∀ t v, b.last ≤ t → (v ≤ b.lev t ↔ v ≤ q.1 * 1000 ∧ ∀ a s, (a, s) ∈ ends ps → v + s * 1000 ≤ q.1 * 1000 + q.2 * (t - a))
theorem passed_none (q : Int × Int) (h : 0 ≤ q.2) : Passed q [] (bkOf q) := by
 refine ⟨rfl, rfl, fun t v ht => ?_⟩
 have := Int.mul_nonneg h (show 0 ≤ t - 0 by simpa [bkOf] using ht)
 simp only [Bk.lev, bkOf, ends] at *
 constructor
 · intro hv; exact ⟨by omega, fun a s hm => by cases hm⟩
 · intro hv; omega
theorem Passed.fits {q : Int × Int} {ps : List Pk} {b : Bk} (h : Passed q ps b) (p : Pk) (hp : b.last ≤ p.tick) : p.size * 1000 ≤ b.lev p.tick ↔ lastFits [q] ps p := by
 rw [h.lev _ _ hp]
 have h1 : ∀ t s, s ≤ curveAt t [q] ↔ s * 1000 ≤ q.1 * 1000 + q.2 * t := fun t s => by simp [curveAt, leastAt, lineAt]; omega
 simp only [lastFits, h1, ends_snoc]
 constructor
 ·
  rintro ⟨h2, h3⟩ a s (hm | ⟨rfl, rfl⟩)
  · have := h3 a _ hm; omega
  · simp; omega
 ·
  intro H
  refine ⟨by have := H p.tick p.size (.inr ⟨rfl, rfl⟩); simp at this; omega, fun a s hm => ?_⟩
  have := H a (s + p.size) (.inl (by simpa using hm))
  omega
theorem Passed.pass {q : Int × Int} {ps : List Pk} {b : Bk} (h : Passed q ps b) (r0 : 0 ≤ b.rate) (p : Pk) (ht : b.last ≤ p.tick) (hn : p.size * 1000 ≤ b.lev p.tick) : Passed q (ps ++ [p]) (b.take p.tick p.size) := by
 have e : b.take p.tick p.size = ⟨b.most, b.rate, b.lev p.tick - p.size * 1000, p.tick⟩ := by unfold Bk.take; rw [if_pos hn]
 refine ⟨by rw [e]; exact h.most, by rw [e]; exact h.rate, fun s v hs => ?_⟩
 rw [e] at hs ⊢
 simp only at hs
 have h2 := Int.mul_nonneg r0 (show 0 ≤ s - p.tick by omega)
 have hl := h.lev p.tick (v + p.size * 1000 - b.rate * (s - p.tick)) ht
 have hm := h.most
 have hr := h.rate
 have key : v ≤ (Bk.mk b.most b.rate (b.lev p.tick - p.size * 1000) p.tick).lev s ↔ v ≤ b.most ∧ v + p.size * 1000 - b.rate * (s - p.tick) ≤ b.lev p.tick := by simp only [Bk.lev]; omega
 rw [key, hl, hm, hr]
 simp only [ends_snoc]
 constructor
 ·
  rintro ⟨h3, h4, h5⟩
  refine ⟨h3, fun a z hz => ?_⟩
  rcases hz with hz | ⟨rfl, rfl⟩
  ·
   have := h5 a _ hz
   have := mul_split q.2 s p.tick a
   omega
  · omega
 ·
  rintro ⟨h3, h4⟩
  refine ⟨h3, ?_, fun a z hz => ?_⟩
  · have := h4 p.tick p.size (.inr ⟨rfl, rfl⟩); omega
  ·
   have := h4 a (z + p.size) (.inl (by simpa using hz))
   have := mul_split q.2 s p.tick a
   omega
end Go.Proofs.YtibhkijaafdkoaaGreatDoor

namespace Go.Proofs.YtibhkijaafdkoaaGreatDoor
structure Sn where
 num : Int
 beg : Int
 fin : Int
structure Que (σ : Type) where
 come : σ → Nat → σ
 pick : σ → Nat
 left : σ → σ
 rest : σ → Nat
 idle : σ → σ := fun q => q
structure St (σ : Type) where
 out : List Sn
 now : Int
 next : Nat
 q : σ
structure Steps {σ : Type} (Q : Que σ) (per : Int) (ps : List Pk) (q0 : σ) (C : St σ → Prop) : Prop where
 start : C ⟨[], 0, 0, q0⟩
 come : ∀ s p, C s → ps[s.next]? = some p → p.tick ≤ s.now → C ⟨s.out, s.now, s.next + 1, Q.come s.q s.next⟩
 send : ∀ s p, C s → (∀ r, ps[s.next]? = some r → s.now < r.tick) → 0 < Q.rest s.q → ps[Q.pick s.q]? = some p → C ⟨s.out ++ [⟨Q.pick s.q, s.now, s.now + per * p.size⟩], s.now + per * p.size, s.next, Q.left s.q⟩
 idle : ∀ s p, C s → ps[s.next]? = some p → s.now < p.tick → Q.rest s.q = 0 → C ⟨s.out, p.tick, s.next, Q.idle s.q⟩
def Reaches {σ : Type} (Q : Que σ) (per : Int) (ps : List Pk) (q0 : σ) (s : St σ) : Prop := ∀ C : St σ → Prop, Steps Q per ps q0 C → C s
section
variable {σ : Type} {Q : Que σ} {per : Int} {ps : List Pk} {q0 : σ}
theorem Reaches.start : Reaches Q per ps q0 ⟨[], 0, 0, q0⟩ := fun _ h => h.start
theorem Reaches.come (s : St σ) (p : Pk) (hs : Reaches Q per ps q0 s) (h1 : ps[s.next]? = some p) (h2 : p.tick ≤ s.now) : Reaches Q per ps q0 ⟨s.out, s.now, s.next + 1, Q.come s.q s.next⟩ :=
 fun C h => h.come s p (hs C h) h1 h2
theorem Reaches.send (s : St σ) (p : Pk) (hs : Reaches Q per ps q0 s) (h1 : ∀ r, ps[s.next]? = some r → s.now < r.tick) (h2 : 0 < Q.rest s.q) (h3 : ps[Q.pick s.q]? = some p) : Reaches Q per ps q0 ⟨s.out ++ [⟨Q.pick s.q, s.now, s.now + per * p.size⟩], s.now + per * p.size, s.next, Q.left s.q⟩ :=
 fun C h => h.send s p (hs C h) h1 h2 h3
theorem Reaches.idle (s : St σ) (p : Pk) (hs : Reaches Q per ps q0 s) (h1 : ps[s.next]? = some p) (h2 : s.now < p.tick) (h3 : Q.rest s.q = 0) : Reaches Q per ps q0 ⟨s.out, p.tick, s.next, Q.idle s.q⟩ :=
 fun C h => h.idle s p (hs C h) h1 h2 h3
theorem Reaches.by_steps {C : St σ → Prop} {s : St σ} (h : Reaches Q per ps q0 s) (h0 : C ⟨[], 0, 0, q0⟩)
  (h1 : ∀ s p, Reaches Q per ps q0 s → ps[s.next]? = some p → p.tick ≤ s.now → C s → C ⟨s.out, s.now, s.next + 1, Q.come s.q s.next⟩)
  (h2 : ∀ s p, Reaches Q per ps q0 s → (∀ r, ps[s.next]? = some r → s.now < r.tick) → 0 < Q.rest s.q → ps[Q.pick s.q]? = some p → C s → C ⟨s.out ++ [⟨Q.pick s.q, s.now, s.now + per * p.size⟩], s.now + per * p.size, s.next, Q.left s.q⟩)
  (h3 : ∀ s p, Reaches Q per ps q0 s → ps[s.next]? = some p → s.now < p.tick → Q.rest s.q = 0 → C s → C ⟨s.out, p.tick, s.next, Q.idle s.q⟩) : C s :=
 (h (fun s => Reaches Q per ps q0 s ∧ C s) ⟨⟨.start, h0⟩, fun s p hs a b => ⟨.come s p hs.1 a b, h1 s p hs.1 a b hs.2⟩, fun s p hs a b c => ⟨.send s p hs.1 a b c, h2 s p hs.1 a b c hs.2⟩, fun s p hs a b c => ⟨.idle s p hs.1 a b c, h3 s p hs.1 a b c hs.2⟩⟩).2
end
structure QueLaw {σ : Type} (Q : Que σ) (per : Int) (ps : List Pk) (q0 : σ) : Prop where
 none : Q.rest q0 = 0
 come : ∀ s, Reaches Q per ps q0 s → s.next < ps.length → Q.rest (Q.come s.q s.next) = Q.rest s.q + 1
 left : ∀ s, Reaches Q per ps q0 s → 0 < Q.rest s.q → Q.rest (Q.left s.q) + 1 = Q.rest s.q
 pick : ∀ s, Reaches Q per ps q0 s → 0 < Q.rest s.q → Q.pick s.q < s.next
 idle : ∀ s, Reaches Q per ps q0 s → Q.rest s.q = 0 → Q.rest (Q.idle s.q) = 0
def Que.asked {σ : Type} (Q : Que σ) (q : σ) : σ := if Q.rest q = 0 then Q.idle q else q
theorem asked_same {σ : Type} (Q : Que σ) (h : ∀ q, Q.idle q = q) (q : σ) : Q.asked q = q := by
 unfold Que.asked
 split
 · exact h q
 · rfl
theorem lt_of_get {α : Type} {l : List α} {k : Nat} {x : α} (h : l[k]? = some x) : k < l.length := by
 rcases Nat.lt_or_ge k l.length with h' | h'
 · exact h'
 · simp [List.getElem?_eq_none h'] at h
section
variable {σ : Type} {Q : Que σ} {per : Int} {ps : List Pk} {q0 : σ} {s : St σ}
theorem Reaches.next_le (h : Reaches Q per ps q0 s) : s.next ≤ ps.length := by
 refine h.by_steps (C := fun s => s.next ≤ ps.length) (Nat.zero_le _) ?_ ?_ ?_
 ·
  intro s p _ hp _ _
  exact lt_of_get hp
 ·
  intro s p _ _ _ _ ih
  exact ih
 ·
  intro s p _ _ _ _ ih
  exact ih
theorem Reaches.count (hq : QueLaw Q per ps q0) (h : Reaches Q per ps q0 s) : s.out.length + Q.rest s.q = s.next := by
 refine h.by_steps (C := fun s => s.out.length + Q.rest s.q = s.next) (by simp [hq.none]) ?_ ?_ ?_
 ·
  intro s p hs hp _ ih
  have := hq.come s hs (lt_of_get hp)
  simp only
  omega
 ·
  intro s p hs _ h0 _ ih
  have := hq.left s hs h0
  simp only [List.length_append, List.length_cons, List.length_nil]
  omega
 ·
  intro s p hs _ _ h0 ih
  have := hq.idle s hs h0
  simp only
  omega
theorem Reaches.now_in (hper : 1 ≤ per ∧ per ≤ 1000) (ho : OkPks ps) (h : Reaches Q per ps q0 s) : 0 ≤ s.now ∧ s.now ≤ 1099511627776 + 1500000 * s.out.length := by
 refine h.by_steps (C := fun s => 0 ≤ s.now ∧ s.now ≤ 1099511627776 + 1500000 * s.out.length) ⟨Int.le_refl _, by simp⟩ ?_ ?_ ?_
 ·
  intro s p _ _ _ ih
  exact ih
 ·
  intro s p _ _ _ hp ih
  obtain ⟨-, -, h1, h2, -, -⟩ := okPk_true (ho.each _ p hp).1
  have a1 : 0 ≤ per * p.size := Int.mul_nonneg (by omega) (by omega)
  have a2 : per * p.size ≤ 1000 * 1500 := Int.mul_le_mul (by omega) h2 (by omega) (by omega)
  simp only [List.length_append, List.length_cons, List.length_nil]
  omega
 ·
  intro s p _ hp _ _ ih
  obtain ⟨-, -, -, -, h1, h2⟩ := okPk_true (ho.each _ p hp).1
  simp only
  omega
end
def tickOf (ps : List Pk) (j : Nat) : Int := match ps[j]? with | some p => p.tick | none => 0
def bytesOf (ps : List Pk) (j : Nat) : Int := match ps[j]? with | some p => p.size | none => 0
theorem tickOf_get {ps : List Pk} {j : Nat} {p : Pk} (h : ps[j]? = some p) : tickOf ps j = p.tick := by simp [tickOf, h]
theorem bytesOf_get {ps : List Pk} {j : Nat} {p : Pk} (h : ps[j]? = some p) : bytesOf ps j = p.size := by simp [bytesOf, h]
theorem ticks_rise {ps : List Pk} (ho : OkPks ps) : ∀ (d i : Nat), i + d < ps.length → tickOf ps i ≤ tickOf ps (i + d) := by
 intro d
 induction d with
 | zero => intro i _; exact Int.le_refl _
 | succ d ih =>
  intro i h
  have h1 := ih i (by omega)
  have e1 : ps[i + d]? = some ps[i + d] := List.getElem?_eq_getElem (by omega)
  have e2 : ps[i + d + 1]? = some ps[i + d + 1] := List.getElem?_eq_getElem (by omega)
  have h2 := (ho.each (i + d + 1) _ e2).2
  simp only [ahead, e1] at h2
  rw [tickOf_get e1] at h1
  rw [show i + (d + 1) = i + d + 1 by omega, tickOf_get e2]
  omega
theorem ticks_le {ps : List Pk} (ho : OkPks ps) {i k : Nat} (h : i ≤ k) (hk : k < ps.length) : tickOf ps i ≤ tickOf ps k := by
 have := ticks_rise ho (k - i) i (by omega)
 rwa [show i + (k - i) = k by omega] at this
end Go.Proofs.YtibhkijaafdkoaaGreatDoor
