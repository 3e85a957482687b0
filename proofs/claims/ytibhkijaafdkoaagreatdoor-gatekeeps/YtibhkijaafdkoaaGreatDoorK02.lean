/- Own facts, put together: no statement of its own. -/
import Derived.Test.YtibhkijaafdkoaaGreatDoorK01
import Derived.Laws.StructEq
import Derived.BigQuiet
import Derived.Deep.RegionLaw
import Derived.Deep.RegionHeld
import Derived.Sort.Grow
namespace Go.Proofs.YtibhkijaafdkoaaGreatDoor
open Go.RowKit
def cellsL (ls : List (Int × Int)) : List Value := ls.flatMap fun p => [.int .i64 p.1, .int .i64 p.2]
theorem cellsL_cons (p : Int × Int) (r : List (Int × Int)) : cellsL (p :: r) = .int .i64 p.1 :: .int .i64 p.2 :: cellsL r := rfl
theorem cellsL_append (a b : List (Int × Int)) : cellsL (a ++ b) = cellsL a ++ cellsL b := by simp [cellsL]
theorem cellsL_length (ls : List (Int × Int)) : (cellsL ls).length = ls.length * 2 := by
 induction ls with
 | nil => rfl
 | cons p r ih => rw [cellsL_cons]; simp [ih]; omega
theorem cellsL_get (ls : List (Int × Int)) : ∀ i x y, ls[i]? = some (x, y) → (cellsL ls)[i * 2]? = some (.int .i64 x) ∧ (cellsL ls)[i * 2 + 1]? = some (.int .i64 y) := by
 induction ls with
 | nil => intro i x y h; simp at h
 | cons p r ih =>
  intro i x y h
  rw [cellsL_cons]
  cases i with
  | zero => simp at h; subst h; exact ⟨rfl, rfl⟩
  | succ i =>
   have := ih i x y (by simpa using h)
   rw [show (i + 1) * 2 = i * 2 + 1 + 1 by omega]
   exact ⟨by simpa using this.1, by simpa using this.2⟩
theorem cellsL_at (ls : List (Int × Int)) : ∀ j u, (cellsL ls)[j]? = some u → ∃ i x y, ls[i]? = some (x, y) ∧ ((j = i * 2 ∧ u = .int .i64 x) ∨ (j = i * 2 + 1 ∧ u = .int .i64 y)) := by
 induction ls with
 | nil => intro j u h; simp [cellsL] at h
 | cons p r ih =>
  intro j u h
  rw [cellsL_cons] at h
  match j, h with
  | 0, h => exact ⟨0, p.1, p.2, rfl, .inl ⟨rfl, by simpa using h.symm⟩⟩
  | 1, h => exact ⟨0, p.1, p.2, rfl, .inr ⟨rfl, by simpa using h.symm⟩⟩
  | j + 2, h =>
   obtain ⟨i, x, y, hi, hj⟩ := ih j u (by simpa using h)
   exact ⟨i + 1, x, y, by simpa using hi, by rcases hj with ⟨e, f⟩ | ⟨e, f⟩; exact .inl ⟨by omega, f⟩; exact .inr ⟨by omega, f⟩⟩
theorem cellsL_one (ls : List (Int × Int)) : ∀ u ∈ cellsL ls, u.oneCell' = true := by
 intro u hu
 obtain ⟨j, hj⟩ := List.mem_iff_getElem?.1 hu
 obtain ⟨i, x, y, -, h⟩ := cellsL_at ls j u hj
 rcases h with ⟨-, rfl⟩ | ⟨-, rfl⟩ <;> rfl
def OwnL (w : World) (B : Nat) (v : Value) (ls : List (Int × Int)) : Prop := w.ownsRow B 133 2 v ls.length (cellsL ls)
theorem OwnL.open {w : World} {B : Nat} {v : Value} {ls : List (Int × Int)} (h : OwnL w B v ls) :
  ∃ a cap, v = .slice a ls.length cap ∧ ls.length ≤ cap ∧ cap ≤ maxLen ∧ Lies w a ls := by
 obtain ⟨hlen, ⟨rfl, h0⟩ | ⟨g, cap, cur, rfl, hB, hg, hn, hm, hc, ht⟩⟩ := h
 · refine ⟨none, 0, by rw [h0], by omega, by simp [maxLen], .inl (List.length_eq_zero_iff.1 h0)⟩
 ·
  refine ⟨_, cap, rfl, hn, hm, .inr ⟨g, 0, rfl, ?_, fun i x y hi => ?_⟩⟩
  ·
   rcases Nat.lt_or_ge g w.heap.size with h | h
   · exact h
   · simp [Array.getElem?_eq_none h] at hg
  ·
   have hh : w.ownsRow B 133 2 (.slice (some ⟨g, 0, none⟩) ls.length cap) ls.length (cellsL ls) := ⟨hlen, .inr ⟨g, cap, cur, rfl, hB, hg, hn, hm, hc, ht⟩⟩
   have hil : i < ls.length := by
    rcases Nat.lt_or_ge i ls.length with h | h
    · exact h
    · simp [List.getElem?_eq_none h] at hi
   have := cellsL_get ls i x y hi
   rw [hh.cellAt _ (by omega), hh.cellAt _ (by omega), Nat.zero_add]
   exact this
theorem lies_news {w : World} {ad : Addr} {ls : List (Int × Int)} (h : Lies w (some ad) ls) : ∀ j u, (cellsL ls)[j]? = some u → w.cell? (ad.add j) = some u := by
 intro j u hj
 obtain ⟨i, x, y, hi, hc⟩ := cellsL_at ls j u hj
 rcases h with rfl | ⟨b, off, e, -, h⟩
 · simp at hi
 ·
  cases e
  have := h i x y hi
  rw [Addr.add_lit]
  rcases hc with ⟨rfl, rfl⟩ | ⟨rfl, rfl⟩
  · exact this.1
  · exact this.2
theorem Tryz.infoLine : (Tryz.prog.info? 133).map (fun i => (i.zero, i.size, i.bytes)) = some (some (.agg #[.int .i64 0, .int .i64 0]), 2, 16) := by kernel_rfl
set_option maxHeartbeats 400000 in
theorem ownLines_any (a : Option Addr) (cap : Nat) (ls : List (Int × Int)) (w : World) (hl : Lies w a ls) (hn : ls.length ≤ 1000) (ha : a = none → ls = [] ∧ cap = 0) :
  Calls Tryz.prog 35 #[.slice a ls.length cap] w fun e w' => ∃ v, e = .returned v ∧ OwnL w' w.heap.size v ls ∧ Below w.heap.size w w' := by
 obtain ⟨i0, hi, hz0, hz1, hz2⟩ := info_parts Tryz.infoLine
 cases a with
 | none =>
  obtain ⟨rfl, rfl⟩ := ha rfl
  show Calls Tryz.prog 35 #[.slice none 0 0] w _
  go_enter Tryz.func35, Tryz.ntmps35
  go_wp2
  go_ret
  exact ⟨_, rfl, World.ownsRow_nil _ _ _ _, Below.refl _ _⟩
 | some ad =>
  have hnews := lies_news hl
  have hlen := cellsL_length ls
  have hone := cellsL_one ls
  have H1 : Hid (∀ j u, (cellsL ls)[j]? = some u → w.cell? (ad.add j) = some u) := hnews
  have H2 : Hid ((cellsL ls).length = ls.length * 2) := hlen
  have H3 : Hid (∀ u ∈ cellsL ls, u.oneCell' = true) := hone
  have HL : Hid (Lies w (some ad) ls) := hl
  clear hnews hlen hone hl ha
  go_enter Tryz.func35, Tryz.ntmps35
  go_wp2_with (at_builtin; refine wpList_append_own _ rfl _ _ 38 rfl w.heap.size 133 i0 (.agg #[.int .i64 0, .int .i64 0]) 2 16 Tryz.underlying38 hi hz0 hz1 hz2 rfl (by decide) (.slice none 0 0) 0 [] rfl (World.ownsRow_nil _ _ _ _) ad ls.length cap (cellsL ls) rfl H2.out H1.out H3.out (by unfold maxLen; omega) (by omega) (Nat.le_refl _) ?_; intro v' w3 hown' hgrow3 hnil3)
  go_ret
  refine ⟨_, rfl, by simpa [OwnL] using hown', ?_⟩
  exact (Below.refl _ _).grown hgrow3 (Nat.le_refl _) (fun k hk => by cases hk)
end Go.Proofs.YtibhkijaafdkoaaGreatDoor

namespace Go.Proofs.YtibhkijaafdkoaaGreatDoor
open Go.RowKit
theorem firstBad (ls : List (Int × Int)) : okAll ls ∨ ∃ j, j < ls.length ∧ (∀ i x y, i < j → ls[i]? = some (x, y) → okLine x y = true) ∧ ∀ x y, ls[j]? = some (x, y) → okLine x y = false := by
 induction ls with
 | nil => exact .inl fun p hp => by cases hp
 | cons q r ih =>
  cases hq : okLine q.1 q.2 with
  | false => exact .inr ⟨0, by simp, fun i x y hi => by omega, fun x y h => by simp at h; subst h; exact hq⟩
  | true =>
   rcases ih with h | ⟨j, hj, h1, h2⟩
   ·
    refine .inl fun p hp => ?_
    rcases List.mem_cons.1 hp with rfl | hp
    · exact hq
    · exact h p hp
   ·
    refine .inr ⟨j + 1, by simpa using hj, fun i x y hi he => ?_, fun x y he => h2 x y (by simpa using he)⟩
    cases i with
    | zero => simp at he; subst he; exact hq
    | succ i => exact h1 i x y (by omega) (by simpa using he)
structure Errs2 (w : World) (aB aS : Addr) : Prop where
 bound : w.cell? ⟨3, 0, none⟩ = some (.iface 271 (.pointer (some aB)))
 shape : w.cell? ⟨4, 0, none⟩ = some (.iface 271 (.pointer (some aS)))
theorem Errs2.below {w w' : World} {aB aS : Addr} (h : Errs2 w aB aS) (hb : Below w.heap.size w w') : Errs2 w' aB aS :=
 ⟨cell_later hb h.bound, cell_later hb h.shape⟩
set_option maxHeartbeats 400000 in
theorem lineError_yes (x y : Int) (w : World) (h : okLine x y = true) :
  Calls Tryz.prog 69 #[.agg #[.int .i64 x, .int .i64 y]] w fun e w' => e = .returned (.int .i64 0) ∧ w' = w.alloc (.cells #[.int .i64 x, .int .i64 y] 133) := by
 obtain ⟨h1, h2, h3, h4⟩ := okLine_true h
 clear h
 go_enter Tryz.func69, Tryz.ntmps69
 go_wp2
 go_ret
 exact ⟨rfl, rfl⟩
set_option maxHeartbeats 400000 in
theorem lineError_no (x y : Int) (w : World) (h : okLine x y = false) :
  Calls Tryz.prog 69 #[.agg #[.int .i64 x, .int .i64 y]] w fun e w' => e = .returned (.int .i64 2) ∧ w' = w.alloc (.cells #[.int .i64 x, .int .i64 y] 133) := by
 have h' : ¬ (1 ≤ x ∧ x ≤ 20000 ∧ 0 ≤ y ∧ y ≤ 100000) := of_decide_eq_false h
 clear h
 by_cases h1 : 1 ≤ x
 ·
  by_cases h2 : x ≤ 20000
  ·
   by_cases h3 : 0 ≤ y
   ·
    have h4 : ¬ y ≤ 100000 := fun h4 => h' ⟨h1, h2, h3, h4⟩
    clear h'
    go_enter Tryz.func69, Tryz.ntmps69
    go_wp2
    go_ret
    exact ⟨rfl, rfl⟩
   ·
    clear h'
    go_enter Tryz.func69, Tryz.ntmps69
    go_wp2
    go_ret
    exact ⟨rfl, rfl⟩
  ·
   clear h'
   go_enter Tryz.func69, Tryz.ntmps69
   go_wp2
   go_ret
   exact ⟨rfl, rfl⟩
 ·
  clear h'
  go_enter Tryz.func69, Tryz.ntmps69
  go_wp2
  go_ret
  exact ⟨rfl, rfl⟩
end Go.Proofs.YtibhkijaafdkoaaGreatDoor

namespace Go.Proofs.YtibhkijaafdkoaaGreatDoor
open Go.RowKit
theorem OwnL.lies {w : World} {B : Nat} {a : Option Addr} {n cap : Nat} {ls : List (Int × Int)} (h : OwnL w B (.slice a n cap) ls) : n = ls.length ∧ ls.length ≤ cap ∧ cap ≤ maxLen ∧ Lies w a ls := by
 obtain ⟨a', cap', e, h1, h2, h3⟩ := h.open
 injection e with e1 e2 e3
 subst e1 e2 e3
 exact ⟨rfl, h1, h2, h3⟩
end Go.Proofs.YtibhkijaafdkoaaGreatDoor

namespace Go.Proofs.YtibhkijaafdkoaaGreatDoor
open Go.RowKit
theorem Tryz.lineHeld : Tryz.prog.stoodInHeld 133 = false := by kernel_rfl
theorem Tryz.lineGuard : Tryz.prog.eqGuardType Tryz.prog.depth 133 = false := by kernel_rfl
theorem Tryz.lineFieldsIs : (Tryz.prog.fieldsOf 133).toList = [{ name := "Burst", type := 3, offset := 0, embedded := false, tag := "", pkgPath := "", byteOffset := 0 }, { name := "Rate", type := 3, offset := 1, embedded := false, tag := "", pkgPath := "", byteOffset := 8 }] := by
 simp only [Program.fieldsOf, Tryz.underlying133]
theorem Tryz.lineFields : Tryz.prog.underlying 133 = some (.struct (Tryz.prog.fieldsOf 133)) := by
 simp only [Program.fieldsOf, Tryz.underlying133]
theorem Tryz.part0 (w : World) (x y : Int) : (part 3 #[.int .i64 x, .int .i64 y] 0).run Tryz.prog w = .ok (.int .i64 x) w := by kernel_rfl
theorem Tryz.part1 (w : World) (x y : Int) : (part 3 #[.int .i64 x, .int .i64 y] 1).run Tryz.prog w = .ok (.int .i64 y) w := by kernel_rfl
theorem Tryz.eqLine (w : World) (x y x' y' : Int) : (binOp .eql 133 (.agg #[.int .i64 x, .int .i64 y]) (.agg #[.int .i64 x', .int .i64 y'])).run Tryz.prog w = .ok (.bool (x == x' && y == y')) w := by
 rw [run_eql_struct, run_equalIn_struct _ 9999 _ _ _ Tryz.lineFields Tryz.lineHeld, Tryz.lineFieldsIs]
 have h1 : ("Burst" : String) ≠ "_" := by decide
 have h2 : ("Rate" : String) ≠ "_" := by decide
 simp only [Op.eqFields, if_pos h1, if_pos h2, Sem.run_bind, Tryz.part0, Tryz.part1, Result.andThen_ok, run_equalIn_int _ 9998 3 .i64 .i64 _ _ Tryz.underlying3, Sem.run_ite, Sem.run_pure]
 cases x == x' <;> cases y == y' <;> rfl
end Go.Proofs.YtibhkijaafdkoaaGreatDoor

namespace Go.Proofs.YtibhkijaafdkoaaGreatDoor
open Go.RowKit
structure SoFar (ls : List (Int × Int)) (i k : Nat) (p : Int × Int) (low lowBy : Int) (op : Bool) (high highBy : Int) : Prop where
 lim : LimIs p (ls.take k) low lowBy op high highBy
 early : ∀ j, j < k → j < i → ls[j]? ≠ some p
 same : ∀ b, b ∈ ls.take k → b.2 = p.2 → b ≠ p → p.1 < b.1
theorem sofar_none (ls : List (Int × Int)) (i : Nat) (p : Int × Int) : SoFar ls i 0 p 0 1 false 0 0 :=
 ⟨lim_none p, fun _ h => absurd h (Nat.not_lt_zero _), fun _ h => by simp at h⟩
section
variable {ls : List (Int × Int)} {i k : Nat} {p b : Int × Int} {low lowBy high highBy low' lowBy' high' highBy' : Int} {op op' : Bool}
theorem sofar_next (h : SoFar ls i k p low lowBy op high highBy) (hb : ls[k]? = some b) (hl : LimIs p (ls.take k ++ [b]) low' lowBy' op' high' highBy') (he : b = p → ¬ k < i) (hs : b.2 = p.2 → b ≠ p → p.1 < b.1) : SoFar ls i (k + 1) p low' lowBy' op' high' highBy' := by
 have e : ls.take (k + 1) = ls.take k ++ [b] := by rw [List.take_add_one, hb]; rfl
 refine ⟨by rw [e]; exact hl, fun j hj hi e' => ?_, fun c hc h1 h2 => ?_⟩
 ·
  rcases Nat.lt_or_ge j k with hjk | hjk
  · exact h.early j hjk hi e'
  ·
   have : j = k := by omega
   subst this
   rw [hb] at e'
   injection e' with e'
   exact he e' hi
 ·
  rw [e] at hc
  rcases List.mem_append.1 hc with hc | hc
  · exact h.same c hc h1 h2
  ·
   rw [List.mem_singleton.1 hc] at h1 h2 ⊢
   exact hs h1 h2
theorem sofar_self (h : SoFar ls i k p low lowBy op high highBy) (hb : ls[k]? = some p) (hk : ¬ k < i) : SoFar ls i (k + 1) p low lowBy op high highBy :=
 sofar_next h hb (lim_same h.lim rfl) (fun _ => hk) (fun _ hne => absurd rfl hne)
theorem ne_of_rate (h : b.2 ≠ p.2) : b = p → ¬ k < i := fun e => absurd (e ▸ rfl) h
theorem sofar_same (h : SoFar ls i k p low lowBy op high highBy) (hb : ls[k]? = some b) (hne : b ≠ p) (hs : b.2 = p.2) (hl : p.1 < b.1) : SoFar ls i (k + 1) p low lowBy op high highBy :=
 sofar_next h hb (lim_same h.lim hs) (fun e => absurd e hne) (fun _ _ => hl)
theorem sofar_above (h : SoFar ls i k p low lowBy op high highBy) (hb : ls[k]? = some b) (hs : p.2 < b.2) (hn : p.1 - b.1 < 0) : SoFar ls i (k + 1) p low lowBy op high highBy :=
 sofar_next h hb (lim_above h.lim hs hn) (ne_of_rate (by omega)) (fun e _ => by omega)
theorem sofar_sooner (h : SoFar ls i k p low lowBy op high highBy) (hb : ls[k]? = some b) (hs : p.2 < b.2) (hn : 0 ≤ p.1 - b.1) (hp : (p.1 - b.1) * lowBy < low * (b.2 - p.2)) : SoFar ls i (k + 1) p low lowBy op high highBy :=
 sofar_next h hb (lim_sooner h.lim hs hn hp) (ne_of_rate (by omega)) (fun e _ => by omega)
theorem sofar_low (h : SoFar ls i k p low lowBy op high highBy) (hb : ls[k]? = some b) (hok : okAll ls) (hpl : p ∈ ls) (hs : p.2 < b.2) (hn : 0 ≤ p.1 - b.1) (hp : low * (b.2 - p.2) ≤ (p.1 - b.1) * lowBy) : SoFar ls i (k + 1) p (p.1 - b.1) (b.2 - p.2) true high highBy :=
 sofar_next h hb (lim_low h.lim (okLine_true (hok p hpl)) (okLine_true (hok b (List.mem_of_getElem? hb))) hs hn hp) (ne_of_rate (by omega)) (fun e _ => by omega)
theorem sofar_high (h : SoFar ls i k p low lowBy op high highBy) (hb : ls[k]? = some b) (hok : okAll ls) (hpl : p ∈ ls) (hs : b.2 < p.2) (hp : highBy = 0 ∨ -(p.1 - b.1) * highBy < high * -(b.2 - p.2)) : SoFar ls i (k + 1) p low lowBy op (-(p.1 - b.1)) (-(b.2 - p.2)) :=
 sofar_next h hb (lim_high h.lim (okLine_true (hok p hpl)) (okLine_true (hok b (List.mem_of_getElem? hb))) hs hp) (ne_of_rate (by omega)) (fun e _ => by omega)
theorem sofar_later (h : SoFar ls i k p low lowBy op high highBy) (hb : ls[k]? = some b) (hs : b.2 < p.2) (hz : highBy ≠ 0) (hp : ¬ -(p.1 - b.1) * highBy < high * -(b.2 - p.2)) : SoFar ls i (k + 1) p low lowBy op high highBy :=
 sofar_next h hb (lim_later h.lim hs hz hp) (ne_of_rate (by omega)) (fun e _ => by omega)
theorem sofar_double (hb : ls[k]? = some p) (hk : k < i) : ¬ KeptAt ls i p := fun h => h.2 k hk hb
theorem sofar_under (hb : ls[k]? = some b) (hne : b ≠ p) (hs : b.2 = p.2) (hl : b.1 ≤ p.1) : ¬ KeptAt ls i p := fun h => by
 have := h.1.same b (List.mem_of_getElem? hb) hs hne
 omega
theorem sofar_end (h : SoFar ls i ls.length p low lowBy op high highBy) (hi : i ≤ ls.length) : LimIs p ls low lowBy op high highBy ∧ (∀ b, b ∈ ls → b.2 = p.2 → b ≠ p → p.1 < b.1) ∧ (SomeOf p ls ↔ KeptAt ls i p) := by
 have h1 := h.lim
 have h2 := h.same
 rw [List.take_length] at h1 h2
 exact ⟨h1, h2, ⟨fun hs => ⟨hs, fun j hj => h.early j (by omega) hj⟩, fun hk => hk.1⟩⟩
end
end Go.Proofs.YtibhkijaafdkoaaGreatDoor

namespace Go.Proofs.YtibhkijaafdkoaaGreatDoor
open Go.RowKit
theorem prodS {a b : Int} (h1 : -20000 ≤ a) (h2 : a ≤ 20000) (h3 : -100000 ≤ b) (h4 : b ≤ 100000) : -2000000000 ≤ a * b ∧ a * b ≤ 2000000000 := by
 have h := Int.natAbs_mul a b
 have ha : a.natAbs ≤ 20000 := by omega
 have hb : b.natAbs ≤ 100000 := by omega
 have := Nat.mul_le_mul ha hb
 omega
def SomeIs (ls : List (Int × Int)) (i : Nat) (p : Int × Int) (w w' : World) (e : Ending) : Prop := ∃ v, e = .returned (.bool v) ∧ (v = true ↔ KeptAt ls i p) ∧ Below w.heap.size w w'
theorem someIs {ls : List (Int × Int)} {i : Nat} {p : Int × Int} {w w' : World} {e : Ending} (v : Bool) (he : e = .returned (.bool v)) (h : v = true ↔ KeptAt ls i p) (hb : Below w.heap.size w w') : SomeIs ls i p w w' e := ⟨v, he, h, hb⟩
set_option maxRecDepth 100000 in
set_option maxHeartbeats 4000000 in
theorem somewhere_ok (a : Option Addr) (cap i : Nat) (ls : List (Int × Int)) (px py : Int) (w : World) (hl : Lies w a ls) (hi : ls[i]? = some (px, py)) (hn : ls.length ≤ 1000) (hok : okAll ls) :
  Calls Tryz.prog 120 #[.slice a ls.length cap, .int .i64 i] w fun e w' => SomeIs ls i (px, py) w w' e := by
 have hil : i < ls.length := (List.getElem?_eq_some_iff.1 hi).1
 have hpl : (px, py) ∈ ls := List.mem_of_getElem? hi
 obtain ⟨b, off, rfl, hlt, hc⟩ := hl.some (by omega)
 have c1 := (hc i px py hi).1
 have c2 := (hc i px py hi).2
 have HOK : Hid (okAll ls ∧ (px, py) ∈ ls) := ⟨hok, hpl⟩
 obtain ⟨p1, p2, p3, p4⟩ := okLine_true (hok _ hpl)
 simp only [] at p1 p2 p3 p4
 have q := Tryz.eqLine
 have g := fun (w : World) op x y xs ys => run_eqGuard_agg (P := Tryz.prog) w op 133 x y xs ys Tryz.lineGuard
 have HB0 : Hid (Below w.heap.size w (w.alloc (.cells #[.int .i64 px, .int .i64 py] 133))) := (Below.refl _ _).alloc (Nat.le_refl _) _
 have HC : Hid (∀ (i : Nat) (x y : Int), ls[i]? = some (x, y) → w.cell? ⟨b, off + i * 2, none⟩ = some (.int .i64 x) ∧ w.cell? ⟨b, off + i * 2 + 1, none⟩ = some (.int .i64 y)) := hc
 clear hl hok hpl hi hc
 go_enter Tryz.func120, Tryz.ntmps120
 go_wp2_with fail
 go_loopw [5, 6, 7, 8, 9, 11] (fun lo lb op hg hb j wr => ∃ (k : Nat) (low lowBy : Int) (o : Bool) (high highBy : Int), k ≤ ls.length ∧ lo = .int .i64 low ∧ lb = .int .i64 lowBy ∧ op = .bool o ∧ hg = .int .i64 high ∧ hb = .int .i64 highBy ∧ j = .int .i64 k ∧ SoFar ls i k (px, py) low lowBy o high highBy ∧ wr.cell? ⟨w.heap.size, 0, none⟩ = some (.int .i64 px) ∧ wr.cell? ⟨w.heap.size, 1, none⟩ = some (.int .i64 py) ∧ Below w.heap.size w wr) (fun _ _ _ _ _ j _ => ls.length - (intOf j).toNat)
 case atStart => exact ⟨0, 0, 1, false, 0, 0, Nat.zero_le _, rfl, rfl, rfl, rfl, rfl, rfl, sofar_none _ _ _, by simp, by simp, HB0.out⟩
 case round =>
  obtain ⟨k, low, lowBy, o, high, highBy, hk, rfl, rfl, rfl, rfl, rfl, rfl, hsf, d1, d2, hb⟩ := hrel
  have HSF : Hid (SoFar ls i k (px, py) low lowBy o high highBy) := hsf
  obtain ⟨l1, l2, l3, l4⟩ := hsf.lim.lowBd
  obtain ⟨h1, h2, h3, h4⟩ := hsf.lim.highBd
  have HBR : Hid (Below w.heap.size w wr) := hb
  have hs := hb.size
  have hlt0 : w.heap.size < wr.heap.size := cell_lt d1
  clear hsf
  by_cases hkn : k < ls.length
  ·
   obtain ⟨⟨x, y⟩, hp, hm⟩ := get_some ls k hkn
   obtain ⟨r1, r2, r3, r4⟩ := okLine_true (HOK.out.1 _ hm)
   simp only [] at r1 r2 r3 r4
   have HP : Hid (ls[k]? = some (x, y)) := hp
   have e1 : wr.cell? ⟨b, off + k * 2, none⟩ = some (.int .i64 x) := cell_later hb (HC.out k x y hp).1
   have e2 : wr.cell? ⟨b, off + k * 2 + 1, none⟩ = some (.int .i64 y) := cell_later hb (HC.out k x y hp).2
   have HBR1 : Hid (Below w.heap.size w (wr.alloc (.cells #[.int .i64 x, .int .i64 y] 133))) := HBR.out.alloc hs _
   clear hp hm hb
   clear HB0 c1 c2
   by_cases heq : x = px ∧ y = py
   ·
    obtain ⟨rfl, rfl⟩ := heq
    by_cases hki : k < i
    ·
     go_wp2_with fail
     go_ret
     exact someIs false rfl (⟨fun h => (by cases h), fun h => absurd h (sofar_double HP.out hki)⟩) HBR1.out
    ·
     go_wp2_with fail
     go_roundw
     case measure => simp [intOf]; omega
     case rel => exact ⟨k + 1, low, lowBy, o, high, highBy, by omega, rfl, rfl, rfl, rfl, rfl, by go_num, sofar_self HSF.out HP.out hki, cell_later ((Below.refl _ _).alloc (Nat.le_refl _) _) d1, cell_later ((Below.refl _ _).alloc (Nat.le_refl _) _) d2, HBR1.out⟩
   ·
    have HNE : Hid ((x, y) ≠ (px, py)) := fun e => heq (by injection e with e1 e2; exact ⟨e1, e2⟩)
    by_cases hyy : y = py
    ·
     subst hyy
     have hxe : (x == px) = false := by
      rcases Bool.eq_false_or_eq_true (x == px) with h | h
      · exact absurd ⟨eq_of_beq h, rfl⟩ heq
      · exact h
     clear heq
     by_cases hle : x ≤ px
     ·
      go_wp2_with fail
      go_ret
      exact someIs false rfl (⟨fun h => (by cases h), fun h => absurd h (sofar_under HP.out HNE.out rfl hle)⟩) HBR1.out
     ·
      go_wp2_with fail
      go_roundw
      case measure => simp [intOf]; omega
      case rel => exact ⟨k + 1, low, lowBy, o, high, highBy, by omega, rfl, rfl, rfl, rfl, rfl, by go_num, sofar_same HSF.out HP.out HNE.out rfl (show px < x by omega), cell_later ((Below.refl _ _).alloc (Nat.le_refl _) _) d1, cell_later ((Below.refl _ _).alloc (Nat.le_refl _) _) d2, HBR1.out⟩
    ·
     have hye : (y == py) = false := by
      rcases Bool.eq_false_or_eq_true (y == py) with h | h
      · exact absurd (eq_of_beq h) hyy
      · exact h
     clear heq
     by_cases hgt : py < y
     ·
      obtain ⟨m1, m2⟩ := prodS (show -20000 ≤ px - x by omega) (show px - x ≤ 20000 by omega) (show -100000 ≤ lowBy by omega) l4
      obtain ⟨m3, m4⟩ := prodS (show -20000 ≤ low by omega) l2 (show -100000 ≤ y - py by omega) (show y - py ≤ 100000 by omega)
      by_cases hn0 : px - x < 0
      ·
       go_wp2_with fail
       go_roundw
       case measure => simp [intOf]; omega
       case rel => exact ⟨k + 1, low, lowBy, o, high, highBy, by omega, rfl, rfl, rfl, rfl, rfl, by go_num, sofar_above HSF.out HP.out hgt hn0, cell_later ((Below.refl _ _).alloc (Nat.le_refl _) _) d1, cell_later ((Below.refl _ _).alloc (Nat.le_refl _) _) d2, HBR1.out⟩
      ·
       by_cases hpr : low * (y - py) ≤ (px - x) * lowBy
       ·
        go_wp2_with fail
        go_roundw
        case measure => simp [intOf]; omega
        case rel => exact ⟨k + 1, px - x, y - py, true, high, highBy, by omega, rfl, rfl, rfl, rfl, rfl, by go_num, sofar_low HSF.out HP.out HOK.out.1 HOK.out.2 hgt (show 0 ≤ px - x by omega) hpr, cell_later ((Below.refl _ _).alloc (Nat.le_refl _) _) d1, cell_later ((Below.refl _ _).alloc (Nat.le_refl _) _) d2, HBR1.out⟩
       ·
        go_wp2_with fail
        go_roundw
        case measure => simp [intOf]; omega
        case rel => exact ⟨k + 1, low, lowBy, o, high, highBy, by omega, rfl, rfl, rfl, rfl, rfl, by go_num, sofar_sooner HSF.out HP.out hgt (show 0 ≤ px - x by omega) (show (px - x) * lowBy < low * (y - py) by omega), cell_later ((Below.refl _ _).alloc (Nat.le_refl _) _) d1, cell_later ((Below.refl _ _).alloc (Nat.le_refl _) _) d2, HBR1.out⟩
     ·
      have hlt1 : y < py := by omega
      obtain ⟨m1, m2⟩ := prodS (show -20000 ≤ -(px - x) by omega) (show -(px - x) ≤ 20000 by omega) (show -100000 ≤ highBy by omega) h4
      obtain ⟨m3, m4⟩ := prodS h1 h2 (show -100000 ≤ -(y - py) by omega) (show -(y - py) ≤ 100000 by omega)
      by_cases hz : highBy = 0
      ·
       have hz' : (highBy == 0) = true := by rw [hz]; rfl
       go_wp2_with fail
       go_roundw
       case measure => simp [intOf]; omega
       case rel => exact ⟨k + 1, low, lowBy, o, -(px - x), -(y - py), by omega, rfl, rfl, rfl, rfl, rfl, by go_num, sofar_high HSF.out HP.out HOK.out.1 HOK.out.2 hlt1 (.inl hz), cell_later ((Below.refl _ _).alloc (Nat.le_refl _) _) d1, cell_later ((Below.refl _ _).alloc (Nat.le_refl _) _) d2, HBR1.out⟩
      ·
       by_cases hpr : -(px - x) * highBy < high * -(y - py)
       ·
        go_wp2_with fail
        go_roundw
        case measure => simp [intOf]; omega
        case rel => exact ⟨k + 1, low, lowBy, o, -(px - x), -(y - py), by omega, rfl, rfl, rfl, rfl, rfl, by go_num, sofar_high HSF.out HP.out HOK.out.1 HOK.out.2 hlt1 (.inr hpr), cell_later ((Below.refl _ _).alloc (Nat.le_refl _) _) d1, cell_later ((Below.refl _ _).alloc (Nat.le_refl _) _) d2, HBR1.out⟩
       ·
        go_wp2_with fail
        go_roundw
        case measure => simp [intOf]; omega
        case rel => exact ⟨k + 1, low, lowBy, o, high, highBy, by omega, rfl, rfl, rfl, rfl, rfl, by go_num, sofar_later HSF.out HP.out hlt1 hz hpr, cell_later ((Below.refl _ _).alloc (Nat.le_refl _) _) d1, cell_later ((Below.refl _ _).alloc (Nat.le_refl _) _) d2, HBR1.out⟩
  ·
   obtain rfl : k = ls.length := by omega
   obtain ⟨hlim, hsame, hiff⟩ := sofar_end HSF.out (by omega)
   have HE : Hid (LimIs (px, py) ls low lowBy o high highBy ∧ (∀ b, b ∈ ls → b.2 = (px, py).2 → b ≠ (px, py) → (px, py).1 < b.1) ∧ (SomeOf (px, py) ls ↔ KeptAt ls i (px, py))) := ⟨hlim, hsame, hiff⟩
   obtain ⟨m1, m2⟩ := prodS (show -20000 ≤ low by omega) l2 (show -100000 ≤ highBy by omega) h4
   obtain ⟨m3, m4⟩ := prodS h1 h2 (show -100000 ≤ lowBy by omega) l4
   clear hlim hsame hiff hb HB0 c1 c2
   by_cases hz : highBy = 0
   ·
    go_wp2_with fail
    go_ret
    exact someIs true rfl (⟨fun _ => HE.out.2.2.1 (lim_free HE.out.1 HE.out.2.1 hz), fun _ => rfl⟩) HBR.out
   ·
    cases o with
    | false =>
     go_wp2_with fail
     go_ret
     exact someIs _ rfl (by rw [decide_eq_true_iff]; exact (lim_shut HE.out.1 HE.out.2.1 hz rfl).trans HE.out.2.2) HBR.out
    | true =>
     go_wp2_with fail
     go_ret
     exact someIs _ rfl (by rw [decide_eq_true_iff]; exact (lim_open HE.out.1 HE.out.2.1 hz rfl).trans HE.out.2.2) HBR.out
end Go.Proofs.YtibhkijaafdkoaaGreatDoor

namespace Go.Proofs.YtibhkijaafdkoaaGreatDoor
open Go.RowKit
def cmpI (a b : Int) : Int := if a < b then -1 else if b < a then 1 else 0
theorem cmpI_lt {a b : Int} : cmpI a b < 0 ↔ a < b := by unfold cmpI; split; omega; split <;> omega
theorem cmpI_zero {a b : Int} : cmpI a b = 0 ↔ a = b := by unfold cmpI; split; omega; split <;> omega
theorem compare_any (a b : Int) (w : World) : Calls Tryz.prog 83 #[.int .i64 a, .int .i64 b] w fun e w' => e = .returned (.int .i64 (cmpI a b)) ∧ w' = w := by
 by_cases h1 : a < b
 ·
  have HC : Hid (cmpI a b = -1) := by show _ = _; unfold cmpI; rw [if_pos h1]
  go_enter Tryz.func83, Tryz.ntmps83
  go_wp2
  go_ret
  exact ⟨congrArg (fun z => Ending.returned (.int .i64 z)) HC.out.symm, rfl⟩
 ·
  by_cases h2 : b < a
  ·
   have HC : Hid (cmpI a b = 1) := by show _ = _; unfold cmpI; rw [if_neg h1, if_pos h2]
   go_enter Tryz.func83, Tryz.ntmps83
   go_wp2
   go_ret
   exact ⟨congrArg (fun z => Ending.returned (.int .i64 z)) HC.out.symm, rfl⟩
  ·
   have HC : Hid (cmpI a b = 0) := by show _ = _; unfold cmpI; rw [if_neg h1, if_neg h2]
   go_enter Tryz.func83, Tryz.ntmps83
   go_wp2
   go_ret
   exact ⟨congrArg (fun z => Ending.returned (.int .i64 z)) HC.out.symm, rfl⟩
end Go.Proofs.YtibhkijaafdkoaaGreatDoor

namespace Go.Proofs.YtibhkijaafdkoaaGreatDoor
open Go.RowKit Go.Sort
def cmpL (x y : Int × Int) : Int := if cmpI y.2 x.2 = 0 then cmpI y.1 x.1 else cmpI y.2 x.2
theorem or_any (c1 c2 : Int) (B : Nat) (w : World) (h1 : w.cell? ⟨B, 0, none⟩ = some (.int .i64 c1)) (h2 : w.cell? ⟨B, 1, none⟩ = some (.int .i64 c2)) :
  Calls Tryz.prog 169 #[.slice (some ⟨B, 0, none⟩) 2 2] w fun e w' => e = .returned (.int .i64 (if c1 = 0 then c2 else c1)) ∧ w' = w := by
 by_cases hc : c1 = 0
 ·
  subst hc
  by_cases hd : c2 = 0
  ·
   subst hd
   go_enter Tryz.func169, Tryz.ntmps169
   go_wp2
   refine wp_loop_rounds 3 ?_
   rw [rounds_succ]
   go_wp2
   rw [rounds_succ]
   go_wp2
   rw [rounds_succ]
   go_wp2
   go_ret
   exact ⟨rfl, rfl⟩
  ·
   have hd' : (c2 == 0) = false := by simpa using hd
   go_enter Tryz.func169, Tryz.ntmps169
   go_wp2
   refine wp_loop_rounds 2 ?_
   rw [rounds_succ]
   go_wp2
   rw [rounds_succ]
   go_wp2
   go_ret
   exact ⟨rfl, rfl⟩
 ·
  have hc' : (c1 == 0) = false := by simpa using hc
  rw [if_neg hc]
  go_enter Tryz.func169, Tryz.ntmps169
  go_wp2
  refine wp_loop_rounds 1 ?_
  rw [rounds_succ]
  go_wp2
  go_ret
  exact ⟨rfl, rfl⟩
theorem twoB_three (w : World) (o1 o2 : Obj) (u v : Value) (t : TypeId) : (((w.alloc o1).alloc o2).alloc (.cells #[u, v] t)).cell? ⟨w.heap.size + 1 + 1, 0, none⟩ = some u ∧ (((w.alloc o1).alloc o2).alloc (.cells #[u, v] t)).cell? ⟨w.heap.size + 1 + 1, 1, none⟩ = some v := by
 rw [World.cell?_alloc_at _ _ _ _ (by simp), World.cell?_alloc_at _ _ _ _ (by simp)]
 exact ⟨rfl, rfl⟩
theorem third_at (w : World) (o1 o2 : Obj) (u v : Value) (t : TypeId) : (((w.alloc o1).alloc o2).alloc (.cells #[u, v] t)).drew.cell? ⟨w.heap.size + 1 + 1, 0, none⟩ = some u ∧ (((w.alloc o1).alloc o2).alloc (.cells #[u, v] t)).drew.cell? ⟨w.heap.size + 1 + 1, 1, none⟩ = some v := by
 have h0 := (twoB_three w o1 o2 u v t).1
 have h1 := (twoB_three w o1 o2 u v t).2
 exact ⟨h0, h1⟩
theorem three_grow (w : World) (o1 o2 o3 : Obj) : (((w.alloc o1).alloc o2).alloc o3).drew = grow (w.drewN 1) #[o1, o2, o3] := by
 rw [alloc_eq_grow, alloc_eq_grow, alloc_eq_grow, grow_grow, grow_grow]
 rfl
set_option maxRecDepth 100000 in
set_option maxHeartbeats 400000 in
theorem order_call (x y : Int × Int) (w : World) :
  Calls Tryz.prog 168 #[.agg #[.int .i64 x.1, .int .i64 x.2], .agg #[.int .i64 y.1, .int .i64 y.2]] w fun e w' => e = .returned (.int .i64 (cmpL x y)) ∧ ∃ q os', w' = grow (w.drewN q) os' := by
 obtain ⟨x1, x2⟩ := x
 obtain ⟨y1, y2⟩ := y
 have HL : Hid (cmpL (x1, x2) (y1, y2) = if cmpI y2 x2 = 0 then cmpI y1 x1 else cmpI y2 x2) := rfl
 have hc1 := fun W => compare_any y2 x2 W
 have hc2 := fun W => compare_any y1 x1 W
 obtain ⟨r1, hr1⟩ : ∃ r, cmpI y2 x2 = r := ⟨_, rfl⟩
 obtain ⟨r2, hr2⟩ : ∃ r, cmpI y1 x1 = r := ⟨_, rfl⟩
 rw [hr1] at hc1
 rw [hr2] at hc2
 have HR : Hid (cmpI y2 x2 = r1 ∧ cmpI y1 x1 = r2) := ⟨hr1, hr2⟩
 have H1 : Hid (∀ W : World, Calls Tryz.prog 83 #[.int .i64 y2, .int .i64 x2] W fun e w' => e = .returned (.int .i64 r1) ∧ w' = W) := hc1
 have H2 : Hid (∀ W : World, Calls Tryz.prog 83 #[.int .i64 y1, .int .i64 x1] W fun e w' => e = .returned (.int .i64 r2) ∧ w' = W) := hc2
 have h3 := fun B W => or_any r1 r2 B W
 obtain ⟨R, hR⟩ : ∃ R, (if r1 = 0 then r2 else r1) = R := ⟨_, rfl⟩
 rw [hR] at h3
 have HQ : Hid ((if r1 = 0 then r2 else r1) = R) := hR
 have H3 : Hid (∀ B (W : World), W.cell? ⟨B, 0, none⟩ = some (.int .i64 r1) → W.cell? ⟨B, 1, none⟩ = some (.int .i64 r2) → Calls Tryz.prog 169 #[.slice (some ⟨B, 0, none⟩) 2 2] W fun e w' => e = .returned (.int .i64 R) ∧ w' = W) := h3
 clear hc1 hc2 hr1 hr2 h3 hR
 go_enter Tryz.func168, Tryz.ntmps168
 go_wp2_with fail
 go_region_held (fun w' => w'.cell? ⟨w.heap.size, 0, none⟩ = some (.int .i64 x1) ∧ w'.cell? ⟨w.heap.size, 1, none⟩ = some (.int .i64 x2) ∧ w'.cell? ⟨w.heap.size + 1, 0, none⟩ = some (.int .i64 y1) ∧ w'.cell? ⟨w.heap.size + 1, 1, none⟩ = some (.int .i64 y2)) (go_keep)
  (first
  | (go_at_call_of 83 (Value.int IntKind.i64 y2); refine (H1.out _).mono ?_; rintro e w' ⟨rfl, rfl⟩)
  | (go_at_call_of 83 (Value.int IntKind.i64 y1); refine (H2.out _).mono ?_; rintro e w' ⟨rfl, rfl⟩)
  | (go_at_call 169; refine (H3.out _ _ (third_at _ _ _ _ _ _).1 (third_at _ _ _ _ _ _).2).mono ?_; rintro e w' ⟨rfl, rfl⟩))
 all_goals (go_wp2_with fail; go_ret)
 all_goals exact ⟨congrArg (fun z => Ending.returned (.int .i64 z)) (by rw [HL.out, HR.out.1, HR.out.2, HQ.out]), 1, _, three_grow _ _ _ _⟩
end Go.Proofs.YtibhkijaafdkoaaGreatDoor
