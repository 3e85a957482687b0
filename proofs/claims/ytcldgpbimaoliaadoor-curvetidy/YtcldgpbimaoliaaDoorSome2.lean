/- Walks: the document's answer: is a line somewhere the least? -/
import Derived.Test.YtcldgpbimaoliaaDoorSome1
namespace Go.Proofs.YtcldgpbimaoliaaDoor
open Go.RowKit

theorem prodS {a b : Int} (h1 : -20000 ≤ a) (h2 : a ≤ 20000) (h3 : -100000 ≤ b) (h4 : b ≤ 100000) : -2000000000 ≤ a * b ∧ a * b ≤ 2000000000 := by
  have h := Int.natAbs_mul a b
  have ha : a.natAbs ≤ 20000 := by omega
  have hb : b.natAbs ≤ 100000 := by omega
  have := Nat.mul_le_mul ha hb
  omega

/-- What the document's answer tells of a line. -/
def SomeIs (ls : List (Int × Int)) (i : Nat) (p : Int × Int) (w w' : World) (e : Ending) : Prop := ∃ v, e = .returned (.bool v) ∧ (v = true ↔ KeptAt ls i p) ∧ Below w.heap.size w w'
theorem someIs {ls : List (Int × Int)} {i : Nat} {p : Int × Int} {w w' : World} {e : Ending} (v : Bool) (he : e = .returned (.bool v)) (h : v = true ↔ KeptAt ls i p) (hb : Below w.heap.size w w') : SomeIs ls i p w w' e := ⟨v, he, h, hb⟩
set_option maxRecDepth 100000 in
set_option maxHeartbeats 4000000 in
theorem somewhere_ok (a : Option Addr) (cap i : Nat) (ls : List (Int × Int)) (px py : Int) (w : World) (hl : Lies w a ls) (hi : ls[i]? = some (px, py)) (hn : ls.length ≤ 1000) (hok : okAll ls) :
    Calls Tryd.prog 62 #[.slice a ls.length cap, .int .i64 i] w fun e w' => SomeIs ls i (px, py) w w' e := by
  have hil : i < ls.length := (List.getElem?_eq_some_iff.1 hi).1
  have hpl : (px, py) ∈ ls := List.mem_of_getElem? hi
  obtain ⟨b, off, rfl, hlt, hc⟩ := hl.some (by omega)
  have c1 := (hc i px py hi).1
  have c2 := (hc i px py hi).2
  have HOK : Hid (okAll ls ∧ (px, py) ∈ ls) := ⟨hok, hpl⟩
  obtain ⟨p1, p2, p3, p4⟩ := okLine_true (hok _ hpl)
  simp only [] at p1 p2 p3 p4
  have q := Tryd.eqLine
  have g := fun (w : World) op x y xs ys => run_eqGuard_agg (P := Tryd.prog) w op 54 x y xs ys Tryd.lineGuard
  have HB0 : Hid (Below w.heap.size w (w.alloc (.cells #[.int .i64 px, .int .i64 py] 54))) := (Below.refl _ _).alloc (Nat.le_refl _) _
  have HC : Hid (∀ (i : Nat) (x y : Int), ls[i]? = some (x, y) → w.cell? ⟨b, off + i * 2, none⟩ = some (.int .i64 x) ∧ w.cell? ⟨b, off + i * 2 + 1, none⟩ = some (.int .i64 y)) := hc
  clear hl hok hpl hi hc
  go_enter Tryd.func62, Tryd.ntmps62
  go_wp2_with fail
  go_loopw [5, 6, 7, 8, 9, 11] (fun lo lb op hg hb j wr => ∃ (k : Nat) (low lowBy : Int) (o : Bool) (high highBy : Int), k ≤ ls.length ∧ lo = .int .i64 low ∧ lb = .int .i64 lowBy ∧ op = .bool o ∧ hg = .int .i64 high ∧ hb = .int .i64 highBy ∧ j = .int .i64 k ∧ SoFar ls i k (px, py) low lowBy o high highBy ∧ wr.cell? ⟨w.heap.size, 0, none⟩ = some (.int .i64 px) ∧ wr.cell? ⟨w.heap.size, 1, none⟩ = some (.int .i64 py) ∧ Below w.heap.size w wr) (fun _ _ _ _ _ j _ => ls.length - (intOf j).toNat)
  case atStart => exact ⟨0, 0, 1, false, 0, 0, Nat.zero_le _, rfl, rfl, rfl, rfl, rfl, rfl, sofar_none _ _ _, by simp, by simp, HB0.out⟩
  case round =>
    obtain ⟨k, low, lowBy, o, high, highBy, hk, rfl, rfl, rfl, rfl, rfl, rfl, hsf, d1, d2, hb⟩ := hrel
    have HSF : Hid (SoFar ls i k (px, py) low lowBy o high highBy) := hsf
    obtain ⟨l1, l2, l3, l4⟩ := hsf.lim.lowBd
    obtain ⟨h1, h2, h3, h4⟩ := hsf.lim.highBd
    have HBR : Hid (Below w.heap.size w wr) := hb
    have hs := hb.size
    have hlt0 : w.heap.size < wr.heap.size := cell_lt d1
    clear hsf
    by_cases hkn : k < ls.length
    · obtain ⟨⟨x, y⟩, hp, hm⟩ := get_some ls k hkn
      obtain ⟨r1, r2, r3, r4⟩ := okLine_true (HOK.out.1 _ hm)
      simp only [] at r1 r2 r3 r4
      have HP : Hid (ls[k]? = some (x, y)) := hp
      have e1 : wr.cell? ⟨b, off + k * 2, none⟩ = some (.int .i64 x) := cell_later hb (HC.out k x y hp).1
      have e2 : wr.cell? ⟨b, off + k * 2 + 1, none⟩ = some (.int .i64 y) := cell_later hb (HC.out k x y hp).2
      have HBR1 : Hid (Below w.heap.size w (wr.alloc (.cells #[.int .i64 x, .int .i64 y] 54))) := HBR.out.alloc hs _
      clear hp hm hb
      clear HB0 c1 c2
      by_cases heq : x = px ∧ y = py
      · obtain ⟨rfl, rfl⟩ := heq
        by_cases hki : k < i
        · go_wp2_with fail
          go_ret
          exact someIs false rfl (⟨fun h => (by cases h), fun h => absurd h (sofar_double HP.out hki)⟩) HBR1.out
        · go_wp2_with fail
          go_roundw
          case measure => simp [intOf]; omega
          case rel => exact ⟨k + 1, low, lowBy, o, high, highBy, by omega, rfl, rfl, rfl, rfl, rfl, by go_num, sofar_self HSF.out HP.out hki, cell_later ((Below.refl _ _).alloc (Nat.le_refl _) _) d1, cell_later ((Below.refl _ _).alloc (Nat.le_refl _) _) d2, HBR1.out⟩
      · have HNE : Hid ((x, y) ≠ (px, py)) := fun e => heq (by injection e with e1 e2; exact ⟨e1, e2⟩)
        by_cases hyy : y = py
        · subst hyy
          have hxe : (x == px) = false := by
            rcases Bool.eq_false_or_eq_true (x == px) with h | h
            · exact absurd ⟨eq_of_beq h, rfl⟩ heq
            · exact h
          clear heq
          by_cases hle : x ≤ px
          · go_wp2_with fail
            go_ret
            exact someIs false rfl (⟨fun h => (by cases h), fun h => absurd h (sofar_under HP.out HNE.out rfl hle)⟩) HBR1.out
          · go_wp2_with fail
            go_roundw
            case measure => simp [intOf]; omega
            case rel => exact ⟨k + 1, low, lowBy, o, high, highBy, by omega, rfl, rfl, rfl, rfl, rfl, by go_num, sofar_same HSF.out HP.out HNE.out rfl (show px < x by omega), cell_later ((Below.refl _ _).alloc (Nat.le_refl _) _) d1, cell_later ((Below.refl _ _).alloc (Nat.le_refl _) _) d2, HBR1.out⟩
        · have hye : (y == py) = false := by
            rcases Bool.eq_false_or_eq_true (y == py) with h | h
            · exact absurd (eq_of_beq h) hyy
            · exact h
          clear heq
          by_cases hgt : py < y
          · obtain ⟨m1, m2⟩ := prodS (show -20000 ≤ px - x by omega) (show px - x ≤ 20000 by omega) (show -100000 ≤ lowBy by omega) l4
            obtain ⟨m3, m4⟩ := prodS (show -20000 ≤ low by omega) l2 (show -100000 ≤ y - py by omega) (show y - py ≤ 100000 by omega)
            by_cases hn0 : px - x < 0
            · go_wp2_with fail
              go_roundw
              case measure => simp [intOf]; omega
              case rel => exact ⟨k + 1, low, lowBy, o, high, highBy, by omega, rfl, rfl, rfl, rfl, rfl, by go_num, sofar_above HSF.out HP.out hgt hn0, cell_later ((Below.refl _ _).alloc (Nat.le_refl _) _) d1, cell_later ((Below.refl _ _).alloc (Nat.le_refl _) _) d2, HBR1.out⟩
            · by_cases hpr : low * (y - py) ≤ (px - x) * lowBy
              · go_wp2_with fail
                go_roundw
                case measure => simp [intOf]; omega
                case rel => exact ⟨k + 1, px - x, y - py, true, high, highBy, by omega, rfl, rfl, rfl, rfl, rfl, by go_num, sofar_low HSF.out HP.out HOK.out.1 HOK.out.2 hgt (show 0 ≤ px - x by omega) hpr, cell_later ((Below.refl _ _).alloc (Nat.le_refl _) _) d1, cell_later ((Below.refl _ _).alloc (Nat.le_refl _) _) d2, HBR1.out⟩
              · go_wp2_with fail
                go_roundw
                case measure => simp [intOf]; omega
                case rel => exact ⟨k + 1, low, lowBy, o, high, highBy, by omega, rfl, rfl, rfl, rfl, rfl, by go_num, sofar_sooner HSF.out HP.out hgt (show 0 ≤ px - x by omega) (show (px - x) * lowBy < low * (y - py) by omega), cell_later ((Below.refl _ _).alloc (Nat.le_refl _) _) d1, cell_later ((Below.refl _ _).alloc (Nat.le_refl _) _) d2, HBR1.out⟩
          · have hlt1 : y < py := by omega
            obtain ⟨m1, m2⟩ := prodS (show -20000 ≤ -(px - x) by omega) (show -(px - x) ≤ 20000 by omega) (show -100000 ≤ highBy by omega) h4
            obtain ⟨m3, m4⟩ := prodS h1 h2 (show -100000 ≤ -(y - py) by omega) (show -(y - py) ≤ 100000 by omega)
            by_cases hz : highBy = 0
            · have hz' : (highBy == 0) = true := by rw [hz]; rfl
              go_wp2_with fail
              go_roundw
              case measure => simp [intOf]; omega
              case rel => exact ⟨k + 1, low, lowBy, o, -(px - x), -(y - py), by omega, rfl, rfl, rfl, rfl, rfl, by go_num, sofar_high HSF.out HP.out HOK.out.1 HOK.out.2 hlt1 (.inl hz), cell_later ((Below.refl _ _).alloc (Nat.le_refl _) _) d1, cell_later ((Below.refl _ _).alloc (Nat.le_refl _) _) d2, HBR1.out⟩
            · by_cases hpr : -(px - x) * highBy < high * -(y - py)
              · go_wp2_with fail
                go_roundw
                case measure => simp [intOf]; omega
                case rel => exact ⟨k + 1, low, lowBy, o, -(px - x), -(y - py), by omega, rfl, rfl, rfl, rfl, rfl, by go_num, sofar_high HSF.out HP.out HOK.out.1 HOK.out.2 hlt1 (.inr hpr), cell_later ((Below.refl _ _).alloc (Nat.le_refl _) _) d1, cell_later ((Below.refl _ _).alloc (Nat.le_refl _) _) d2, HBR1.out⟩
              · go_wp2_with fail
                go_roundw
                case measure => simp [intOf]; omega
                case rel => exact ⟨k + 1, low, lowBy, o, high, highBy, by omega, rfl, rfl, rfl, rfl, rfl, by go_num, sofar_later HSF.out HP.out hlt1 hz hpr, cell_later ((Below.refl _ _).alloc (Nat.le_refl _) _) d1, cell_later ((Below.refl _ _).alloc (Nat.le_refl _) _) d2, HBR1.out⟩
    · obtain rfl : k = ls.length := by omega
      obtain ⟨hlim, hsame, hiff⟩ := sofar_end HSF.out (by omega)
      have HE : Hid (LimIs (px, py) ls low lowBy o high highBy ∧ (∀ b, b ∈ ls → b.2 = (px, py).2 → b ≠ (px, py) → (px, py).1 < b.1) ∧ (SomeOf (px, py) ls ↔ KeptAt ls i (px, py))) := ⟨hlim, hsame, hiff⟩
      obtain ⟨m1, m2⟩ := prodS (show -20000 ≤ low by omega) l2 (show -100000 ≤ highBy by omega) h4
      obtain ⟨m3, m4⟩ := prodS h1 h2 (show -100000 ≤ lowBy by omega) l4
      clear hlim hsame hiff hb HB0 c1 c2
      by_cases hz : highBy = 0
      · go_wp2_with fail
        go_ret
        exact someIs true rfl (⟨fun _ => HE.out.2.2.1 (lim_free HE.out.1 HE.out.2.1 hz), fun _ => rfl⟩) HBR.out
      · cases o with
        | false =>
          go_wp2_with fail
          go_ret
          exact someIs _ rfl (by rw [decide_eq_true_iff]; exact (lim_shut HE.out.1 HE.out.2.1 hz rfl).trans HE.out.2.2) HBR.out
        | true =>
          go_wp2_with fail
          go_ret
          exact someIs _ rfl (by rw [decide_eq_true_iff]; exact (lim_open HE.out.1 HE.out.2.1 hz rfl).trans HE.out.2.2) HBR.out
end Go.Proofs.YtcldgpbimaoliaaDoor
