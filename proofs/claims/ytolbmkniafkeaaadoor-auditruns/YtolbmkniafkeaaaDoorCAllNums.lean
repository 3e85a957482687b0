/- Own facts, put together: no statement of its own. -/
import Derived.Deep.LoopGhost
import Derived.Test.YtolbmkniafkeaaaDoorCOwnRow

/- Numbers of flows: are they right? Package link's CheckNumbers, package rank's checkUpTo, the document's answer's NumbersError. -/
namespace Go.Proofs.YtolbmkniafkeaaaDoor
open Go.RowKit

def numIn (lo hi x : Int) : Bool := decide (lo ≤ x ∧ x ≤ hi)
theorem numIn_true {lo hi x : Int} (h : numIn lo hi x = true) : lo ≤ x ∧ x ≤ hi := of_decide_eq_true h
theorem numIn_false {lo hi x : Int} (h : numIn lo hi x = false) : ¬ (lo ≤ x ∧ x ≤ hi) := of_decide_eq_false h
/-- Eight numbers, each in its bounds. -/
structure NumsOk (lo hi : Int) (ns : List Int) : Prop where
  len : ns.length = 8
  each : ∀ (i : Nat) x, ns[i]? = some x → lo ≤ x ∧ x ≤ hi
/-- The first that is not. -/
def NumBad (lo hi : Int) (ns : List Int) (j : Nat) : Prop := ns.length = 8 ∧ (∃ x, ns[j]? = some x ∧ ¬ (lo ≤ x ∧ x ≤ hi)) ∧ ∀ (i : Nat) y, i < j → ns[i]? = some y → lo ≤ y ∧ y ≤ hi
/-- What is wrong with numbers, by the error's number. -/
def NumsFault (lo hi : Int) (ns : List Int) (c : Nat) : Prop := (c = 3 ∧ ns.length ≠ 8) ∨ (c = 2 ∧ ∃ j, NumBad lo hi ns j) ∨ (c = 0 ∧ NumsOk lo hi ns)
theorem numsFault_is (lo hi : Int) (ns : List Int) : ∃ c, NumsFault lo hi ns c := by
  by_cases hl : ns.length = 8
  · have key : ∀ k, k ≤ ns.length → (∀ (i : Nat) y, i < k → ns[i]? = some y → lo ≤ y ∧ y ≤ hi) ∨ ∃ j, NumBad lo hi ns j := by
      intro k
      induction k with
      | zero => intro _; exact .inl fun i y h => by omega
      | succ k ih =>
        intro hk
        rcases ih (by omega) with h | h
        · obtain ⟨x, hx, -⟩ := get_some ns k (by omega)
          by_cases hb : lo ≤ x ∧ x ≤ hi
          · refine .inl fun i y hi' hy => ?_
            rcases Nat.lt_or_ge i k with h' | h'
            · exact h i y h' hy
            · obtain rfl : i = k := by omega
              obtain rfl := Option.some.inj (hx.symm.trans hy)
              exact hb
          · exact .inr ⟨k, hl, ⟨x, hx, hb⟩, h⟩
        · exact .inr h
    rcases key ns.length (Nat.le_refl _) with h | h
    · exact ⟨0, .inr (.inr ⟨rfl, hl, fun i x hx => h i x (by
        rcases Nat.lt_or_ge i ns.length with h' | h'
        · exact h'
        · simp [List.getElem?_eq_none h'] at hx) hx⟩)⟩
    · exact ⟨2, .inr (.inl ⟨rfl, h⟩)⟩
  · exact ⟨3, .inl ⟨rfl, hl⟩⟩
end Go.Proofs.YtolbmkniafkeaaaDoor

/- Walks: numbers of flows: package link's CheckNumbers, package rank's checkUpTo. -/
namespace Go.Proofs.YtolbmkniafkeaaaDoor
open Go.RowKit

set_option maxHeartbeats 1000000 in
theorem upTo_yes (hi x : Int) (g : Nat) (w : World) (hc : w.cell? ⟨g, 0, none⟩ = some (.int .i64 hi)) (h : 0 ≤ x ∧ x ≤ hi) :
    Calls Tryd.prog 63 #[.int .i64 x, .pointer (some ⟨g, 0, none⟩)] w fun e w' => e = .returned (.bool true) ∧ w' = w := by
  obtain ⟨h1, h2⟩ := h
  go_enter Tryd.func63, Tryd.ntmps63
  go_wp2
  go_ret
  exact ⟨rfl, rfl⟩
set_option maxHeartbeats 1000000 in
theorem upTo_no (hi x : Int) (g : Nat) (w : World) (hc : w.cell? ⟨g, 0, none⟩ = some (.int .i64 hi)) (h : ¬ (0 ≤ x ∧ x ≤ hi)) :
    Calls Tryd.prog 63 #[.int .i64 x, .pointer (some ⟨g, 0, none⟩)] w fun e w' => e = .returned (.bool false) ∧ w' = w := by
  by_cases h1 : 0 ≤ x
  · have h2 : ¬ x ≤ hi := fun h' => h ⟨h1, h'⟩
    clear h
    go_enter Tryd.func63, Tryd.ntmps63
    go_wp2
    go_ret
    exact ⟨rfl, rfl⟩
  · clear h
    go_enter Tryd.func63, Tryd.ntmps63
    go_wp2
    go_ret
    exact ⟨rfl, rfl⟩

set_option maxHeartbeats 1000000 in
theorem checkNumbers_shape (a : Option Addr) (n cap : Nat) (f : Value) (w : World) (ad : Nat → Addr) (h : n ≠ 8) (he : w.cell? ⟨3, 0, none⟩ = some (.iface 143 (.pointer (some (ad 2))))) :
    Calls Tryd.prog 38 #[.slice a n cap, f] w fun e w' => e = .returned (.iface 143 (.pointer (some (ad 2)))) ∧ w' = w := by
  have h8 : (n : Int) ≠ 8 := by omega
  have h8' : ((n : Int) == 8) = false := by simpa using h8
  go_enter Tryd.func38, Tryd.ntmps38
  go_wp2
  go_ret
  exact ⟨rfl, rfl⟩

set_option maxHeartbeats 2000000 in
/-- Up to j all are right; there is the end, or one that is not. -/
theorem checkNumbers_to (a : Option Addr) (cap : Nat) (ns : List Int) (hi : Int) (g : Nat) (w : World) (ad : Nat → Addr) (hc : w.cell? ⟨g, 0, none⟩ = some (.int .i64 hi)) (hl : LiesN w a ns) (h8 : ns.length = 8) (j : Nat) (hj : j ≤ 8) (hg : ∀ (i : Nat) y, i < j → ns[i]? = some y → 0 ≤ y ∧ y ≤ hi) (R : Value)
    (h : (j = 8 ∧ R = .nilIface) ∨ (R = .iface 143 (.pointer (some (ad 1))) ∧ w.cell? ⟨2, 0, none⟩ = some (.iface 143 (.pointer (some (ad 1)))) ∧ ∃ x, ns[j]? = some x ∧ ¬ (0 ≤ x ∧ x ≤ hi))) :
    Calls Tryd.prog 38 #[.slice a 8 cap, .func (.func 63) #[] #[.pointer (some ⟨g, 0, none⟩)]] w fun e w' => e = .returned R ∧ w' = w := by
  have HG : Hid (∀ (i : Nat) y, i < j → ns[i]? = some y → 0 ≤ y ∧ y ≤ hi) := hg
  have HR : Hid ((j = 8 ∧ R = .nilIface) ∨ (R = .iface 143 (.pointer (some (ad 1))) ∧ w.cell? ⟨2, 0, none⟩ = some (.iface 143 (.pointer (some (ad 1)))) ∧ ∃ x, ns[j]? = some x ∧ ¬ (0 ≤ x ∧ x ≤ hi))) := h
  obtain ⟨b, off, rfl, -, hcell⟩ := hl.place (by omega)
  have HC : Hid (∀ (i : Nat) x, ns[i]? = some x → w.cell? ⟨b, off + i, none⟩ = some (.int .i64 x)) := hcell
  have H8 : Hid (ns.length = 8) := h8
  clear hg h hl hcell h8
  go_enter Tryd.func38, Tryd.ntmps38
  go_wp2_with fail
  go_loopw [13] (fun i wr => ∃ k : Nat, k ≤ j ∧ i = .int .i64 k ∧ wr = w) (fun i _ => 8 - (intOf i).toNat)
  case atStart => exact ⟨0, Nat.zero_le _, rfl, rfl⟩
  case round =>
    obtain ⟨k, hk, rfl, rfl⟩ := hrel
    by_cases hkj : k < j
    · obtain ⟨x, hx, -⟩ := get_some ns k (by rw [H8.out]; omega)
      have hok := HG.out k x hkj hx
      have c1 := HC.out k x hx
      clear hx
      go_wp2_with fail
      refine (upTo_yes hi x g _ hc hok).mono ?_
      rintro e w1 ⟨rfl, rfl⟩
      go_wp2_with fail
      go_roundw
      case rel => exact ⟨k + 1, by omega, by go_num, trivial⟩
      case measure => simp [intOf]; omega
    · obtain rfl : k = j := by omega
      rcases HR.out with ⟨rfl, rfl⟩ | ⟨rfl, he, x, hx, hbad⟩
      · go_wp2_with fail
        go_ret
        exact ⟨rfl, rfl⟩
      · have c1 := HC.out k x hx
        have hk8 : k < 8 := by
          rw [← H8.out]
          rcases Nat.lt_or_ge k ns.length with h' | h'
          · exact h'
          · simp [List.getElem?_eq_none h'] at hx
        clear hx
        go_wp2_with fail
        refine (upTo_no hi x g _ hc hbad).mono ?_
        rintro e w1 ⟨rfl, rfl⟩
        go_wp2_with fail
        go_ret
        exact ⟨rfl, rfl⟩

/-- What checkUpTo asks of the variables. -/
def NumErrs (w : World) (ad : Nat → Addr) : Prop := w.cell? ⟨2, 0, none⟩ = some (.iface 143 (.pointer (some (ad 1)))) ∧ w.cell? ⟨3, 0, none⟩ = some (.iface 143 (.pointer (some (ad 2))))
theorem NumErrs.below {w w' : World} {ad : Nat → Addr} (h : NumErrs w ad) (hb : Below w.heap.size w w') : NumErrs w' ad := ⟨cell_later hb h.1, cell_later hb h.2⟩

set_option maxHeartbeats 1000000 in
theorem checkUpTo_core {R : Value} (a : Option Addr) (n cap : Nat) (hi : Int) (w : World) (h : Calls Tryd.prog 38 #[.slice a n cap, .func (.func 63) #[] #[.pointer (some ⟨w.heap.size, 0, none⟩)]] (w.alloc (.cells #[.int .i64 hi] 3)) fun e w' => e = .returned R ∧ w' = w.alloc (.cells #[.int .i64 hi] 3)) :
    Calls Tryd.prog 34 #[.slice a n cap, .int .i64 hi] w fun e w' => e = .returned R ∧ Below w.heap.size w w' := by
  have HC : Hid (Calls Tryd.prog 38 #[.slice a n cap, .func (.func 63) #[] #[.pointer (some ⟨w.heap.size, 0, none⟩)]] (w.alloc (.cells #[.int .i64 hi] 3)) fun e w' => e = .returned R ∧ w' = w.alloc (.cells #[.int .i64 hi] 3)) := h
  clear h
  go_enter Tryd.func34, Tryd.ntmps34
  go_wp2_with fail
  refine HC.out.mono ?_
  rintro e w1 ⟨rfl, rfl⟩
  go_wp2_with fail
  go_ret
  exact ⟨rfl, (Below.refl _ _).alloc (Nat.le_refl _) _⟩
theorem checkUpTo_ok (a : Option Addr) (cap : Nat) (ns : List Int) (hi : Int) (w : World) (hl : LiesN w a ns) (ho : NumsOk 0 hi ns) :
    Calls Tryd.prog 34 #[.slice a ns.length cap, .int .i64 hi] w fun e w' => e = .returned .nilIface ∧ Below w.heap.size w w' := by
  have hb : Below w.heap.size w (w.alloc (.cells #[.int .i64 hi] 3)) := (Below.refl _ _).alloc (Nat.le_refl _) _
  rw [ho.len]
  exact checkUpTo_core a 8 cap hi w (checkNumbers_to a cap ns hi w.heap.size _ (fun _ => ⟨0, 0, none⟩) (by simp) (hl.below hb) ho.len 8 (Nat.le_refl _) (fun i y _ hy => ho.each i y hy) .nilIface (.inl ⟨rfl, rfl⟩))
/-- checkUpTo's error, by its number. -/
theorem checkUpTo_bad (a : Option Addr) (cap : Nat) (ns : List Int) (hi : Int) (w : World) (ad : Nat → Addr) (he : NumErrs w ad) (hl : LiesN w a ns) (c : Nat) (h : NumsFault 0 hi ns c) (hc : 0 < c) :
    Calls Tryd.prog 34 #[.slice a ns.length cap, .int .i64 hi] w fun e w' => e = .returned (sentOf ad c) ∧ Below w.heap.size w w' := by
  have hb : Below w.heap.size w (w.alloc (.cells #[.int .i64 hi] 3)) := (Below.refl _ _).alloc (Nat.le_refl _) _
  rcases h with ⟨rfl, h8⟩ | ⟨rfl, j, h8, hx, hg⟩ | ⟨rfl, -⟩
  · exact checkUpTo_core a _ cap hi w (checkNumbers_shape a _ cap _ _ ad h8 (he.below hb).2)
  · rw [h8]
    have hj : j ≤ 8 := by
      obtain ⟨x, hx, -⟩ := hx
      rw [← h8]
      rcases Nat.lt_or_ge j ns.length with h' | h'
      · exact Nat.le_of_lt h'
      · simp [List.getElem?_eq_none h'] at hx
    exact checkUpTo_core a 8 cap hi w (checkNumbers_to a cap ns hi w.heap.size _ ad (by simp) (hl.below hb) h8 j hj hg _ (.inr ⟨rfl, (he.below hb).1, hx⟩))
  · omega
end Go.Proofs.YtolbmkniafkeaaaDoor
