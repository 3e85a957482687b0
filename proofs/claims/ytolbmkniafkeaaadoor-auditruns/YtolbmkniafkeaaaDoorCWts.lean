/- Walks: weights: are they right? Package fair's check, the document's answer's WeightsError. -/
import Derived.Test.YtolbmkniafkeaaaDoorCAllNums
import Derived.Test.YtolbmkniafkeaaaDoorCPlainWts
namespace Go.Proofs.YtolbmkniafkeaaaDoor
open Go.RowKit

set_option maxHeartbeats 1000000 in
theorem weight_yes (x : Int) (w : World) (h : isWt x) : Calls Tryd.prog 71 #[.int .i64 x] w fun e w' => e = .returned (.bool true) ∧ w' = w := by
  obtain ⟨h1, h2⟩ := h
  have h3 : (12 % x == 0) = true := by simpa using h2
  clear h2
  go_enter Tryd.func71, Tryd.ntmps71
  go_wp2
  go_ret
  exact ⟨rfl, rfl⟩
set_option maxHeartbeats 1000000 in
theorem weight_no (x : Int) (w : World) (h : ¬ isWt x) : Calls Tryd.prog 71 #[.int .i64 x] w fun e w' => e = .returned (.bool false) ∧ w' = w := by
  by_cases h1 : 1 ≤ x
  · have h4 : (12 % x == 0) = false := by simpa using fun h2 => h ⟨h1, h2⟩
    clear h
    go_enter Tryd.func71, Tryd.ntmps71
    go_wp2
    go_ret
    exact ⟨rfl, rfl⟩
  · clear h
    go_enter Tryd.func71, Tryd.ntmps71
    go_wp2
    go_ret
    exact ⟨rfl, rfl⟩
set_option maxHeartbeats 2000000 in
/-- Up to j all weights are right; there is the end, or one that is not. -/
theorem checkWeights_to (a : Option Addr) (cap : Nat) (ns : List Int) (w : World) (ad : Nat → Addr) (hl : LiesN w a ns) (h8 : ns.length = 8) (j : Nat) (hj : j ≤ 8) (hg : ∀ (i : Nat) y, i < j → ns[i]? = some y → isWt y) (R : Value)
    (h : (j = 8 ∧ R = .nilIface) ∨ (R = .iface 143 (.pointer (some (ad 1))) ∧ w.cell? ⟨2, 0, none⟩ = some (.iface 143 (.pointer (some (ad 1)))) ∧ ∃ x, ns[j]? = some x ∧ ¬ isWt x)) :
    Calls Tryd.prog 38 #[.slice a 8 cap, .func (.func 71) #[] #[]] w fun e w' => e = .returned R ∧ w' = w := by
  have HG : Hid (∀ (i : Nat) y, i < j → ns[i]? = some y → isWt y) := hg
  have HR : Hid ((j = 8 ∧ R = .nilIface) ∨ (R = .iface 143 (.pointer (some (ad 1))) ∧ w.cell? ⟨2, 0, none⟩ = some (.iface 143 (.pointer (some (ad 1)))) ∧ ∃ x, ns[j]? = some x ∧ ¬ isWt x)) := h
  obtain ⟨b, off, rfl, -, hcell⟩ := hl.place (by omega)
  have HC : Hid (∀ (i : Nat) x, ns[i]? = some x → w.cell? ⟨b, off + i, none⟩ = some (.int .i64 x)) := hcell
  have H8 : Hid (ns.length = 8) := h8
  clear hg h hl hcell h8
  go_enter Tryd.func38, Tryd.ntmps38
  go_wp2_with fail
  go_loopw [13] (fun i wr => ∃ k : Nat, k ≤ j ∧ i = .int .i64 k ∧ wr = w) (fun i _ => 8 - (intOf i).toNat)
  case atStart => exact ⟨0, Nat.zero_le _, rfl, rfl⟩
  case round =>
    obtain ⟨k, hk, rfl, rfl⟩ := hrel
    by_cases hkj : k < j
    · obtain ⟨x, hx, -⟩ := get_some ns k (by rw [H8.out]; omega)
      have hok := HG.out k x hkj hx
      have c1 := HC.out k x hx
      clear hx
      go_wp2_with fail
      refine (weight_yes x _ hok).mono ?_
      rintro e w1 ⟨rfl, rfl⟩
      go_wp2_with fail
      go_roundw
      case rel => exact ⟨k + 1, by omega, by go_num, trivial⟩
      case measure => simp [intOf]; omega
    · obtain rfl : k = j := by omega
      rcases HR.out with ⟨rfl, rfl⟩ | ⟨rfl, he, x, hx, hbad⟩
      · go_wp2_with fail
        go_ret
        exact ⟨rfl, rfl⟩
      · have c1 := HC.out k x hx
        have hk8 : k < 8 := by
          rw [← H8.out]
          rcases Nat.lt_or_ge k ns.length with h' | h'
          · exact h'
          · simp [List.getElem?_eq_none h'] at hx
        clear hx
        go_wp2_with fail
        refine (weight_no x _ hbad).mono ?_
        rintro e w1 ⟨rfl, rfl⟩
        go_wp2_with fail
        go_ret
        exact ⟨rfl, rfl⟩
theorem checkWeights_ok (a : Option Addr) (cap : Nat) (ns : List Int) (w : World) (hl : LiesN w a ns) (ho : WtsAll ns) :
    Calls Tryd.prog 38 #[.slice a ns.length cap, .func (.func 71) #[] #[]] w fun e w' => e = .returned .nilIface ∧ w' = w := by
  rw [ho.len]
  exact checkWeights_to a cap ns w (fun _ => ⟨0, 0, none⟩) hl ho.len 8 (Nat.le_refl _) (fun i y _ hy => ho.each i y hy) _ (.inl ⟨rfl, rfl⟩)
theorem checkWeights_bad (a : Option Addr) (cap : Nat) (ns : List Int) (w : World) (ad : Nat → Addr) (he : NumErrs w ad) (hl : LiesN w a ns) (c : Nat) (h : WtsFault ns c) (hc : 0 < c) :
    Calls Tryd.prog 38 #[.slice a ns.length cap, .func (.func 71) #[] #[]] w fun e w' => e = .returned (sentOf ad c) ∧ w' = w := by
  rcases h with ⟨rfl, h8⟩ | ⟨rfl, j, h8, ⟨x, hx, hbad⟩, hg⟩ | ⟨rfl, -⟩
  · exact checkNumbers_shape a ns.length cap _ w ad h8 he.2
  · rw [h8]
    exact checkWeights_to a cap ns w ad hl h8 j (by have := lt_of_get hx; omega) hg _ (.inr ⟨rfl, he.1, x, hx, hbad⟩)
  · omega
end Go.Proofs.YtolbmkniafkeaaaDoor
