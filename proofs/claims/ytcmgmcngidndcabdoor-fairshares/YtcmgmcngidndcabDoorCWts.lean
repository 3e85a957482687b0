/- Walks: weights: are they right? Package fair's check, the document's answer's WeightsError. -/
import Derived.Test.YtcmgmcngidndcabDoorCAllNums
import Derived.Test.YtcmgmcngidndcabDoorCPlainWts
namespace Go.Proofs.YtcmgmcngidndcabDoor
open Go.RowKit

set_option maxHeartbeats 1000000 in
theorem weight_yes (x : Int) (w : World) (h : isWt x) : Calls Tryd.prog 91 #[.int .i64 x] w fun e w' => e = .returned (.bool true) ∧ w' = w := by
  obtain ⟨h1, h2⟩ := h
  have h3 : (12 % x == 0) = true := by simpa using h2
  clear h2
  go_enter Tryd.func91, Tryd.ntmps91
  go_wp2
  go_ret
  exact ⟨rfl, rfl⟩
set_option maxHeartbeats 1000000 in
theorem weight_no (x : Int) (w : World) (h : ¬ isWt x) : Calls Tryd.prog 91 #[.int .i64 x] w fun e w' => e = .returned (.bool false) ∧ w' = w := by
  by_cases h1 : 1 ≤ x
  · have h4 : (12 % x == 0) = false := by simpa using fun h2 => h ⟨h1, h2⟩
    clear h
    go_enter Tryd.func91, Tryd.ntmps91
    go_wp2
    go_ret
    exact ⟨rfl, rfl⟩
  · clear h
    go_enter Tryd.func91, Tryd.ntmps91
    go_wp2
    go_ret
    exact ⟨rfl, rfl⟩
set_option maxHeartbeats 2000000 in
/-- Up to j all weights are right; there is the end, or one that is not. -/
theorem checkWeights_to (a : Option Addr) (cap : Nat) (ns : List Int) (w : World) (ad : Nat → Addr) (hl : LiesN w a ns) (h8 : ns.length = 8) (j : Nat) (hj : j ≤ 8) (hg : ∀ (i : Nat) y, i < j → ns[i]? = some y → isWt y) (R : Value)
    (h : (j = 8 ∧ R = .nilIface) ∨ (R = .iface 157 (.pointer (some (ad 1))) ∧ w.cell? ⟨2, 0, none⟩ = some (.iface 157 (.pointer (some (ad 1)))) ∧ ∃ x, ns[j]? = some x ∧ ¬ isWt x)) :
    Calls Tryd.prog 68 #[.slice a 8 cap, .func (.func 91) #[] #[]] w fun e w' => e = .returned R ∧ w' = w := by
  have HG : Hid (∀ (i : Nat) y, i < j → ns[i]? = some y → isWt y) := hg
  have HR : Hid ((j = 8 ∧ R = .nilIface) ∨ (R = .iface 157 (.pointer (some (ad 1))) ∧ w.cell? ⟨2, 0, none⟩ = some (.iface 157 (.pointer (some (ad 1)))) ∧ ∃ x, ns[j]? = some x ∧ ¬ isWt x)) := h
  obtain ⟨b, off, rfl, -, hcell⟩ := hl.place (by omega)
  have HC : Hid (∀ (i : Nat) x, ns[i]? = some x → w.cell? ⟨b, off + i, none⟩ = some (.int .i64 x)) := hcell
  have H8 : Hid (ns.length = 8) := h8
  clear hg h hl hcell h8
  go_enter Tryd.func68, Tryd.ntmps68
  go_wp2_with fail
  go_loopw [13] (fun i wr => ∃ k : Nat, k ≤ j ∧ i = .int .i64 k ∧ wr = w) (fun i _ => 8 - (intOf i).toNat)
  case atStart => exact ⟨0, Nat.zero_le _, rfl, rfl⟩
  case round =>
    obtain ⟨k, hk, rfl, rfl⟩ := hrel
    by_cases hkj : k < j
    · obtain ⟨x, hx, -⟩ := get_some ns k (by rw [H8.out]; omega)
      have hok := HG.out k x hkj hx
      have c1 := HC.out k x hx
      clear hx
      go_wp2_with fail
      refine (weight_yes x _ hok).mono ?_
      rintro e w1 ⟨rfl, rfl⟩
      go_wp2_with fail
      go_roundw
      case rel => exact ⟨k + 1, by omega, by go_num, trivial⟩
      case measure => simp [intOf]; omega
    · obtain rfl : k = j := by omega
      rcases HR.out with ⟨rfl, rfl⟩ | ⟨rfl, he, x, hx, hbad⟩
      · go_wp2_with fail
        go_ret
        exact ⟨rfl, rfl⟩
      · have c1 := HC.out k x hx
        have hk8 : k < 8 := by
          rw [← H8.out]
          rcases Nat.lt_or_ge k ns.length with h' | h'
          · exact h'
          · simp [List.getElem?_eq_none h'] at hx
        clear hx
        go_wp2_with fail
        refine (weight_no x _ hbad).mono ?_
        rintro e w1 ⟨rfl, rfl⟩
        go_wp2_with fail
        go_ret
        exact ⟨rfl, rfl⟩
theorem checkWeights_ok (a : Option Addr) (cap : Nat) (ns : List Int) (w : World) (hl : LiesN w a ns) (ho : WtsAll ns) :
    Calls Tryd.prog 68 #[.slice a ns.length cap, .func (.func 91) #[] #[]] w fun e w' => e = .returned .nilIface ∧ w' = w := by
  rw [ho.len]
  exact checkWeights_to a cap ns w (fun _ => ⟨0, 0, none⟩) hl ho.len 8 (Nat.le_refl _) (fun i y _ hy => ho.each i y hy) _ (.inl ⟨rfl, rfl⟩)
theorem checkWeights_bad (a : Option Addr) (cap : Nat) (ns : List Int) (w : World) (ad : Nat → Addr) (he : NumErrs w ad) (hl : LiesN w a ns) (c : Nat) (h : WtsFault ns c) (hc : 0 < c) :
    Calls Tryd.prog 68 #[.slice a ns.length cap, .func (.func 91) #[] #[]] w fun e w' => e = .returned (sentOf ad c) ∧ w' = w := by
  rcases h with ⟨rfl, h8⟩ | ⟨rfl, j, h8, ⟨x, hx, hbad⟩, hg⟩ | ⟨rfl, -⟩
  · exact checkNumbers_shape a ns.length cap _ w ad h8 he.2
  · rw [h8]
    exact checkWeights_to a cap ns w ad hl h8 j (by have := lt_of_get hx; omega) hg _ (.inr ⟨rfl, he.1, x, hx, hbad⟩)
  · omega

set_option maxHeartbeats 2000000 in
theorem weightsError_to (a : Option Addr) (cap : Nat) (ns : List Int) (w : World) (hl : LiesN w a ns) (ho : NumsOk 1 12 ns) (j : Nat) (hj : j ≤ 8) (hg : ∀ (i : Nat) y, i < j → ns[i]? = some y → isWt y) (R : Int)
    (h : (j = 8 ∧ R = 0) ∨ (R = 2 ∧ ∃ x, ns[j]? = some x ∧ ¬ isWt x)) :
    Calls Tryd.prog 48 #[.slice a 8 cap] w fun e w' => e = .returned (.int .i64 R) ∧ w' = w := by
  have HNe : Hid (Calls Tryd.prog 32 #[.slice a 8 cap, .int .i64 1, .int .i64 12] w fun e w' => e = .returned (.int .i64 0) ∧ w' = w) := by
    have := numbersError_is a cap ns 1 12 w hl 0 (.inr (.inr ⟨rfl, ho⟩))
    rwa [ho.len] at this
  have HG : Hid (∀ (i : Nat) y, i < j → ns[i]? = some y → isWt y) := hg
  have HR : Hid ((j = 8 ∧ R = 0) ∨ (R = 2 ∧ ∃ x, ns[j]? = some x ∧ ¬ isWt x)) := h
  have H8 : Hid (ns.length = 8 ∧ ∀ (i : Nat) x, ns[i]? = some x → 1 ≤ x ∧ x ≤ 12) := ⟨ho.len, ho.each⟩
  obtain ⟨b, off, rfl, -, hcell⟩ := hl.place (by rw [ho.len]; omega)
  have HC : Hid (∀ (i : Nat) x, ns[i]? = some x → w.cell? ⟨b, off + i, none⟩ = some (.int .i64 x)) := hcell
  clear hg h hl hcell ho
  go_enter Tryd.func48, Tryd.ntmps48
  go_wp2_with fail
  refine HNe.out.mono ?_
  rintro e w1 ⟨rfl, rfl⟩
  go_wp2_with fail
  go_loopg [3, 4] 9 (fun gk ev i wr => wr = w1 ∧ ∃ k : Nat, k ≤ 8 ∧ i = .int .i64 k ∧ gk = 9 - k ∧ ((k ≤ j ∧ ev = .int .i64 0) ∨ (k = j + 1 ∧ R = 2 ∧ ev = .int .i64 2)))
  case atStart => exact ⟨rfl, 0, by omega, rfl, rfl, .inl ⟨Nat.zero_le _, rfl⟩⟩
  case round =>
    obtain ⟨rfl, k, hk, rfl, rfl, ⟨hkj, rfl⟩ | ⟨hkj, rfl, rfl⟩⟩ := hrel
    · by_cases hlt : k < j
      · obtain ⟨x, hx, -⟩ := get_some ns k (by rw [H8.out.1]; omega)
        have hok := HG.out k x hlt hx
        have hin := H8.out.2 k x hx
        have c1 := HC.out k x hx
        have h3 : (12 % x == 0) = true := by simpa using hok.2
        have h4 : 12 % x = 0 := hok.2
        clear hx hok
        go_wp2_with fail
        go_roundg (9 - (k + 1))
        case rel => exact ⟨rfl, k + 1, by omega, by go_num, rfl, .inl ⟨by omega, rfl⟩⟩
        case measure => omega
      · obtain rfl : k = j := by omega
        rcases HR.out with ⟨rfl, rfl⟩ | ⟨rfl, x, hx, hbad⟩
        · go_wp2_with fail
          go_ret
          exact ⟨rfl, rfl⟩
        · have c1 := HC.out k x hx
          have hin := H8.out.2 k x hx
          have hk8 : k < 8 := by have := lt_of_get hx; rw [H8.out.1] at this; exact this
          have h3 : (12 % x == 0) = false := by simpa using fun h2 => hbad ⟨hin.1, h2⟩
          have h4 : ¬ 12 % x = 0 := fun h2 => hbad ⟨hin.1, h2⟩
          clear hx hbad
          go_wp2_with fail
          go_roundg (9 - (k + 1))
          case rel => exact ⟨rfl, k + 1, by omega, by go_num, rfl, .inr ⟨rfl, trivial, rfl⟩⟩
          case measure => omega
    · by_cases h8 : k < 8
      · go_wp2_with fail
        go_ret
        exact ⟨rfl, rfl⟩
      · go_wp2_with fail
        go_ret
        exact ⟨rfl, rfl⟩
set_option maxHeartbeats 1000000 in
/-- WeightsError, where NumbersError tells what is wrong. -/
theorem weightsError_num (a : Option Addr) (n cap : Nat) (c : Int) (w : World) (hn : n ≤ 1000) (hc : 0 < c) (h : Calls Tryd.prog 32 #[.slice a n cap, .int .i64 1, .int .i64 12] w fun e w' => e = .returned (.int .i64 c) ∧ w' = w) :
    Calls Tryd.prog 48 #[.slice a n cap] w fun e w' => e = .returned (.int .i64 c) ∧ w' = w := by
  have HNe : Hid (Calls Tryd.prog 32 #[.slice a n cap, .int .i64 1, .int .i64 12] w fun e w' => e = .returned (.int .i64 c) ∧ w' = w) := h
  have hc0 : (c == 0) = false := by simpa using (show c ≠ 0 by omega)
  have hc1 : ¬ c = 0 := by omega
  clear h
  go_enter Tryd.func48, Tryd.ntmps48
  go_wp2_with fail
  refine HNe.out.mono ?_
  rintro e w1 ⟨rfl, rfl⟩
  go_wp2_with fail
  go_loopg [3, 4] 0 (fun _ ev i wr => wr = w1 ∧ i = .int .i64 0 ∧ ev = .int .i64 c)
  case atStart => exact ⟨rfl, rfl, rfl⟩
  case round =>
    obtain ⟨rfl, rfl, rfl⟩ := hrel
    by_cases h8 : 0 < n
    · go_wp2_with fail
      go_ret
      exact ⟨rfl, rfl⟩
    · obtain rfl : n = 0 := by omega
      go_wp2_with fail
      go_ret
      exact ⟨rfl, rfl⟩
theorem weightsError_is (a : Option Addr) (cap : Nat) (ns : List Int) (w : World) (hn : ns.length ≤ 1000) (hl : LiesN w a ns) (c : Nat) (h : WtsFault ns c) :
    Calls Tryd.prog 48 #[.slice a ns.length cap] w fun e w' => e = .returned (.int .i64 c) ∧ w' = w := by
  rcases h with ⟨rfl, h8⟩ | ⟨rfl, j, h8, ⟨x, hx, hbad⟩, hg⟩ | ⟨rfl, ho⟩
  · exact weightsError_num a _ cap 3 w hn (by decide) (numbersError_is a cap ns 1 12 w hl 3 (.inl ⟨rfl, h8⟩))
  · obtain ⟨c, hc⟩ := numsFault_is 1 12 ns
    rcases hc with ⟨rfl, h⟩ | ⟨rfl, h⟩ | ⟨rfl, h⟩
    · exact absurd h8 h
    · exact weightsError_num a _ cap 2 w hn (by decide) (numbersError_is a cap ns 1 12 w hl 2 (.inr (.inl ⟨rfl, h⟩)))
    · rw [h8]
      exact weightsError_to a cap ns w hl h j (by have := lt_of_get hx; omega) hg 2 (.inr ⟨rfl, x, hx, hbad⟩)
  · rw [ho.len]
    exact weightsError_to a cap ns w hl ho.nums 8 (Nat.le_refl _) (fun i y _ hy => ho.each i y hy) 0 (.inl ⟨rfl, rfl⟩)
end Go.Proofs.YtcmgmcngidndcabDoor
