/- Own facts, put together: no statement of its own. -/
import Derived.Deep.LoopGhost
import Derived.BigRegion
import Derived.Test.YtibhkijaafdkoaaGreatDoorP40
import Derived.Test.YtibhkijaafdkoaaGreatDoorP01
namespace Go.Proofs.YtibhkijaafdkoaaGreatDoor
open Go.RowKit
set_option maxRecDepth 100000 in
set_option maxHeartbeats 4000000 in
theorem swapRange_ok (w0 : World) (b off n cap : Nat) (pk : Nat → Pk) (fv : Value) (f : Nat → Nat) (x y m : Nat) (w : World) (h : StaAt w0 b off n pk f w) (hxy : x + m ≤ y) (hy : y + m ≤ n) (hn : n ≤ 1000) :
  Calls Tryz.prog 180 #[.slice (some ⟨b, off, none⟩) n cap, .int .i64 (x : Int), .int .i64 (y : Int), .int .i64 (m : Int), fv] w fun e w' => e = .returned (.tuple #[]) ∧ StaAt w0 b off n pk (swr f x y m) w' := by
 have HS : Hid (StaAt w0 b off n pk (swr f x y 0) w) := by show StaAt _ _ _ _ _ _ _; rw [swr_none]; exact h
 clear h
 go_enter Tryz.func180, Tryz.ntmps180
 go_wp2_with fail
 go_loopg [10] m (fun gk iv wr => ∃ i : Nat, iv = .int .i64 (i : Int) ∧ i ≤ m ∧ m - i ≤ gk ∧ Hid (StaAt w0 b off n pk (swr f x y i) wr))
 case atStart => exact ⟨0, rfl, Nat.zero_le _, Nat.le_refl _, HS⟩
 case round =>
  clear HS
  obtain ⟨i, rfl, him, hgk, H⟩ := hrel
  by_cases hlt : i < m
  ·
   have hltz : (i : Int) < (m : Int) := by omega
   obtain ⟨g, hg⟩ : ∃ g, swr f x y i = g := ⟨_, rfl⟩
   have HG : Hid (xch g (x + i) (y + i) = swr f x y (i + 1)) := by show _ = _; rw [← hg]; exact swr_succ f (by omega)
   rw [hg] at H
   obtain ⟨p, hp⟩ : ∃ p, x + i = p := ⟨_, rfl⟩
   obtain ⟨q, hq⟩ : ∃ q, y + i = q := ⟨_, rfl⟩
   rw [hp, hq] at HG
   have hpn : p < n := by omega
   have hqn : q < n := by omega
   have hpq : p ≠ q := by omega
   have wp : IntKind.i64.wrap ((x : Int) + (i : Int)) = (p : Int) := by rw [IntKind.wrap_i64]; omega
   have wq : IntKind.i64.wrap ((y : Int) + (i : Int)) = (q : Int) := by rw [IntKind.wrap_i64]; omega
   have hpz : (p : Int) < (n : Int) := by omega
   have hqz : (q : Int) < (n : Int) := by omega
   have a0 := H.out.row.c0 p hpn
   have a1 := H.out.row.c1 p hpn
   have a2 := H.out.row.c2 p hpn
   have b0 := H.out.row.c0 q hqn
   have b1 := H.out.row.c1 q hqn
   have b2 := H.out.row.c2 q hqn
   have f0 := H.out.row.fz (off + p * 3)
   have f1 := H.out.row.fz (off + p * 3 + 1)
   have f2 := H.out.row.fz (off + p * 3 + 2)
   have g0 := H.out.row.fz (off + q * 3)
   have g1 := H.out.row.fz (off + q * 3 + 1)
   have g2 := H.out.row.fz (off + q * 3 + 2)
   have H2 : ∃ V, Hid ((put3 (put3 wr b (off + p * 3) (pk (g q))) b (off + q * 3) (pk (g p))).drew = V) ∧ Hid (StaAt w0 b off n pk (swr f x y (i + 1)) V) := ⟨_, rfl, by show StaAt _ _ _ _ _ _ _; rw [← HG.out]; exact (H.out.xch hpn hqn).drew⟩
   have k0 : (put3 wr b (off + p * 3) (pk (g q))).cell? ⟨b, off + q * 3, none⟩ = some (.int .i64 (pk (g q)).flow) := by rw [put3_out _ _ _ _ (by omega)]; exact b0
   have k1 : (put3 wr b (off + p * 3) (pk (g q))).cell? ⟨b, off + q * 3 + 1, none⟩ = some (.int .i64 (pk (g q)).size) := by rw [put3_out _ _ _ _ (by omega)]; exact b1
   have k2 : (put3 wr b (off + p * 3) (pk (g q))).cell? ⟨b, off + q * 3 + 2, none⟩ = some (.int .i64 (pk (g q)).tick) := by rw [put3_out _ _ _ _ (by omega)]; exact b2
   obtain ⟨V, HV, HVS⟩ := H2
   unfold put3 at HV k0 k1 k2
   obtain ⟨u0, hu0⟩ : ∃ u, (pk (g p)).flow = u := ⟨_, rfl⟩
   obtain ⟨u1, hu1⟩ : ∃ u, (pk (g p)).size = u := ⟨_, rfl⟩
   obtain ⟨u2, hu2⟩ : ∃ u, (pk (g p)).tick = u := ⟨_, rfl⟩
   obtain ⟨v0, hv0⟩ : ∃ v, (pk (g q)).flow = v := ⟨_, rfl⟩
   obtain ⟨v1, hv1⟩ : ∃ v, (pk (g q)).size = v := ⟨_, rfl⟩
   obtain ⟨v2, hv2⟩ : ∃ v, (pk (g q)).tick = v := ⟨_, rfl⟩
   rw [hu0] at a0 HV
   rw [hu1] at a1 HV
   rw [hu2] at a2 HV
   rw [hv0] at b0 HV k0 k1 k2
   rw [hv1] at b1 HV k0 k1 k2
   rw [hv2] at b2 HV k0 k1 k2
   clear hu0 hu1 hu2 hv0 hv1 hv2
   clear hg hp hq H HG
   go_wp2_with fail
   go_region
   rw [HV.out]
   clear HV a0 a1 a2 b0 b1 b2 f0 f1 f2 g0 g1 g2 k0 k1 k2
   go_wp2_with fail
   go_roundg (m - (i + 1))
   case measure => omega
   case rel => exact ⟨i + 1, by go_num, by omega, Nat.le_refl _, HVS⟩
  ·
   have hltz : ¬ (i : Int) < (m : Int) := by omega
   obtain rfl : i = m := by omega
   go_wp2_with fail
   go_end0
   exact ⟨rfl, H.out⟩
set_option maxRecDepth 100000 in
set_option maxHeartbeats 4000000 in
theorem rotate_ok (w0 : World) (b off n cap : Nat) (pk : Nat → Pk) (fv : Value) (f : Nat → Nat) (x m y : Nat) (w : World) (h : StaAt w0 b off n pk f w) (hxm : x < m) (hmy : m < y) (hy : y ≤ n) (hn : n ≤ 1000) :
  Calls Tryz.prog 173 #[.slice (some ⟨b, off, none⟩) n cap, .int .i64 (x : Int), .int .i64 (m : Int), .int .i64 (y : Int), fv] w fun e w' => e = .returned (.tuple #[]) ∧ StaAt w0 b off n pk (rot f x m y) w' := by
 have HS : Hid (∀ (g : Nat → Nat) (x y m : Nat) (w : World), StaAt w0 b off n pk g w → x + m ≤ y → y + m ≤ n → Calls Tryz.prog 180 #[.slice (some ⟨b, off, none⟩) n cap, .int .i64 (x : Int), .int .i64 (y : Int), .int .i64 (m : Int), fv] w fun e w' => e = .returned (.tuple #[]) ∧ StaAt w0 b off n pk (swr g x y m) w') := fun g x y m w h h1 h2 => swapRange_ok w0 b off n cap pk fv g x y m w h h1 h2 hn
 have H0 : Hid (StaAt w0 b off n pk f w) := h
 clear h
 go_enter Tryz.func173, Tryz.ntmps173
 have wi : (m : Int) - (x : Int) = ((m - x : Nat) : Int) := by omega
 have wj : (y : Int) - (m : Int) = ((y - m : Nat) : Int) := by omega
 go_wp2_with fail
 go_loopg [10, 11] (y - x) (fun gk iv jv wr => ∃ (i j : Nat) (g : Nat → Nat), iv = .int .i64 (i : Int) ∧ jv = .int .i64 (j : Int) ∧ 1 ≤ i ∧ i ≤ m - x ∧ 1 ≤ j ∧ j ≤ y - m ∧ i + j ≤ gk ∧ Hid (rot g (m - i) m (m + j) = rot f x m y) ∧ Hid (StaAt w0 b off n pk g wr))
 case atStart => exact ⟨m - x, y - m, f, by go_num, by go_num, by omega, by omega, by omega, by omega, by omega, by show _ = _; rw [show m - (m - x) = x by omega, show m + (y - m) = y by omega], H0⟩
 case round =>
  clear H0
  obtain ⟨i, j, g, rfl, rfl, hi1, hi2, hj1, hj2, hgk, HR, H⟩ := hrel
  have hmi : (m : Int) - (i : Int) = ((m - i : Nat) : Int) := by omega
  obtain ⟨s, hs⟩ : ∃ s, m - i = s := ⟨_, rfl⟩
  rw [hs] at hmi
  have HSI : Hid (m - i = s) := hs
  clear hs wi wj
  rcases Nat.lt_trichotomy i j with hlt | heq | hgt
  ·
   have z1 : ((i : Int) == (j : Int)) = false := by simp; omega
   have z2 : ¬ (j : Int) < (i : Int) := by omega
   obtain ⟨q, hq⟩ : ∃ q, m + j - i = q := ⟨_, rfl⟩
   have wq : (m : Int) + (j : Int) - (i : Int) = (q : Int) := by omega
   have HC := HS.out g s q i wr H.out (by have := HSI.out; omega) (by omega)
   have HC' : Hid (Calls Tryz.prog 180 #[.slice (some ⟨b, off, none⟩) n cap, .int .i64 (s : Int), .int .i64 (q : Int), .int .i64 (i : Int), fv] wr fun e w' => e = .returned (.tuple #[]) ∧ StaAt w0 b off n pk (swr g s q i) w') := HC
   have HE : Hid (rot (swr g s q i) s m (m + (j - i)) = rot f x m y) := by show _ = _; rw [← HR.out, ← hq, ← HSI.out]; exact rot_right g hlt (by omega)
   clear HC hq HR H
   go_wp2_with fail
   refine HC'.out.mono ?_
   rintro e w1 ⟨rfl, h1⟩
   have H1 : Hid (StaAt w0 b off n pk (swr g s q i) w1) := h1
   clear h1 HC'
   go_wp2_with fail
   go_roundg (i + (j - i))
   case measure => omega
   case rel => exact ⟨i, j - i, _, rfl, by go_num, hi1, hi2, by omega, by omega, Nat.le_refl _, by show _ = _; rw [HSI.out]; exact HE.out, H1⟩
  ·
   subst heq
   have HC := HS.out g s m i wr H.out (by have := HSI.out; omega) (by omega)
   have HC' : Hid (Calls Tryz.prog 180 #[.slice (some ⟨b, off, none⟩) n cap, .int .i64 (s : Int), .int .i64 (m : Int), .int .i64 (i : Int), fv] wr fun e w' => e = .returned (.tuple #[]) ∧ StaAt w0 b off n pk (swr g s m i) w') := HC
   have HE : Hid (swr g s m i = rot f x m y) := by show _ = _; rw [← HR.out, ← HSI.out]; exact rot_same g (by omega)
   clear HC HR H
   go_wp2_with fail
   refine HC'.out.mono ?_
   rintro e w1 ⟨rfl, h1⟩
   rw [HE.out] at h1
   have H1 : Hid (StaAt w0 b off n pk (rot f x m y) w1) := h1
   clear h1 HC'
   go_wp2_with fail
   go_end0
   exact ⟨rfl, H1.out⟩
  ·
   have z1 : ((i : Int) == (j : Int)) = false := by simp; omega
   have z2 : (j : Int) < (i : Int) := by omega
   have HC := HS.out g s m j wr H.out (by have := HSI.out; omega) (by omega)
   have HC' : Hid (Calls Tryz.prog 180 #[.slice (some ⟨b, off, none⟩) n cap, .int .i64 (s : Int), .int .i64 (m : Int), .int .i64 (j : Int), fv] wr fun e w' => e = .returned (.tuple #[]) ∧ StaAt w0 b off n pk (swr g s m j) w') := HC
   have HE : Hid (rot (swr g s m j) (m - (i - j)) m (m + j) = rot f x m y) := by show _ = _; rw [← HR.out, ← HSI.out]; exact rot_left g hgt (by omega)
   clear HC HR H
   go_wp2_with fail
   refine HC'.out.mono ?_
   rintro e w1 ⟨rfl, h1⟩
   have H1 : Hid (StaAt w0 b off n pk (swr g s m j) w1) := h1
   clear h1 HC'
   go_wp2_with fail
   go_roundg (i - j + j)
   case measure => omega
   case rel => exact ⟨i - j, j, _, by go_num, rfl, by omega, by omega, hj1, hj2, Nat.le_refl _, HE, H1⟩
end Go.Proofs.YtibhkijaafdkoaaGreatDoor

namespace Go.Proofs.YtibhkijaafdkoaaGreatDoor
open Go.RowKit
def cmpI (a b : Int) : Int := if a < b then -1 else if b < a then 1 else 0
theorem cmpI_lt {a b : Int} : cmpI a b < 0 ↔ a < b := by unfold cmpI; split; omega; split <;> omega
theorem compare_any (a b : Int) (w : World) : Calls Tryz.prog 83 #[.int .i64 a, .int .i64 b] w fun e w' => e = .returned (.int .i64 (cmpI a b)) ∧ w' = w := by
 by_cases h1 : a < b
 ·
  have HC : Hid (cmpI a b = -1) := by show _ = _; unfold cmpI; rw [if_pos h1]
  go_enter Tryz.func83, Tryz.ntmps83
  go_wp2
  go_ret
  exact ⟨congrArg (fun z => Ending.returned (.int .i64 z)) HC.out.symm, rfl⟩
 ·
  by_cases h2 : b < a
  ·
   have HC : Hid (cmpI a b = 1) := by show _ = _; unfold cmpI; rw [if_neg h1, if_pos h2]
   go_enter Tryz.func83, Tryz.ntmps83
   go_wp2
   go_ret
   exact ⟨congrArg (fun z => Ending.returned (.int .i64 z)) HC.out.symm, rfl⟩
  ·
   have HC : Hid (cmpI a b = 0) := by show _ = _; unfold cmpI; rw [if_neg h1, if_neg h2]
   go_enter Tryz.func83, Tryz.ntmps83
   go_wp2
   go_ret
   exact ⟨congrArg (fun z => Ending.returned (.int .i64 z)) HC.out.symm, rfl⟩
end Go.Proofs.YtibhkijaafdkoaaGreatDoor
