/- Walks: package fifo's Delays. -/
import Derived.Test.YtcldgpbimaoliabDoorDelays2
namespace Go.Proofs.YtcldgpbimaoliabDoor
open Go.RowKit

set_option maxRecDepth 100000 in
set_option maxHeartbeats 4000000 in
theorem delays_any (pa : Option Addr) (pcap : Nat) (ps : List Pk) (a : Option Addr) (cap : Nat) (l : List Sn) (w : World) (ad : Nat → Addr) (he : w.cell? ⟨0, 0, none⟩ = some (.iface 120 (.pointer (some (ad 3))))) (hp : LiesP w pa ps) (hl : LiesS w a l) (hn : l.length ≤ 300) (hm : ps.length ≤ 300) (ht : tameAll l)
    (htp : ∀ (i : Nat) p, ps[i]? = some p → -1125899906842624 ≤ p.tick ∧ p.tick ≤ 1125899906842624) :
    Calls Tryd.prog 15 #[.slice pa ps.length pcap, .slice a l.length cap] w fun e w' => DelaysEnd ps l ad w e w' := by
  have HP : Hid (LiesP w pa ps ∧ (∀ (i : Nat) p, ps[i]? = some p → -1125899906842624 ≤ p.tick ∧ p.tick ≤ 1125899906842624)) := ⟨hp, htp⟩
  have HL : Hid (LiesS w a l ∧ tameAll l) := ⟨hl, ht⟩
  have HE : Hid (w.cell? ⟨0, 0, none⟩ = some (.iface 120 (.pointer (some (ad 3))))) := he
  clear hp htp hl ht he
  obtain ⟨n, hnn⟩ : ∃ n, l.length = n := ⟨_, rfl⟩
  obtain ⟨m, hmm⟩ : ∃ m, ps.length = m := ⟨_, rfl⟩
  have HN : Hid (l.length = n ∧ ps.length = m) := ⟨hnn, hmm⟩
  rw [hnn] at hn ⊢
  rw [hmm] at hm ⊢
  clear hnn hmm
  have hmk : ∀ w' : World, (Instr.makeSlice 32 (.int .i64 n) (.int .i64 n)).run Tryd.prog w' = .ok (.slice (some ⟨w'.heap.size, 0, none⟩) n n) (w'.alloc (.cells (madeCells #[.int .i64 0] n) 3)) := fun w' => by
    obtain ⟨i0, hi, hz0, hz1, hz2⟩ := info_parts Tryd.infoInt
    have := run_make (P := Tryd.prog) w' 32 3 i0 (.int .i64 0) Tryd.underlying32 hi hz0 .i64 .i64 n n (by omega) (by omega) (by rw [hz2]; omega) (by omega)
    simpa [hz1, Value.cells] using this
  have HS0 : Hid (DelAt (w.alloc (.cells (madeCells #[.int .i64 0] n) 3)) w.heap.size n ps l 0 ∧ Below w.heap.size w (w.alloc (.cells (madeCells #[.int .i64 0] n) 3))) := ⟨del_made w n _ ps l, (Below.refl _ _).alloc (Nat.le_refl _) _⟩
  go_enter Tryd.func15, Tryd.ntmps15
  go_wp2_with fail
  obtain ⟨D, hD⟩ : ∃ D, w.heap.size = D := ⟨_, rfl⟩
  have HD : Hid (w.heap.size = D) := hD
  rw [hD]
  clear hD hmk
  go_loopg [14] n (fun gk i wr => ∃ k : Nat, gk + k = n ∧ i = .int .i64 k ∧ (∀ (i : Nat) x, i < k → l[i]? = some x → named m x = true) ∧ DelAt wr D n ps l k ∧ Below w.heap.size w wr)
  case atStart => exact ⟨0, by omega, rfl, fun i x h => by omega, by have := HS0.out.1; rwa [HD.out] at this, HS0.out.2⟩
  case round =>
    obtain ⟨k, hgk, rfl, hok, hdel, hb⟩ := hrel
    have HB : Hid (Below w.heap.size w wr ∧ (∀ (i : Nat) x, i < k → l[i]? = some x → named m x = true) ∧ DelAt wr D n ps l k) := ⟨hb, hok, hdel⟩
    by_cases hkn : k < n
    · obtain ⟨x, hx, -⟩ := get_some l k (by rw [HN.out.1]; exact hkn)
      obtain ⟨b, off, rfl, -, hc⟩ := HL.out.1.place (by rw [HN.out.1]; omega)
      have c1 : wr.cell? ⟨b, off + k * 3, none⟩ = some (.int .i64 x.num) := cell_later hb (hc k _ hx).1
      have c2 : wr.cell? ⟨b, off + k * 3 + 1, none⟩ = some (.int .i64 x.beg) := cell_later hb (hc k _ hx).2.1
      have c3 : wr.cell? ⟨b, off + k * 3 + 2, none⟩ = some (.int .i64 x.fin) := cell_later hb (hc k _ hx).2.2
      obtain ⟨-, -, t3, t4⟩ := tame_true (HL.out.2 k x hx)
      have HX : Hid (l[k]? = some x) := hx
      clear hc hx hok hdel
      cases ht : named m x with
      | true =>
        obtain ⟨s1, s2⟩ := named_true ht
        have s1' : ¬ x.num < 0 := by omega
        have s2' : ¬ (m : Int) ≤ x.num := by omega
        obtain ⟨q, hq⟩ : ∃ q : Nat, x.num = q := ⟨x.num.toNat, by omega⟩
        have hqm : q < m := by omega
        obtain ⟨p, hp, -⟩ := get_some ps q (by rw [HN.out.2]; exact hqm)
        obtain ⟨b2, o2, rfl, -, hc2⟩ := HP.out.1.place (by rw [HN.out.2]; omega)
        obtain ⟨t1, t2⟩ := HP.out.2 q p hp
        have HDl : Hid (delayOf ps x = x.fin - p.tick) := by
          show _ = _
          unfold delayOf
          rw [hq, Int.toNat_natCast, tickOf_get hp]
        have HT : Hid (named m x = true) := ht
        rw [hq] at c1
        have d1 : (wr.alloc (.cells #[.int .i64 q, .int .i64 x.beg, .int .i64 x.fin] 43)).cell? ⟨b2, o2 + q * 3 + 2, none⟩ = some (.int .i64 p.tick) := cell_later ((Below.refl _ _).alloc (Nat.le_refl _) _) (cell_later hb (hc2 q _ hp).2.2)
        obtain ⟨u0, hu0⟩ := HB.out.2.2.room k hkn
        have d2 : (wr.alloc (.cells #[.int .i64 q, .int .i64 x.beg, .int .i64 x.fin] 43)).cell? ⟨D, k, none⟩ = some u0 := cell_later ((Below.refl _ _).alloc (Nat.le_refl _) _) hu0
        have d3 : (wr.alloc (.cells #[.int .i64 q, .int .i64 x.beg, .int .i64 x.fin] 43)).frozen? ⟨D, k, none⟩ = false := by
          rw [((Below.refl _ _).alloc (Nat.le_refl _) _ : Below wr.heap.size wr _).frozen (p := ⟨D, k, none⟩) HB.out.2.2.lt]
          exact HB.out.2.2.frozen k
        have hw : IntKind.i64.wrap (x.fin - p.tick) = x.fin - p.tick := IntWalk.i64_in _ (by omega)
        clear hc2 hp ht s1 s2 hu0 hq hb
        generalize x.beg = y at *
        generalize p.tick = tk at *
        go_wp2_with fail
        have HEnd : Hid (DelAt ((wr.alloc (.cells #[.int .i64 q, .int .i64 y, .int .i64 x.fin] 43)).setCell ⟨D, k, none⟩ (.int .i64 (x.fin - tk))).drew D n ps l (k + 1) ∧ Below w.heap.size w ((wr.alloc (.cells #[.int .i64 q, .int .i64 y, .int .i64 x.fin] 43)).setCell ⟨D, k, none⟩ (.int .i64 (x.fin - tk))).drew) := by
          have h1 := (HB.out.2.2.later ((Below.refl _ _).alloc (Nat.le_refl _) (.cells #[.int .i64 q, .int .i64 y, .int .i64 x.fin] 43))).put hkn x HX.out
          rw [HDl.out] at h1
          exact ⟨h1.later (below_drewN (Below.refl _ _) 1), below_drewN ((HB.out.1.alloc HB.out.1.size _).setCell (by rw [HD.out]; exact Nat.le_refl D) _) 1⟩
        go_region
        go_wp2_with fail
        go_roundg (gk - 1)
        case measure => omega
        case rel =>
          refine ⟨k + 1, by omega, by go_num, fun i z hi hz => ?_, HEnd.out.1, HEnd.out.2⟩
          rcases Nat.lt_or_ge i k with h | h
          · exact HB.out.2.1 i z h hz
          · obtain rfl : i = k := by omega
            obtain rfl := Option.some.inj (HX.out.symm.trans hz)
            exact HT.out
      | false =>
        have HEw := cell_later HB.out.1 HE.out
        have HEa : Hid (wr.cell? ⟨0, 0, none⟩ = some (.iface 120 (.pointer (some (ad 3))))) := HEw
        have hE1 : (wr.alloc (.cells #[.int .i64 x.num, .int .i64 x.beg, .int .i64 x.fin] 43)).cell? ⟨0, 0, none⟩ = some (.iface 120 (.pointer (some (ad 3)))) := cell_later ((Below.refl _ _).alloc (Nat.le_refl _) _) HEw
        have hcases := named_false ht
        have HT : Hid (named m x = false) := ht
        clear ht HEw hb
        have HEnd : Hid (DelaysEnd ps l ad w (.returned (.tuple #[.slice none 0 0, .iface 63 (.pointer (some ⟨wr.heap.size + 1, 0, none⟩))])) ((wr.alloc (.cells #[.int .i64 x.num, .int .i64 x.beg, .int .i64 x.fin] 43)).alloc (.cells #[.int .i64 k, .iface 120 (.pointer (some (ad 3)))] 65)).drew) := by
          have hs : (wr.alloc (.cells #[.int .i64 x.num, .int .i64 x.beg, .int .i64 x.fin] 43)).heap.size = wr.heap.size + 1 := by simp
          refine ⟨below_drewN ((HB.out.1.alloc HB.out.1.size _).alloc (by rw [hs]; exact Nat.le_succ_of_le HB.out.1.size) _) 1, .inr ⟨k, x, wr.heap.size + 1, HX.out, ?_, ?_, rfl, ?_, ?_⟩⟩
          · intro i y hi hy
            rw [HN.out.2]
            exact HB.out.2.1 i y hi hy
          · rw [HN.out.2]; exact HT.out
          · rw [World.cell?_drew, World.cell?_alloc_at _ _ _ _ hs.symm]; rfl
          · rw [World.cell?_drew, World.cell?_alloc_at _ _ _ _ hs.symm]; rfl
        rcases hcases with s1 | ⟨s1, s2⟩
        · go_wp2_with fail
          go_region
          go_wp2_with fail
          go_ret2
          exact HEnd.out
        · go_wp2_with fail
          go_region
          go_wp2_with fail
          go_ret2
          exact HEnd.out
    · clear hok hdel hb
      go_wp2_with fail
      go_ret2
      refine ⟨HB.out.1, .inl ⟨D, by rw [HN.out.1]; rfl, ?_, fun i x hx => ?_⟩⟩
      · obtain rfl : k = n := by omega
        rw [HN.out.1]; exact HB.out.2.2
      · rw [HN.out.2]
        exact HB.out.2.1 i x (by have := lt_of_get hx; have := HN.out.1; omega) hx
end Go.Proofs.YtcldgpbimaoliabDoor
