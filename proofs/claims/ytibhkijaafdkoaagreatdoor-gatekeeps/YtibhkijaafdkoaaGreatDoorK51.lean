/- Own facts, put together: no statement of its own. -/
import Derived.Deep.LoopGhost
import Derived.Test.YtibhkijaafdkoaaGreatDoorK50
import Derived.Test.YtibhkijaafdkoaaGreatDoorK17
import Derived.Test.YtibhkijaafdkoaaGreatDoorK12
import Derived.Test.YtibhkijaafdkoaaGreatDoorK47
import Derived.Test.YtibhkijaafdkoaaGreatDoorTie
import Derived.ProofKit
import Derived.OpenShut
import Derived.ShutString
import Derived.ChangeOld
import Derived.ChangeVars
import Derived.Deep.SlicePairs
import Derived.Lib.SmallJoins
import Derived.LaidMore
import Derived.LaidLaws
import Derived.LaidHandle
import Derived.Stop.LaidErr
import Derived.Stop.Joined
import Derived.Test.YtibhkijaafdkoaaGreatDoorK01
import Derived.Deep.Slices
import Derived.Test.YtibhkijaafdkoaaGreatDoorK24
import Derived.Test.YtibhkijaafdkoaaGreatDoorK09
namespace Go.Proofs.YtibhkijaafdkoaaGreatDoor
open Go.RowKit
def delayOf (ps : List Pk) (x : Sn) : Int := x.fin - tickOf ps x.num.toNat
structure DelAt (w : World) (D n : Nat) (ps : List Pk) (l : List Sn) (k : Nat) : Prop where
 cell : ∀ (i : Nat) x, i < k → l[i]? = some x → w.cell? ⟨D, i, none⟩ = some (.int .i64 (delayOf ps x))
 room : ∀ i, i < n → ∃ u, w.cell? ⟨D, i, none⟩ = some u
 frozen : ∀ i, w.frozen? ⟨D, i, none⟩ = false
 lt : D < w.heap.size
theorem del_made (w : World) (n : Nat) (t : TypeId) (ps : List Pk) (l : List Sn) : DelAt (w.alloc (.cells (madeCells #[.int .i64 0] n) t)) w.heap.size n ps l 0 := by
 refine ⟨fun i x h => by omega, fun i hi => ⟨.int .i64 0, ?_⟩, fun i => World.frozen?_alloc_new w _ _ i, by simp⟩
 rw [World.cell?_alloc_at _ _ _ _ rfl]
 exact made_get _ _ _ hi
theorem DelAt.later {w w' : World} {D n : Nat} {ps : List Pk} {l : List Sn} {k : Nat} (h : DelAt w D n ps l k) (hb : Below w.heap.size w w') : DelAt w' D n ps l k :=
 ⟨fun i x hi hx => cell_later hb (h.cell i x hi hx), fun i hi => by obtain ⟨u, hu⟩ := h.room i hi; exact ⟨u, cell_later hb hu⟩, fun i => by rw [hb.frozen (p := ⟨D, i, none⟩) h.lt]; exact h.frozen i, Nat.lt_of_lt_of_le h.lt hb.size⟩
theorem DelAt.put {w : World} {D n : Nat} {ps : List Pk} {l : List Sn} {k : Nat} (h : DelAt w D n ps l k) (hk : k < n) (x : Sn) (hx : l[k]? = some x) : DelAt (w.setCell ⟨D, k, none⟩ (.int .i64 (delayOf ps x))) D n ps l (k + 1) := by
 have hs : (w.cell? ⟨D, k, none⟩).isSome = true := by obtain ⟨u, hu⟩ := h.room k hk; rw [hu]; rfl
 refine ⟨fun i y hi hy => ?_, fun i hi => ?_, fun i => by rw [World.frozen?_setCell]; exact h.frozen i, by simp [World.setCell]; exact h.lt⟩
 ·
  by_cases e : k = i
  ·
   subst e
   obtain rfl := Option.some.inj (hx.symm.trans hy)
   exact World.cell?_setCell_same' _ _ _ hs
  ·
   rw [World.cell?_setCell_other _ _ _ _ (by intro e'; cases e'; exact e rfl)]
   exact h.cell i y (by omega) hy
 ·
  by_cases e : k = i
  ·
   subst e
   exact ⟨_, World.cell?_setCell_same' _ _ _ hs⟩
  ·
   rw [World.cell?_setCell_other _ _ _ _ (by intro e'; cases e'; exact e rfl)]
   exact h.room i hi
def DelaysEnd (ps : List Pk) (l : List Sn) (ad : Nat → Addr) (w : World) (e : Ending) (w' : World) : Prop :=
 Below w.heap.size w w' ∧ ((∃ D, e = .returned (.tuple #[.slice (some ⟨D, 0, none⟩) l.length l.length, .nilIface]) ∧ DelAt w' D l.length ps l l.length ∧ ∀ (i : Nat) x, l[i]? = some x → named ps.length x = true) ∨
  (∃ (j : Nat) (x : Sn) (F : Nat), l[j]? = some x ∧ (∀ (i : Nat) y, i < j → l[i]? = some y → named ps.length y = true) ∧ named ps.length x = false ∧ e = .returned (.tuple #[.slice none 0 0, .iface 110 (.pointer (some ⟨F, 0, none⟩))]) ∧ w'.cell? ⟨F, 0, none⟩ = some (.int .i64 j) ∧ w'.cell? ⟨F, 1, none⟩ = some (.iface 271 (.pointer (some (ad 3))))))
end Go.Proofs.YtibhkijaafdkoaaGreatDoor

namespace Go.Proofs.YtibhkijaafdkoaaGreatDoor
open Go.RowKit
set_option maxRecDepth 100000 in
set_option maxHeartbeats 4000000 in
theorem delays_any (pa : Option Addr) (pcap : Nat) (ps : List Pk) (a : Option Addr) (cap : Nat) (l : List Sn) (w : World) (ad : Nat → Addr) (he : w.cell? ⟨0, 0, none⟩ = some (.iface 271 (.pointer (some (ad 3))))) (hp : LiesP w pa ps) (hl : LiesS w a l) (hn : l.length ≤ 300) (hm : ps.length ≤ 300) (ht : tameAll l)
  (htp : ∀ (i : Nat) p, ps[i]? = some p → -1125899906842624 ≤ p.tick ∧ p.tick ≤ 1125899906842624) :
  Calls Tryz.prog 24 #[.slice pa ps.length pcap, .slice a l.length cap] w fun e w' => DelaysEnd ps l ad w e w' := by
 have HP : Hid (LiesP w pa ps ∧ (∀ (i : Nat) p, ps[i]? = some p → -1125899906842624 ≤ p.tick ∧ p.tick ≤ 1125899906842624)) := ⟨hp, htp⟩
 have HL : Hid (LiesS w a l ∧ tameAll l) := ⟨hl, ht⟩
 have HE : Hid (w.cell? ⟨0, 0, none⟩ = some (.iface 271 (.pointer (some (ad 3))))) := he
 clear hp htp hl ht he
 obtain ⟨n, hnn⟩ : ∃ n, l.length = n := ⟨_, rfl⟩
 obtain ⟨m, hmm⟩ : ∃ m, ps.length = m := ⟨_, rfl⟩
 have HN : Hid (l.length = n ∧ ps.length = m) := ⟨hnn, hmm⟩
 rw [hnn] at hn ⊢
 rw [hmm] at hm ⊢
 clear hnn hmm
 have hmk : ∀ w' : World, (Instr.makeSlice 23 (.int .i64 n) (.int .i64 n)).run Tryz.prog w' = .ok (.slice (some ⟨w'.heap.size, 0, none⟩) n n) (w'.alloc (.cells (madeCells #[.int .i64 0] n) 3)) := fun w' => by
  obtain ⟨i0, hi, hz0, hz1, hz2⟩ := info_parts Tryz.infoInt
  have := run_make (P := Tryz.prog) w' 23 3 i0 (.int .i64 0) Tryz.underlying23 hi hz0 .i64 .i64 n n (by omega) (by omega) (by rw [hz2]; omega) (by omega)
  simpa [hz1, Value.cells] using this
 have HS0 : Hid (DelAt (w.alloc (.cells (madeCells #[.int .i64 0] n) 3)) w.heap.size n ps l 0 ∧ Below w.heap.size w (w.alloc (.cells (madeCells #[.int .i64 0] n) 3))) := ⟨del_made w n _ ps l, (Below.refl _ _).alloc (Nat.le_refl _) _⟩
 go_enter Tryz.func24, Tryz.ntmps24
 go_wp2_with fail
 obtain ⟨D, hD⟩ : ∃ D, w.heap.size = D := ⟨_, rfl⟩
 have HD : Hid (w.heap.size = D) := hD
 rw [hD]
 clear hD hmk
 go_loopg [14] n (fun gk i wr => ∃ k : Nat, gk + k = n ∧ i = .int .i64 k ∧ (∀ (i : Nat) x, i < k → l[i]? = some x → named m x = true) ∧ DelAt wr D n ps l k ∧ Below w.heap.size w wr)
 case atStart => exact ⟨0, by omega, rfl, fun i x h => by omega, by have := HS0.out.1; rwa [HD.out] at this, HS0.out.2⟩
 case round =>
  obtain ⟨k, hgk, rfl, hok, hdel, hb⟩ := hrel
  have HB : Hid (Below w.heap.size w wr ∧ (∀ (i : Nat) x, i < k → l[i]? = some x → named m x = true) ∧ DelAt wr D n ps l k) := ⟨hb, hok, hdel⟩
  by_cases hkn : k < n
  ·
   obtain ⟨x, hx, -⟩ := get_some l k (by rw [HN.out.1]; exact hkn)
   obtain ⟨b, off, rfl, -, hc⟩ := HL.out.1.place (by rw [HN.out.1]; omega)
   have c1 : wr.cell? ⟨b, off + k * 3, none⟩ = some (.int .i64 x.num) := cell_later hb (hc k _ hx).1
   have c2 : wr.cell? ⟨b, off + k * 3 + 1, none⟩ = some (.int .i64 x.beg) := cell_later hb (hc k _ hx).2.1
   have c3 : wr.cell? ⟨b, off + k * 3 + 2, none⟩ = some (.int .i64 x.fin) := cell_later hb (hc k _ hx).2.2
   obtain ⟨-, -, t3, t4⟩ := tame_true (HL.out.2 k x hx)
   have HX : Hid (l[k]? = some x) := hx
   clear hc hx hok hdel
   cases ht : named m x with
   | true =>
    obtain ⟨s1, s2⟩ := named_true ht
    have s1' : ¬ x.num < 0 := by omega
    have s2' : ¬ (m : Int) ≤ x.num := by omega
    obtain ⟨q, hq⟩ : ∃ q : Nat, x.num = q := ⟨x.num.toNat, by omega⟩
    have hqm : q < m := by omega
    obtain ⟨p, hp, -⟩ := get_some ps q (by rw [HN.out.2]; exact hqm)
    obtain ⟨b2, o2, rfl, -, hc2⟩ := HP.out.1.place (by rw [HN.out.2]; omega)
    obtain ⟨t1, t2⟩ := HP.out.2 q p hp
    have HDl : Hid (delayOf ps x = x.fin - p.tick) := by
     show _ = _
     unfold delayOf
     rw [hq, Int.toNat_natCast, tickOf_get hp]
    have HT : Hid (named m x = true) := ht
    rw [hq] at c1
    have d1 : (wr.alloc (.cells #[.int .i64 q, .int .i64 x.beg, .int .i64 x.fin] 78)).cell? ⟨b2, o2 + q * 3 + 2, none⟩ = some (.int .i64 p.tick) := cell_later ((Below.refl _ _).alloc (Nat.le_refl _) _) (cell_later hb (hc2 q _ hp).2.2)
    obtain ⟨u0, hu0⟩ := HB.out.2.2.room k hkn
    have d2 : (wr.alloc (.cells #[.int .i64 q, .int .i64 x.beg, .int .i64 x.fin] 78)).cell? ⟨D, k, none⟩ = some u0 := cell_later ((Below.refl _ _).alloc (Nat.le_refl _) _) hu0
    have d3 : (wr.alloc (.cells #[.int .i64 q, .int .i64 x.beg, .int .i64 x.fin] 78)).frozen? ⟨D, k, none⟩ = false := by
     rw [((Below.refl _ _).alloc (Nat.le_refl _) _ : Below wr.heap.size wr _).frozen (p := ⟨D, k, none⟩) HB.out.2.2.lt]
     exact HB.out.2.2.frozen k
    have hw : IntKind.i64.wrap (x.fin - p.tick) = x.fin - p.tick := IntWalk.i64_in _ (by omega)
    clear hc2 hp ht s1 s2 hu0 hq hb
    generalize x.beg = y at *
    generalize p.tick = tk at *
    go_wp2_with fail
    have HEnd : Hid (DelAt ((wr.alloc (.cells #[.int .i64 q, .int .i64 y, .int .i64 x.fin] 78)).setCell ⟨D, k, none⟩ (.int .i64 (x.fin - tk))).drew D n ps l (k + 1) ∧ Below w.heap.size w ((wr.alloc (.cells #[.int .i64 q, .int .i64 y, .int .i64 x.fin] 78)).setCell ⟨D, k, none⟩ (.int .i64 (x.fin - tk))).drew) := by
     have h1 := (HB.out.2.2.later ((Below.refl _ _).alloc (Nat.le_refl _) (.cells #[.int .i64 q, .int .i64 y, .int .i64 x.fin] 78))).put hkn x HX.out
     rw [HDl.out] at h1
     exact ⟨h1.later (below_drewN (Below.refl _ _) 1), below_drewN ((HB.out.1.alloc HB.out.1.size _).setCell (by rw [HD.out]; exact Nat.le_refl D) _) 1⟩
    go_region
    go_wp2_with fail
    go_roundg (gk - 1)
    case measure => omega
    case rel =>
     refine ⟨k + 1, by omega, by go_num, fun i z hi hz => ?_, HEnd.out.1, HEnd.out.2⟩
     rcases Nat.lt_or_ge i k with h | h
     · exact HB.out.2.1 i z h hz
     ·
      obtain rfl : i = k := by omega
      obtain rfl := Option.some.inj (HX.out.symm.trans hz)
      exact HT.out
   | false =>
    have HEw := cell_later HB.out.1 HE.out
    have HEa : Hid (wr.cell? ⟨0, 0, none⟩ = some (.iface 271 (.pointer (some (ad 3))))) := HEw
    have hE1 : (wr.alloc (.cells #[.int .i64 x.num, .int .i64 x.beg, .int .i64 x.fin] 78)).cell? ⟨0, 0, none⟩ = some (.iface 271 (.pointer (some (ad 3)))) := cell_later ((Below.refl _ _).alloc (Nat.le_refl _) _) HEw
    have hcases := named_false ht
    have HT : Hid (named m x = false) := ht
    clear ht HEw hb
    have HEnd : Hid (DelaysEnd ps l ad w (.returned (.tuple #[.slice none 0 0, .iface 110 (.pointer (some ⟨wr.heap.size + 1, 0, none⟩))])) ((wr.alloc (.cells #[.int .i64 x.num, .int .i64 x.beg, .int .i64 x.fin] 78)).alloc (.cells #[.int .i64 k, .iface 271 (.pointer (some (ad 3)))] 112)).drew) := by
     have hs : (wr.alloc (.cells #[.int .i64 x.num, .int .i64 x.beg, .int .i64 x.fin] 78)).heap.size = wr.heap.size + 1 := by simp
     refine ⟨below_drewN ((HB.out.1.alloc HB.out.1.size _).alloc (by rw [hs]; exact Nat.le_succ_of_le HB.out.1.size) _) 1, .inr ⟨k, x, wr.heap.size + 1, HX.out, ?_, ?_, rfl, ?_, ?_⟩⟩
     ·
      intro i y hi hy
      rw [HN.out.2]
      exact HB.out.2.1 i y hi hy
     · rw [HN.out.2]; exact HT.out
     · rw [World.cell?_drew, World.cell?_alloc_at _ _ _ _ hs.symm]; rfl
     · rw [World.cell?_drew, World.cell?_alloc_at _ _ _ _ hs.symm]; rfl
    rcases hcases with s1 | ⟨s1, s2⟩
    ·
     go_wp2_with fail
     go_region
     go_wp2_with fail
     go_ret2
     exact HEnd.out
    ·
     go_wp2_with fail
     go_region
     go_wp2_with fail
     go_ret2
     exact HEnd.out
  ·
   clear hok hdel hb
   go_wp2_with fail
   go_ret2
   refine ⟨HB.out.1, .inl ⟨D, by rw [HN.out.1]; rfl, ?_, fun i x hx => ?_⟩⟩
   ·
    obtain rfl : k = n := by omega
    rw [HN.out.1]; exact HB.out.2.2
   ·
    rw [HN.out.2]
    exact HB.out.2.1 i x (by have := lt_of_get hx; have := HN.out.1; omega) hx
end Go.Proofs.YtibhkijaafdkoaaGreatDoor

namespace Go.Proofs.YtibhkijaafdkoaaGreatDoor
section
variable {per : Int} {ps : List Pk} {l : List Sn}
theorem tick_most (ho : OkPks ps) (j : Nat) : 0 ≤ tickOf ps j ∧ tickOf ps j ≤ 1099511627776 := by
 unfold tickOf
 cases e : ps[j]? with
 | none => simp only; omega
 | some p =>
  have := okPk_true (ho.each _ p e).1
  simp only
  omega
theorem Conv.range (ho : OkPks ps) (hper : 1 ≤ per ∧ per ≤ 1000) (h : Conv per ps l) : ∀ (k : Nat) x, l[k]? = some x → 0 ≤ x.beg ∧ x.beg ≤ x.fin ∧ x.fin ≤ 1099511627776 + 1500000 * ((k : Int) + 1)
 | k, x, hx => by
  obtain ⟨t, b, h1, h2, -, e⟩ := h k x hx
  have hl : lastFin (l.take k) ≤ 1099511627776 + 1500000 * (k : Int) ∧ 0 ≤ lastFin (l.take k) := by
   cases k with
   | zero => exact ⟨by rw [List.take_zero, lastFin_nil]; omega, by rw [List.take_zero, lastFin_nil]; omega⟩
   | succ k =>
    have hkl : k < l.length := by have := lt_of_get hx; omega
    have e2 : l[k]? = some l[k] := List.getElem?_eq_getElem hkl
    have := Conv.range ho hper h k l[k] e2
    rw [lastFin_take e2]
    omega
  have ht : 0 ≤ t ∧ t ≤ 1099511627776 + 1500000 * (k : Int) := by
   rcases h1 with ⟨rfl, -⟩ | ⟨-, j, -, rfl, -⟩
   · omega
   · have := tick_most ho j; omega
  have hb : 0 ≤ per * bytesOf ps b ∧ per * bytesOf ps b ≤ 1500000 := by
   have e2 : ps[b]? = some (ps[b]'h2.1) := List.getElem?_eq_getElem h2.1
   have := okPk_true (ho.each _ _ e2).1
   rw [bytesOf_get e2]
   have a1 : 0 ≤ per * (ps[b]'h2.1).size := Int.mul_nonneg (by omega) (by omega)
   have a2 : per * (ps[b]'h2.1).size ≤ 1000 * 1500 := Int.mul_le_mul (by omega) (by omega) (by omega) (by omega)
   omega
  rw [e]
  simp only
  omega
end
end Go.Proofs.YtibhkijaafdkoaaGreatDoor

namespace Go.Proofs.YtibhkijaafdkoaaGreatDoor
open Go.RowKit
theorem conv_tame {per : Int} {ps : List Pk} {l : List Sn} (ho : OkPks ps) (h1 : 1 ≤ per) (h2 : per ≤ 1000) (hc : Conv per ps l) (hl : l.length = ps.length) : tameAll l := fun i x hx => by
 have h := hc.range ho ⟨h1, h2⟩ i x hx
 have hi := lt_of_get hx
 have hf := ho.few
 have : 1500000 * ((i : Int) + 1) ≤ 1500000 * 301 := by omega
 exact decide_eq_true (by omega)
theorem conv_named {per : Int} {ps : List Pk} {l : List Sn} (hc : Conv per ps l) : ∀ (i : Nat) x, l[i]? = some x → named ps.length x = true := fun i x hx => by
 obtain ⟨t, b, -, hu, -, rfl⟩ := hc i x hx
 have := hu.1
 exact decide_eq_true ⟨by show (0 : Int) ≤ (b : Int); omega, by show (b : Int) < ps.length; omega⟩
theorem keepAudit (a : Option Addr) (cap : Nat) (ps : List Pk) (per : Int) (b : Option Addr) (bcap : Nat) (l : List Sn) (w : World) (ad : Nat → Addr) (he : Errs9 w ad) (hp : LiesP w a ps) (hpc : ps.length ≤ cap) (hpm : cap ≤ maxLen) (hl : LiesS w b l) (ho : OkPks ps) (h1 : 1 ≤ per) (h2 : per ≤ 1000) (hc : Conv per ps l) (ht : Turns ps l) (hll : l.length = ps.length) :
  Calls Tryz.prog 22 #[.slice a ps.length cap, .int .i64 per, .slice b l.length bcap] w fun e w' => e = .returned .nilIface ∧ Below w.heap.size w w' := by
 refine (auCheck_is a cap ps per b bcap l w ad 0 (-1) he hp hpc hpm hl (by rw [hll]; exact ho.few) (conv_tame ho h1 h2 hc hll) (.inr ⟨ho, h1, h2, hc.audit ho h1 ht hll⟩)).mono ?_
 rintro e w' ⟨E, rfl, hE, hb⟩
 rw [hE.none_ rfl]
 exact ⟨rfl, hb⟩
theorem keepDelays (a : Option Addr) (cap : Nat) (ps : List Pk) (per : Int) (b : Option Addr) (bcap : Nat) (l : List Sn) (w : World) (ad : Nat → Addr) (he : Errs9 w ad) (hp : LiesP w a ps) (hl : LiesS w b l) (ho : OkPks ps) (h1 : 1 ≤ per) (h2 : per ≤ 1000) (hc : Conv per ps l) (hll : l.length = ps.length) :
  Calls Tryz.prog 24 #[.slice a ps.length cap, .slice b l.length bcap] w fun e w' => ∃ D, e = .returned (.tuple #[.slice (some ⟨D, 0, none⟩) l.length l.length, .nilIface]) ∧ (∀ (i : Nat) x, l[i]? = some x → w'.cell? ⟨D, i, none⟩ = some (.int .i64 (x.fin - tickOf ps x.num.toNat))) ∧ Below w.heap.size w w' := by
 refine (delays_any a cap ps b bcap l w ad he.c3 hp hl (by rw [hll]; exact ho.few) ho.few (conv_tame ho h1 h2 hc hll) (fun i q hq => by have := okPk_true (ho.each i q hq).1; omega)).mono ?_
 rintro e w' ⟨hb, ⟨D, rfl, hD, -⟩ | ⟨j, x, F, hj, -, hno, -⟩⟩
 · exact ⟨D, rfl, fun i x hx => hD.cell i x (lt_of_get hx) hx, hb⟩
 ·
  rw [conv_named hc j x hj] at hno
  cases hno
end Go.Proofs.YtibhkijaafdkoaaGreatDoor

namespace Go.Proofs.YtibhkijaafdkoaaGreatDoor
open Go.RowKit
theorem keepWalks : KeepWalks SumRel DelayBy BusyBy where
 audit := keepAudit
 delays := keepDelays
 keep := gate_keep sumWay keepWay
end Go.Proofs.YtibhkijaafdkoaaGreatDoor

namespace Go.Proofs.YtibhkijaafdkoaaGreatDoor
open Go.ChangeShapes Go.WideShapes Go.ChangeAt Go.RowKit
theorem Tryz.own : ownKnob Tryz.prog.godebug = none := by kernel_rfl
theorem Tryz.laidOut : laidOutB Tryz.prog = true := by kernel_rfl
theorem Tryz.cellsInt : Tryz.prog.cellsOf 3 = 1 := by kernel_rfl
theorem Tryz.cellsES : Tryz.prog.cellsOf 291 = 1 := by kernel_rfl
theorem Tryz.cellsStr : Tryz.prog.cellsOf 9 = 1 := by kernel_rfl
def nameES : String := match (Rows.laid_floodgate_api_ErrBound : DataW Unit) with | .iface n _ => n | _ => "none"
theorem rows_star {P : Program} {tp : TypeId} {s : String} (hs : s = nameES) (h : ((List.range P.types.size).all fun u => P.typeName? 3 u != some nameES || u == tp) = true) : ((List.range P.types.size).all fun u => P.typeName? 3 u != some s || u == tp) = true := by
 rw [hs]
 exact h
theorem Tryz.rowPES (u : TypeId) (h : Tryz.prog.typeName? 3 u = some nameES) : u = 271 :=
 typeName_ptr_named (P := Tryz.prog) (nm := "errors.errorString") (tp := 271) (rows_star (by decide) (by kernel_rfl)) (by kernel_rfl) (by decide) u (h.trans (congrArg some (by decide)))
set_option maxRecDepth 100000 in
theorem sentinel_of_laid {n nm : String} {text : List UInt8} {r : List (String × DataW Unit)} {W : World} {g : Nat}
  (h : laidMet Tryz.prog ((n, .iface nm (.ptr (.agg [.lit (.string text)]))) :: r) W)
  (hnm : nm = nameES) (hg : Tryz.prog.globalNamed n = some g) (ht : (Tryz.prog.globals[g]?).map (·.type) = some 29) :
  ∃ (a : Addr) (s : ByteArray), W.cell? ⟨g, 0, none⟩ = some (.iface 271 (.pointer (some a))) ∧ W.cell? a = some (.string s) ∧ s.data.toList = text ∧ ∃ c t, W.heap[a.block]? = some (.cells c t (0, 0)) := by
 obtain ⟨ps, ⟨g0, t0, cs0, f0, p0, q0, hg0, ht0, hv0, hd0, _, e0⟩, _, hrows⟩ := h
 obtain rfl := Option.some.inj (hg.symm.trans hg0)
 obtain rfl := Option.some.inj (ht.symm.trans ht0)
 subst e0
 obtain ⟨l0⟩ := cs0
 have ok0 : ∀ u v, l0 = [.iface u v] → Value.okWide Tryz.prog W .any 0 u v := fun u v e => by
  subst e
  exact (hrows g 0 (by simp [MemPlace.row])).2 u v (by simpa using World.var?_cell hg0 hv0 0)
 obtain ⟨a0, s0, rfl, hc0, hs0, hz0, rfl⟩ := errorString_of_trod Tryz.underlying29 (fun u hu => Tryz.rowPES u (by rw [← hnm]; exact hu)) Tryz.underlying271 Tryz.underlying291 rfl rfl Tryz.underlying9 Tryz.cellsES Tryz.cellsStr hd0 ok0
 exact ⟨a0, s0, by simpa using World.var?_cell hg0 hv0 0, hc0, hs0, (hrows a0.block a0.off (by simp [MemPlace.row])).1⟩
end Go.Proofs.YtibhkijaafdkoaaGreatDoor

namespace Go.Proofs.YtibhkijaafdkoaaGreatDoor
open Go.ChangeShapes Go.WideShapes Go.ChangeAt Go.RowKit Go.Deep
theorem open_slice_three {H : Type} {enc : TypeId × Value → H} {P : Program} {w : World} {base : Nat} {spare : Nat → Bool} {held : Bool} {t e : TypeId} {f0 f1 f2 : Field} {fuel : Nat} {cs : List Value} {x : DataW H × List MemPlace}
  (ht : P.underlying t = some (.slice e)) (he : P.underlying e = some (.struct #[f0, f1, f2])) (ce : P.cellsOf e = 3) (o0 : f0.offset = 0) (o1 : f1.offset = 1) (o2 : f2.offset = 2) (c0 : P.cellsOf f0.type = 1) (c1 : P.cellsOf f1.type = 1) (c2 : P.cellsOf f2.type = 1)
  (h : DataW.trod enc P w base spare held fuel t cs = some x) :
  cs = [.slice none 0 0] ∨
  ∃ (a : Addr) (len cap n : Nat), cs = [.slice (some a) len cap] ∧ len ≤ cap ∧ cap ≤ maxLen ∧
   ∀ i, i < len → ∃ (v0 v1 v2 : Value) (y0 y1 y2 : DataW H × List MemPlace), w.cell? (a.add (i * 3)) = some v0 ∧ w.cell? (a.add (i * 3 + 1)) = some v1 ∧ w.cell? (a.add (i * 3 + 2)) = some v2 ∧
    DataW.trod enc P w base spare held n f0.type [v0] = some y0 ∧ DataW.trod enc P w base spare held n f1.type [v1] = some y1 ∧ DataW.trod enc P w base spare held n f2.type [v2] = some y2 := by
 rcases open_slice ht h with h0 | ⟨a, len, cap, m, n, D, Pl, rfl, hb, hl, hm, hmm, -, hx⟩
 · exact .inl h0.1
 right
 have hlm : len ≤ m := by rw [hmm]; split <;> omega
 refine ⟨a, len, cap, n - 1, rfl, hl, hm, fun i hi => ?_⟩
 obtain ⟨cs', h1, h2⟩ := hx i (by omega)
 rw [ce] at h1
 obtain ⟨_, hlen, hcell⟩ := World.cells?_some h1
 obtain ⟨xs, k, hk, hxy, _, hxl, hf⟩ := DataW.trod_struct he h2
 have hk' : k = n - 1 := by omega
 subst hk'
 match xs, hxl, cs', hlen with
 | [y0, y1, y2], _, [v0, v1, v2], _ =>
  have g0 := hf 0 f0 rfl
  have g1 := hf 1 f1 rfl
  have g2 := hf 2 f2 rfl
  simp [o0, o1, o2, c0, c1, c2] at g0 g1 g2
  have e0 := hcell 0 (by omega)
  have e1 := hcell 1 (by omega)
  have e2 := hcell 2 (by omega)
  rw [add_add] at e0 e1 e2
  exact ⟨v0, v1, v2, y0, y1, y2, by simpa using e0, by simpa using e1, by simpa using e2, g0, g1, g2⟩
theorem Tryz.cellsPkt : Tryz.prog.cellsOf 52 = 3 := by kernel_rfl
set_option maxRecDepth 100000 in
theorem open_pkts {H : Type} {enc : TypeId × Value → H} {W : World} {base : Nat} {v : Value} {d : DataW H} {p : List MemPlace} (hv : Value.okWide Tryz.prog W .any base 43 v)
  (h : DataW.Trod enc Tryz.prog W 0 (fun _ => true) true 43 v d p) :
  ∃ a cap ps, v = .slice a ps.length cap ∧ LiesP W a ps ∧ ps.length ≤ cap ∧ cap ≤ maxLen ∧ (a = none → ps = [] ∧ cap = 0) := by
 obtain ⟨a0, len0, cap0, rfl⟩ := okWide_slice Tryz.underlying43 hv
 obtain ⟨fuel, hf⟩ := h
 rcases open_slice_three Tryz.underlying43 Tryz.underlying52 Tryz.cellsPkt rfl rfl rfl Tryz.cellsInt Tryz.cellsInt Tryz.cellsInt hf with hcs | ⟨x, l, c, n, hcs, hl, hm, hcell⟩
 ·
  simp [Value.cells] at hcs
  obtain ⟨rfl, rfl, rfl⟩ := hcs
  exact ⟨none, 0, [], rfl, .inl rfl, by simp, by simp [maxLen], fun _ => ⟨rfl, rfl⟩⟩
 ·
  simp [Value.cells] at hcs
  obtain ⟨rfl, rfl, rfl⟩ := hcs
  have each : ∀ i, i < len0 → ∃ q : Int × Int × Int, W.cell? (x.add (i * 3)) = some (.int .i64 q.1) ∧ W.cell? (x.add (i * 3 + 1)) = some (.int .i64 q.2.1) ∧ W.cell? (x.add (i * 3 + 2)) = some (.int .i64 q.2.2) := by
   intro i hi
   obtain ⟨v0, v1, v2, y0, y1, y2, h0, h1, h2, g0, g1, g2⟩ := hcell i hi
   obtain ⟨k0, e0, _, _⟩ := DataW.trod_int Tryz.underlying3 g0
   obtain ⟨k1, e1, _, _⟩ := DataW.trod_int Tryz.underlying3 g1
   obtain ⟨k2, e2, _, _⟩ := DataW.trod_int Tryz.underlying3 g2
   simp at e0 e1 e2
   subst e0 e1 e2
   exact ⟨(k0, k1, k2), h0, h1, h2⟩
  obtain ⟨q, hq⟩ := choose_lt each
  refine ⟨some x, cap0, (List.range len0).map fun i => ⟨(q i).1, (q i).2.1, (q i).2.2⟩, by simp, ?_, by simpa using hl, hm, fun h => by cases h⟩
  by_cases h0 : len0 = 0
  · subst h0; exact .inl (by simp)
  ·
   obtain ⟨b, off, spot⟩ := x
   have hc0 := (hq 0 (by omega)).1
   have hspot : spot = none := by simpa [Addr.add] using World.cell?_spot hc0
   subst hspot
   refine .inr ⟨b, off, rfl, by simpa [Addr.add] using cell_lt hc0, fun i p hi => ?_⟩
   have hil : i < len0 := by
    rcases Nat.lt_or_ge i len0 with h | h
    · exact h
    · simp [h] at hi
   simp [hil] at hi
   subst hi
   obtain ⟨h0, h1, h2⟩ := hq i hil
   rw [Addr.add_lit] at h0 h1 h2
   exact ⟨h0, by rw [Nat.add_assoc]; exact h1, by rw [Nat.add_assoc]; exact h2⟩
end Go.Proofs.YtibhkijaafdkoaaGreatDoor

namespace Go.Proofs.YtibhkijaafdkoaaGreatDoor
open Go.ChangeShapes Go.WideShapes Go.ChangeAt Go.RowKit Go.Deep
section
variable {H : Type} {enc : TypeId × Value → H} {W : World} {fuel : Nat} {cs : List Value} {x : DataW H × List MemPlace}
theorem Tryz.cellsLine2 : Tryz.prog.cellsOf 133 = 2 := by kernel_rfl
theorem Tryz.cellsLines : Tryz.prog.cellsOf 38 = 1 := by kernel_rfl
theorem Tryz.cellsInts : Tryz.prog.cellsOf 23 = 1 := by kernel_rfl
theorem Tryz.cellsStr1 : Tryz.prog.cellsOf 9 = 1 := by kernel_rfl
theorem Tryz.cellsRGate : Tryz.prog.cellsOf 25 = 4 := by kernel_rfl
theorem Tryz.cellsCurves : Tryz.prog.cellsOf 22 = 1 := by kernel_rfl
set_option maxRecDepth 100000 in
theorem trod_lines (h : DataW.trod enc Tryz.prog W 0 (fun _ => true) true fuel 38 cs = some x) :
  ∃ a cap ls, cs = [.slice a ls.length cap] ∧ Lies W a ls ∧ ls.length ≤ cap ∧ cap ≤ maxLen ∧ (a = none → ls = [] ∧ cap = 0) := by
 rcases open_slice_pairs Tryz.underlying38 Tryz.underlying133 Tryz.cellsLine2 rfl rfl Tryz.cellsInt Tryz.cellsInt h with ⟨rfl, _⟩ | ⟨x, len0, cap0, m, n, V0, V1, D0, D1, P0, P1, rfl, _, hl, hm, hmm, _, hcell⟩
 · exact ⟨none, 0, [], rfl, .inl rfl, by simp, by simp [maxLen], fun _ => ⟨rfl, rfl⟩⟩
 ·
  have hm' : m = cap0 := by simpa using hmm
  refine ⟨some x, cap0, (List.range len0).map fun i => (intOf (V0 i), intOf (V1 i)), by simp, ?_, by simpa using hl, hm, fun h => by cases h⟩
  by_cases h0 : len0 = 0
  · subst h0; exact .inl (by simp)
  ·
   have hint : ∀ i, i < len0 → V0 i = .int .i64 (intOf (V0 i)) ∧ V1 i = .int .i64 (intOf (V1 i)) := by
    intro i hi
    obtain ⟨_, _, h2, h3⟩ := hcell i (by omega)
    obtain ⟨k0, e0, _, _⟩ := DataW.trod_int Tryz.underlying3 h2
    obtain ⟨k1, e1, _, _⟩ := DataW.trod_int Tryz.underlying3 h3
    simp at e0 e1
    rw [e0, e1]
    exact ⟨rfl, rfl⟩
   obtain ⟨b, off, spot⟩ := x
   have hc0 := (hcell 0 (by omega)).1
   have hspot : spot = none := by simpa [Addr.add] using World.cell?_spot hc0
   subst hspot
   refine .inr ⟨b, off, rfl, by simpa [Addr.add] using cell_lt hc0, fun i x y hi => ?_⟩
   have hil : i < len0 := by
    rcases Nat.lt_or_ge i len0 with h | h
    · exact h
    · simp [h] at hi
   simp [hil] at hi
   obtain ⟨h0, h1, _, _⟩ := hcell i (by omega)
   have := hint i hil
   rw [this.1, hi.1] at h0
   rw [this.2, hi.2] at h1
   rw [Addr.add_lit] at h0 h1
   exact ⟨h0, by rw [Nat.add_assoc]; exact h1⟩
set_option maxRecDepth 100000 in
theorem trod_nums (h : DataW.trod enc Tryz.prog W 0 (fun _ => true) true fuel 23 cs = some x) :
  ∃ a cap ns, cs = [.slice a ns.length cap] ∧ LiesN W a ns ∧ ns.length ≤ cap ∧ cap ≤ maxLen ∧ (a = none → ns = [] ∧ cap = 0) := by
 rcases open_ints Tryz.underlying23 Tryz.underlying3 Tryz.cellsInt h with ⟨rfl, _⟩ | ⟨x, len0, cap0, zs, rfl, _, hl, hm, hz, _, hcell, hwz⟩
 · exact ⟨none, 0, [], rfl, .inl rfl, by simp, by simp [maxLen], fun _ => ⟨rfl, rfl⟩⟩
 ·
  have hz' : zs.length = cap0 := by simpa using hz
  refine ⟨some x, cap0, zs.take len0, by rw [List.length_take, hz', Nat.min_eq_left hl], ?_, by rw [List.length_take]; omega, hm, fun e => by cases e⟩
  by_cases h0 : len0 = 0
  · subst h0; exact .inl (by simp)
  ·
   obtain ⟨b, off, spot⟩ := x
   have hc0 := hcell 0 (by omega)
   have hspot : spot = none := by simpa [Addr.add] using World.cell?_spot hc0
   subst hspot
   refine .inr ⟨b, off, rfl, by simpa [Addr.add] using cell_lt hc0, fun i y hi => ?_⟩
   rw [List.getElem?_take] at hi
   split at hi
   ·
    next hil =>
    have := hcell i (by omega)
    rw [Addr.add_lit, List.getD, hi] at this
    exact this
   · cases hi
set_option maxRecDepth 100000 in
theorem trod_curves (h : DataW.trod enc Tryz.prog W 0 (fun _ => true) true fuel 22 cs = some x) :
  ∃ a cap css, cs = [.slice a css.length cap] ∧ LiesC W a css ∧ css.length ≤ cap ∧ cap ≤ maxLen := by
 rcases open_slice Tryz.underlying22 h with ⟨rfl, _⟩ | ⟨ad, len, cap, m, n, D, Pl, rfl, hb, hl, hm, hmm, -, hx⟩
 · exact ⟨none, 0, [], rfl, .inl rfl, by simp, by simp [maxLen]⟩
 ·
  have hlm : len ≤ m := by rw [hmm]; split <;> omega
  have each : ∀ i, i < len → ∃ q : Option Addr × Nat × List (Int × Int), W.cell? (ad.add i) = some (.slice q.1 q.2.2.length q.2.1) ∧ Lies W q.1 q.2.2 ∧ q.2.2.length ≤ q.2.1 ∧ q.2.1 ≤ maxLen ∧ (q.1 = none → q.2.2 = [] ∧ q.2.1 = 0) := by
   intro i hi
   obtain ⟨cs', h1, h2⟩ := hx i (by omega)
   rw [Tryz.cellsLines] at h1
   obtain ⟨a', cap', ls, rfl, h3, h4⟩ := trod_lines h2
   obtain ⟨_, _, hcell⟩ := World.cells?_some h1
   have hc := hcell 0 (by omega)
   rw [add_add, Nat.mul_one, Nat.add_zero] at hc
   exact ⟨(a', cap', ls), by simpa using hc, h3, h4⟩
  obtain ⟨q, hq⟩ : ∃ q : Nat → Option Addr × Nat × List (Int × Int), ∀ i, i < len → W.cell? (ad.add i) = some (.slice (q i).1 (q i).2.2.length (q i).2.1) ∧ Lies W (q i).1 (q i).2.2 ∧ (q i).2.2.length ≤ (q i).2.1 ∧ (q i).2.1 ≤ maxLen ∧ ((q i).1 = none → (q i).2.2 = [] ∧ (q i).2.1 = 0) :=
   ⟨fun i => if h : i < len then Classical.choose (each i h) else (none, 0, []), fun i hi => by simp only [dif_pos hi]; exact Classical.choose_spec (each i hi)⟩
  refine ⟨some ad, cap, (List.range len).map fun i => (q i).2.2, by simp, ?_, by simpa using hl, hm⟩
  by_cases h0 : len = 0
  · subst h0; exact .inl (by simp)
  ·
   obtain ⟨b, off, spot⟩ := ad
   have hc0 := (hq 0 (by omega)).1
   have hspot : spot = none := by simpa [Addr.add] using World.cell?_spot hc0
   subst hspot
   refine .inr ⟨b, off, rfl, by simpa [Addr.add] using cell_lt hc0, fun i ls hi => ?_⟩
   have hil : i < len := by
    rcases Nat.lt_or_ge i len with h | h
    · exact h
    · simp [h] at hi
   simp [hil] at hi
   obtain ⟨g1, g2, g3, g4, g5⟩ := hq i hil
   rw [hi] at g1 g2 g3 g5
   rw [Addr.add_lit] at g1
   exact ⟨(q i).1, (q i).2.1, g1, g2, g3, g4, g5⟩
set_option maxRecDepth 100000 in
theorem open_rgate {base : Nat} {v : Value} {d : DataW H} {p : List MemPlace} (hv : Value.okWide Tryz.prog W .any base 25 v)
  (h : DataW.Trod enc Tryz.prog W 0 (fun _ => true) true 25 v d p) :
  ∃ ca ccap cs kb per na ncap ns, v = .agg #[.slice ca (cs : List (List (Int × Int))).length ccap, .string kb, .int .i64 per, .slice na (ns : List Int).length ncap] ∧ GateRaw W ca ccap cs na ncap ns := by
 obtain ⟨vs, rfl, hsz⟩ := okWide_struct Tryz.underlying25 hv
 obtain ⟨fuel, hf⟩ := h
 obtain ⟨xs, k, -, -, -, hxl, hfl⟩ := DataW.trod_struct Tryz.underlying25 hf
 rw [Tryz.cellsRGate] at hsz
 obtain ⟨l⟩ := vs
 match l, hsz, xs, hxl with
 | [v0, v1, v2, v3], _, [x0, x1, x2, x3], _ =>
  have g0 := hfl 0 _ rfl
  have g1 := hfl 1 _ rfl
  have g2 := hfl 2 _ rfl
  have g3 := hfl 3 _ rfl
  simp [Value.cells, Tryz.cellsCurves, Tryz.cellsStr1, Tryz.cellsInt, Tryz.cellsInts] at g0 g1 g2 g3
  obtain ⟨ca, ccap, css, e0, h1, h2, h3⟩ := trod_curves g0
  obtain ⟨kb, e1, -, -⟩ := DataW.trod_string Tryz.underlying9 g1
  obtain ⟨per, e2, -, -⟩ := DataW.trod_int Tryz.underlying3 g2
  obtain ⟨na, ncap, ns, e3, h4, h5, h6, h7⟩ := trod_nums g3
  simp at e0 e1 e2 e3
  subst e0 e1 e2 e3
  exact ⟨ca, ccap, css, kb, per, na, ncap, ns, rfl, h1, h2, h3, h4, h5, h6, h7⟩
end
end Go.Proofs.YtibhkijaafdkoaaGreatDoor

namespace Go.Proofs.YtibhkijaafdkoaaGreatDoor
open Go.ChangeShapes Go.WideShapes Go.ChangeAt Go.RowKit
theorem Tryz.oneRow : ((List.range 303).filter fun t => Tryz.prog.rowNamed t [101, 114, 114, 111, 114]) = [29] := by kernel_rfl
theorem Tryz.sizeTypes : Tryz.prog.types.size = 303 := by kernel_rfl
theorem Tryz.handleErr : typeHandle Tryz.prog 29 = .pointer (some ⟨10, 29, none⟩) := by kernel_rfl
theorem Tryz.gType : Tryz.prog.globalNamed "errors.errorType" = some 9 := by kernel_rfl
def nth9 (a1 a2 a3 a4 a6 a7 a8 : Addr) : Nat → Addr
 | 1 => a1 | 2 => a2 | 3 => a3 | 4 => a4 | 6 => a6 | 7 => a7 | _ => a8
theorem errs9_of_laid {W : World} (h : laidMetH Tryz.prog Rows.gateKeepsRow.laid W) : ∃ ad, Errs9 W ad := by
 have h' : laidMet Tryz.prog Rows.gateKeepsRow.laid.tail W ∧ handlesMet Tryz.prog [("errors.errorType", Rows.laid_errors_errorType)] W := h
 obtain ⟨h1, h2⟩ := h'
 have hty : W.cell? ⟨9, 0, none⟩ = some (.iface 207 (.agg #[.pointer (some ⟨10, 29, none⟩)])) := by
  obtain ⟨name, u, ty, e1, e2, e3, e4, e5⟩ := h2 _ (List.mem_singleton.2 rfl)
  have en : name = [101, 114, 114, 111, 114] := (Option.some.inj e1).symm
  subst en
  obtain rfl : u = 207 := Option.some.inj (e2.symm.trans (by kernel_rfl))
  have hm : ty ∈ (List.range 303).filter fun t => Tryz.prog.rowNamed t [101, 114, 114, 111, 114] := List.mem_filter.2 ⟨List.mem_range.2 (by rw [← Tryz.sizeTypes]; exact e3), e4⟩
  rw [Tryz.oneRow] at hm
  obtain rfl := List.mem_singleton.1 hm
  rw [Tryz.handleErr] at e5
  simpa using World.var?_cell Tryz.gType e5 0
 obtain ⟨a1, _, v1, _⟩ := sentinel_of_laid (g := 3) h1 rfl (by kernel_rfl) (by kernel_rfl)
 obtain ⟨a2, _, v2, _⟩ := sentinel_of_laid (g := 4) h1.tail rfl (by kernel_rfl) (by kernel_rfl)
 obtain ⟨a3, _, v3, _⟩ := sentinel_of_laid (g := 0) h1.tail.tail rfl (by kernel_rfl) (by kernel_rfl)
 obtain ⟨a4, _, v4, _⟩ := sentinel_of_laid (g := 5) h1.tail.tail.tail rfl (by kernel_rfl) (by kernel_rfl)
 obtain ⟨a6, _, v6, _⟩ := sentinel_of_laid (g := 7) h1.tail.tail.tail.tail rfl (by kernel_rfl) (by kernel_rfl)
 obtain ⟨a7, _, v7, _⟩ := sentinel_of_laid (g := 8) h1.tail.tail.tail.tail.tail rfl (by kernel_rfl) (by kernel_rfl)
 obtain ⟨a8, _, v8, _⟩ := sentinel_of_laid (g := 1) h1.tail.tail.tail.tail.tail.tail rfl (by kernel_rfl) (by kernel_rfl)
 exact ⟨nth9 a1 a2 a3 a4 a6 a7 a8, hty, v1, v2, v3, v4, v6, v7, v8⟩
theorem door_met9 (os : Os) (args : Array Value) : laidMetH Tryz.prog Rows.gateKeepsRow.laid ((World.doorLaid Tryz.prog 187 os).forCall (fun _ _ => 0) ⟨#[], args, []⟩).memory :=
 laidMetH_of_parts3 (fuel := 8) (laidMet_of_run' 8 (by kernel_rfl) (by kernel_rfl)) (by kernel_rfl) (by kernel_rfl)
end Go.Proofs.YtibhkijaafdkoaaGreatDoor
