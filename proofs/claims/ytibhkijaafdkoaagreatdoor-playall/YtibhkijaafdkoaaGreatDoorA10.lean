/- Own facts, put together: no statement of its own. -/
import Derived.BigRegion
import Derived.Deep.RegionWith
import Derived.Test.YtibhkijaafdkoaaGreatDoorA08
import Derived.Test.YtibhkijaafdkoaaGreatDoorA09
import Derived.Test.YtibhkijaafdkoaaGreatDoorA04
namespace Go.Proofs.YtibhkijaafdkoaaGreatDoor
open Go.RowKit
theorem told_tame {ps : List Pk} {l : List Sn} (ho : OkPks ps) (ht : tameAll l) (f : Int) : ∀ k, 0 ≤ (told ps l f k).bytes ∧ (told ps l f k).bytes ≤ 1500 * k ∧ -2251799813685248 ≤ (told ps l f k).most ∧ (told ps l f k).most ≤ 2251799813685248 ∧ -2251799813685248 ≤ (told ps l f k).last ∧ (told ps l f k).last ≤ 2251799813685248
 | 0 => by simp [told]
 | k + 1 => by
  have h := told_tame ho ht f k
  cases hx : l[k]? with
  | none => simp only [told, hx]; omega
  | some x =>
   rw [told_succ hx]
   have h1 := tame_true (ht k x hx)
   unfold toldStep
   cases hq : ps[x.num.toNat]? with
   | none => simp only; omega
   | some q =>
    have h2 := okPk_true (ho.each _ q hq).1
    simp only
    split
    ·
     unfold tlAdd
     split
     · simp only; omega
     · simp only; omega
    · omega
def TalAt (W : World) (g : Nat) (ps : List Pk) (l : List Sn) (k : Nat) : Prop := ∀ f : Nat, f < 8 → TlIn W g (f * 3) (told ps l f k)
theorem TlIn.later {W W' : World} {g off : Nat} {t : Tl} (h : TlIn W g off t) (hb : Below W.heap.size W W') : TlIn W' g off t :=
 have l := cell_lt h.c0
 ⟨cell_later hb h.c0, cell_later hb h.c1, cell_later hb h.c2, by rw [hb.frozen (p := ⟨g, off, none⟩) l]; exact h.f0, by rw [hb.frozen (p := ⟨g, off + 1, none⟩) l]; exact h.f1, by rw [hb.frozen (p := ⟨g, off + 2, none⟩) l]; exact h.f2⟩
theorem TalAt.later {W W' : World} {g : Nat} {ps : List Pk} {l : List Sn} {k : Nat} (h : TalAt W g ps l k) (hb : Below W.heap.size W W') : TalAt W' g ps l k := fun f hf => (h f hf).later hb
theorem talAt_new (w : World) (T : TypeId) (ps : List Pk) (l : List Sn) : TalAt (w.alloc (.cells #[.int .i64 0, .int .i64 0, .int .i64 0, .int .i64 0, .int .i64 0, .int .i64 0, .int .i64 0, .int .i64 0, .int .i64 0, .int .i64 0, .int .i64 0, .int .i64 0, .int .i64 0, .int .i64 0, .int .i64 0, .int .i64 0, .int .i64 0, .int .i64 0, .int .i64 0, .int .i64 0, .int .i64 0, .int .i64 0, .int .i64 0, .int .i64 0] T)) w.heap.size ps l 0 := fun f hf => by
 rcases (show f = 0 ∨ f = 1 ∨ f = 2 ∨ f = 3 ∨ f = 4 ∨ f = 5 ∨ f = 6 ∨ f = 7 by omega) with rfl | rfl | rfl | rfl | rfl | rfl | rfl | rfl
 all_goals exact ⟨by rw [World.cell?_alloc_at _ _ _ _ rfl]; rfl, by rw [World.cell?_alloc_at _ _ _ _ rfl]; rfl, by rw [World.cell?_alloc_at _ _ _ _ rfl]; rfl, World.frozen?_alloc_new w _ _ _, World.frozen?_alloc_new w _ _ _, World.frozen?_alloc_new w _ _ _⟩
theorem TalAt.step {W W' : World} {g : Nat} {ps : List Pk} {l : List Sn} {k j fl : Nat} {x : Sn} {q : Pk} (h : TalAt W g ps l k) (hx : l[k]? = some x) (hj : x.num = j) (hq : ps[j]? = some q) (hf : q.flow = fl) (hf8 : fl < 8)
  (h1 : TlIn W' g (fl * 3) (tlAdd (told ps l fl k) q.size (x.fin - q.tick) x.fin)) (h2 : TlOnly W W' g (fl * 3)) : TalAt W' g ps l (k + 1) := fun f hf' => by
 rw [told_succ hx]
 by_cases e : f = fl
 ·
  subst e
  rw [toldStep_in hj hq hf]
  exact h1
 ·
  rw [toldStep_out hj hq (by rw [hf]; omega)]
  have ho : ∀ i, i < 3 → W'.cell? ⟨g, f * 3 + i, none⟩ = W.cell? ⟨g, f * 3 + i, none⟩ := fun i hi => h2.other _ fun i' hi' e' => by injection e' with _ e2; omega
  have hk := h f hf'
  exact ⟨by rw [show f * 3 = f * 3 + 0 from rfl, ho 0 (by omega)]; exact hk.c0, by rw [ho 1 (by omega)]; exact hk.c1, by rw [ho 2 (by omega)]; exact hk.c2, by rw [h2.frozen]; exact hk.f0, by rw [h2.frozen]; exact hk.f1, by rw [h2.frozen]; exact hk.f2⟩
set_option maxRecDepth 100000 in
set_option maxHeartbeats 4000000 in
theorem playTallies_good (pa : Option Addr) (pcap : Nat) (ps : List Pk) (la : Option Addr) (lcap : Nat) (l : List Sn) (w : World) (ad : Nat → Addr) (he : Errs9 w ad) (hp : LiesP w pa ps) (ho : OkPks ps) (hl : LiesS w la l) (hn : l.length ≤ 300) (ht : tameAll l) (hnm : ∀ (i : Nat) y, l[i]? = some y → named ps.length y = true) :
  Calls Tryz.prog 33 #[.slice pa ps.length pcap, .slice la l.length lcap] w fun e w' => ∃ g, e = .returned (.tuple #[.slice (some ⟨g, 0, none⟩) 8 8, .nilIface]) ∧ TalAt w' g ps l l.length ∧ Below w.heap.size w w' := by
 have HCk : Hid (Calls Tryz.prog 49 #[.slice pa ps.length pcap] w fun e w' => e = .returned .nilIface ∧ Below w.heap.size w w') := pcheck_ok pa pcap ps w hp ho
 have HDl : Hid (∀ W, Below w.heap.size w W → Calls Tryz.prog 24 #[.slice pa ps.length pcap, .slice la l.length lcap] W fun e w' => ∃ D, e = .returned (.tuple #[.slice (some ⟨D, 0, none⟩) l.length l.length, .nilIface]) ∧ DelAt w' D l.length ps l l.length ∧ Below W.heap.size W w') := fun W hb => by
  refine (delays_any pa pcap ps la lcap l W ad (he.below hb).c3 (hp.below hb) (hl.below hb) hn ho.few ht (fun i p hi => by have := okPk_true (ho.each i p hi).1; omega)).mono ?_
  rintro e w' ⟨hb', ⟨D, rfl, hD, -⟩ | ⟨j, x, F, hx, -, hno, -⟩⟩
  · exact ⟨D, rfl, hD, hb'⟩
  · rw [hnm j x hx] at hno; cases hno
 have HLs : Hid (LiesS w la l ∧ tameAll l ∧ ∀ (i : Nat) y, l[i]? = some y → named ps.length y = true) := ⟨hl, ht, hnm⟩
 have HPs : Hid (LiesP w pa ps ∧ OkPks ps) := ⟨hp, ho⟩
 have HTm : Hid (∀ (f : Int) k, 0 ≤ (told ps l f k).bytes ∧ (told ps l f k).bytes ≤ 1500 * k) := fun f k => ⟨(told_tame ho ht f k).1, (told_tame ho ht f k).2.1⟩
 obtain ⟨n, hnn⟩ : ∃ n, l.length = n := ⟨_, rfl⟩
 obtain ⟨m, hmm⟩ : ∃ m, ps.length = m := ⟨_, rfl⟩
 have HN : Hid (l.length = n ∧ ps.length = m) := ⟨hnn, hmm⟩
 have hm : m ≤ 300 := by rw [← hmm]; exact ho.few
 rw [hnn] at hn HDl ⊢
 rw [hmm] at HCk HDl HLs ⊢
 clear he hp ho hl ht hnm hnn hmm
 go_enter Tryz.func33, Tryz.ntmps33
 go_wp2_with fail
 refine HCk.out.mono ?_
 rintro e w1 ⟨rfl, hb1⟩
 have HB1 : Hid (Below w.heap.size w w1) := hb1
 clear hb1
 go_wp2_with fail
 refine (HDl.out _ HB1.out).mono ?_
 rintro e w2 ⟨D, rfl, hD, hb2⟩
 have HB2 : Hid (Below w.heap.size w w2 ∧ DelAt w2 D n ps l n) := ⟨HB1.out.trans (hb2.mono HB1.out.size), hD⟩
 clear hb2 hD
 have HG0 : Hid (TalAt (w2.alloc (.cells #[.int .i64 0, .int .i64 0, .int .i64 0, .int .i64 0, .int .i64 0, .int .i64 0, .int .i64 0, .int .i64 0, .int .i64 0, .int .i64 0, .int .i64 0, .int .i64 0, .int .i64 0, .int .i64 0, .int .i64 0, .int .i64 0, .int .i64 0, .int .i64 0, .int .i64 0, .int .i64 0, .int .i64 0, .int .i64 0, .int .i64 0, .int .i64 0] 126)) w2.heap.size ps l 0 ∧ DelAt (w2.alloc (.cells #[.int .i64 0, .int .i64 0, .int .i64 0, .int .i64 0, .int .i64 0, .int .i64 0, .int .i64 0, .int .i64 0, .int .i64 0, .int .i64 0, .int .i64 0, .int .i64 0, .int .i64 0, .int .i64 0, .int .i64 0, .int .i64 0, .int .i64 0, .int .i64 0, .int .i64 0, .int .i64 0, .int .i64 0, .int .i64 0, .int .i64 0, .int .i64 0] 126)) D n ps l n ∧ Below w.heap.size w (w2.alloc (.cells #[.int .i64 0, .int .i64 0, .int .i64 0, .int .i64 0, .int .i64 0, .int .i64 0, .int .i64 0, .int .i64 0, .int .i64 0, .int .i64 0, .int .i64 0, .int .i64 0, .int .i64 0, .int .i64 0, .int .i64 0, .int .i64 0, .int .i64 0, .int .i64 0, .int .i64 0, .int .i64 0, .int .i64 0, .int .i64 0, .int .i64 0, .int .i64 0] 126)) ∧ w2.heap.size < (w2.alloc (.cells #[.int .i64 0, .int .i64 0, .int .i64 0, .int .i64 0, .int .i64 0, .int .i64 0, .int .i64 0, .int .i64 0, .int .i64 0, .int .i64 0, .int .i64 0, .int .i64 0, .int .i64 0, .int .i64 0, .int .i64 0, .int .i64 0, .int .i64 0, .int .i64 0, .int .i64 0, .int .i64 0, .int .i64 0, .int .i64 0, .int .i64 0, .int .i64 0] 126)).heap.size ∧ D < w2.heap.size) := by
  have hb := (Below.refl w2.heap.size w2).alloc (Nat.le_refl _) (.cells #[.int .i64 0, .int .i64 0, .int .i64 0, .int .i64 0, .int .i64 0, .int .i64 0, .int .i64 0, .int .i64 0, .int .i64 0, .int .i64 0, .int .i64 0, .int .i64 0, .int .i64 0, .int .i64 0, .int .i64 0, .int .i64 0, .int .i64 0, .int .i64 0, .int .i64 0, .int .i64 0, .int .i64 0, .int .i64 0, .int .i64 0, .int .i64 0] 126)
  exact ⟨talAt_new w2 _ ps l, HB2.out.2.later hb, HB2.out.1.trans (hb.mono HB2.out.1.size), by simp, HB2.out.2.lt⟩
 have HG1 : Hid (w.heap.size ≤ w2.heap.size) := HB2.out.1.size
 go_wp2_with fail
 obtain ⟨V, hV⟩ : ∃ V, w2.alloc (.cells #[.int .i64 0, .int .i64 0, .int .i64 0, .int .i64 0, .int .i64 0, .int .i64 0, .int .i64 0, .int .i64 0, .int .i64 0, .int .i64 0, .int .i64 0, .int .i64 0, .int .i64 0, .int .i64 0, .int .i64 0, .int .i64 0, .int .i64 0, .int .i64 0, .int .i64 0, .int .i64 0, .int .i64 0, .int .i64 0, .int .i64 0, .int .i64 0] 126) = V := ⟨_, rfl⟩
 obtain ⟨g, hg⟩ : ∃ g, w2.heap.size = g := ⟨_, rfl⟩
 rw [hV, hg] at HG0
 rw [hg] at HG1
 rw [hV, hg]
 clear hV hg HB1 HB2
 go_loopw [29] (fun v wr => ∃ k : Nat, k ≤ n ∧ v = .int .i64 k ∧ TalAt wr g ps l k ∧ But (fun b => b = g) V wr) (fun v _ => n - (intOf v).toNat)
 case atStart => exact ⟨0, Nat.zero_le _, rfl, HG0.out.1, But.refl _ _⟩
 case round =>
  obtain ⟨k, hkn, rfl, hta, hbu⟩ := hrel
  have HR : Hid (TalAt wr g ps l k ∧ But (fun b => b = g) V wr ∧ Below w.heap.size w wr) := ⟨hta, hbu, HG0.out.2.2.1.trans (hbu.below HG0.out.2.2.1.size (fun b e => by rw [e]; exact HG1.out))⟩
  clear hta hbu
  by_cases hlt : k < n
  ·
   obtain ⟨⟨nm, bg, fn⟩, hx, -⟩ := get_some l k (by rw [HN.out.1]; exact hlt)
   have hnm : 0 ≤ nm ∧ nm < (m : Int) := of_decide_eq_true (HLs.out.2.2 k _ hx)
   obtain ⟨j, rfl⟩ : ∃ j : Nat, nm = j := ⟨nm.toNat, by omega⟩
   have hjm : j < m := by omega
   obtain ⟨⟨x, y, z⟩, hq, -⟩ := get_some ps j (by rw [HN.out.2]; exact hjm)
   have htm := tame_true (HLs.out.2.1 k _ hx)
   have hok := okPk_true (HPs.out.2.each j _ hq).1
   simp only at htm hok
   obtain ⟨-, -, s1, s2⟩ := htm
   obtain ⟨x1, x2, y1, y2, z1, z2⟩ := hok
   obtain ⟨fl, rfl⟩ : ∃ fl : Nat, x = fl := ⟨x.toNat, by omega⟩
   have hf8 : (fl : Int) < 8 := by omega
   obtain ⟨lb, lo, rfl, hlb, hlc⟩ := HLs.out.1.place (by rw [HN.out.1]; omega)
   obtain ⟨pb, po, rfl, -, hpc⟩ := HPs.out.1.place (by rw [HN.out.2]; omega)
   have l0 := cell_later HR.out.2.2 (hlc k _ hx).1
   have l1 := cell_later HR.out.2.2 (hlc k _ hx).2.1
   have l2 := cell_later HR.out.2.2 (hlc k _ hx).2.2
   have hb1 : Below wr.heap.size wr (wr.alloc (.cells #[.int .i64 (j : Int), .int .i64 bg, .int .i64 fn] 78)) := (Below.refl _ _).alloc (Nat.le_refl _) _
   have p0 := cell_later hb1 (cell_later HR.out.2.2 (hpc j _ hq).1)
   have p1 := cell_later hb1 (cell_later HR.out.2.2 (hpc j _ hq).2.1)
   have p2 := cell_later hb1 (cell_later HR.out.2.2 (hpc j _ hq).2.2)
   simp only at l0 l1 l2 p0 p1 p2
   have HD1 : Hid (DelAt wr D n ps l n) := by
    have h := HG0.out.2.1
    have hD := HG0.out.2.2.2.2
    have e : ∀ i, wr.cell? ⟨D, i, none⟩ = V.cell? ⟨D, i, none⟩ := fun i => HR.out.2.1.cell (p := ⟨D, i, none⟩) h.lt (by simp only; omega)
    exact ⟨fun i x hi hx => by rw [e]; exact h.cell i x hi hx, fun i hi => by rw [e]; exact h.room i hi, fun i => by rw [HR.out.2.1.frozen (p := ⟨D, i, none⟩) h.lt (by simp only; omega)]; exact h.frozen i, Nat.lt_of_lt_of_le h.lt HR.out.2.1.size⟩
   have hde : delayOf ps ⟨j, bg, fn⟩ = fn - z := by simp only [delayOf, Int.toNat_natCast, tickOf_get hq]
   have HX : Hid (l[k]? = some ⟨(j : Int), bg, fn⟩ ∧ ps[j]? = some ⟨(fl : Int), y, z⟩) := ⟨hx, hq⟩
   have hb2 : Below wr.heap.size wr ((wr.alloc (.cells #[.int .i64 (j : Int), .int .i64 bg, .int .i64 fn] 78)).alloc (.cells #[.int .i64 (fl : Int), .int .i64 y, .int .i64 z] 52)) := hb1.alloc hb1.size _
   have r0 : ((wr.alloc (.cells #[.int .i64 (j : Int), .int .i64 bg, .int .i64 fn] 78)).alloc (.cells #[.int .i64 (fl : Int), .int .i64 y, .int .i64 z] 52)).cell? ⟨wr.heap.size + 1, 0, none⟩ = some (.int .i64 (fl : Int)) := by simp
   have r1 : ((wr.alloc (.cells #[.int .i64 (j : Int), .int .i64 bg, .int .i64 fn] 78)).alloc (.cells #[.int .i64 (fl : Int), .int .i64 y, .int .i64 z] 52)).cell? ⟨wr.heap.size + 1, 1, none⟩ = some (.int .i64 y) := by simp
   have r2 : ((wr.alloc (.cells #[.int .i64 (j : Int), .int .i64 bg, .int .i64 fn] 78)).alloc (.cells #[.int .i64 (fl : Int), .int .i64 y, .int .i64 z] 52)).cell? ⟨wr.heap.size, 2, none⟩ = some (.int .i64 fn) := cell_later ((Below.refl _ _).alloc (Nat.le_refl _) _) (by simp)
   have r3 := cell_later hb2 (HD1.out.cell k _ hlt hx)
   rw [hde] at r3
   have HV : Hid (TalAt ((wr.alloc (.cells #[.int .i64 (j : Int), .int .i64 bg, .int .i64 fn] 78)).alloc (.cells #[.int .i64 (fl : Int), .int .i64 y, .int .i64 z] 52)) g ps l k ∧ But (fun b => b = g) V ((wr.alloc (.cells #[.int .i64 (j : Int), .int .i64 bg, .int .i64 fn] 78)).alloc (.cells #[.int .i64 (fl : Int), .int .i64 y, .int .i64 z] 52))) := ⟨HR.out.1.later hb2, HR.out.2.1.trans (.ofBelow hb2)⟩
   clear hlc hpc hx hq hde hb1 hb2 hlb hnm
   go_wp2_with fail
   obtain ⟨X, hX⟩ : ∃ X, (wr.alloc (.cells #[.int .i64 (j : Int), .int .i64 bg, .int .i64 fn] 78)).alloc (.cells #[.int .i64 (fl : Int), .int .i64 y, .int .i64 z] 52) = X := ⟨_, rfl⟩
   rw [hX] at r0 r1 r2 r3 HV
   rw [hX]
   clear hX p0 p1 p2 l0 l1 l2
   have HAdd : Hid (∀ W, Below X.heap.size X W → Calls Tryz.prog 65 #[.pointer (some ⟨g, fl * 3, none⟩), .int .i64 y, .int .i64 (fn - z), .int .i64 fn] W fun e w' => e = .returned (.tuple #[]) ∧ TalAt w' g ps l (k + 1) ∧ But (fun b => b = g) V w') := fun W hW => by
    have ht := HTm.out (fl : Int) k
    refine (tallyAdd_is g (fl * 3) (told ps l fl k) y (fn - z) fn W ((HV.out.1 fl (by omega)).later hW) ⟨by omega, by omega⟩ ⟨by omega, y2⟩).mono ?_
    rintro e w' ⟨rfl, h1, h2⟩
    exact ⟨rfl, (HV.out.1.later hW).step HX.out.1 rfl HX.out.2 rfl (by omega) h1 h2, (HV.out.2.trans (.ofBelow hW)).trans h2.but⟩
   go_region_with (first
    | (go_simp; go_at_call 65; go_must (refine (HAdd.out _ ?_).mono ?_; exact (Below.refl _ _).drew; rintro e w3 ⟨rfl, h3, b3⟩; have H3 : Hid (TalAt w3 g ps l (k + 1) ∧ But (fun b => b = g) V w3) := ⟨h3, b3⟩; clear h3 b3))
    | fail)
   all_goals
    go_wp2_with fail
    go_roundw
    case rel => exact ⟨k + 1, by omega, by go_num, H3.out.1, H3.out.2⟩
    case measure => simp [intOf]; omega
  ·
   obtain rfl : k = n := by omega
   go_wp2_with fail
   go_ret2
   exact ⟨g, rfl, HR.out.1, HR.out.2.2⟩
end Go.Proofs.YtibhkijaafdkoaaGreatDoor

namespace Go.Proofs.YtibhkijaafdkoaaGreatDoor
section
variable {per : Int} {ps : List Pk} {l : List Sn}
theorem tick_most (ho : OkPks ps) (j : Nat) : 0 ≤ tickOf ps j ∧ tickOf ps j ≤ 1099511627776 := by
 unfold tickOf
 cases e : ps[j]? with
 | none => simp only; omega
 | some p =>
  have := okPk_true (ho.each _ p e).1
  simp only
  omega
theorem Conv.range (ho : OkPks ps) (hper : 1 ≤ per ∧ per ≤ 1000) (h : Conv per ps l) : ∀ (k : Nat) x, l[k]? = some x → 0 ≤ x.beg ∧ x.beg ≤ x.fin ∧ x.fin ≤ 1099511627776 + 1500000 * ((k : Int) + 1)
 | k, x, hx => by
  obtain ⟨t, b, h1, h2, -, e⟩ := h k x hx
  have hl : lastFin (l.take k) ≤ 1099511627776 + 1500000 * (k : Int) ∧ 0 ≤ lastFin (l.take k) := by
   cases k with
   | zero => exact ⟨by rw [List.take_zero, lastFin_nil]; omega, by rw [List.take_zero, lastFin_nil]; omega⟩
   | succ k =>
    have hkl : k < l.length := by have := lt_of_get hx; omega
    have e2 : l[k]? = some l[k] := List.getElem?_eq_getElem hkl
    have := Conv.range ho hper h k l[k] e2
    rw [lastFin_take e2]
    omega
  have ht : 0 ≤ t ∧ t ≤ 1099511627776 + 1500000 * (k : Int) := by
   rcases h1 with ⟨rfl, -⟩ | ⟨-, j, -, rfl, -⟩
   · omega
   · have := tick_most ho j; omega
  have hb : 0 ≤ per * bytesOf ps b ∧ per * bytesOf ps b ≤ 1500000 := by
   have e2 : ps[b]? = some (ps[b]'h2.1) := List.getElem?_eq_getElem h2.1
   have := okPk_true (ho.each _ _ e2).1
   rw [bytesOf_get e2]
   have a1 : 0 ≤ per * (ps[b]'h2.1).size := Int.mul_nonneg (by omega) (by omega)
   have a2 : per * (ps[b]'h2.1).size ≤ 1000 * 1500 := Int.mul_le_mul (by omega) (by omega) (by omega) (by omega)
   omega
  rw [e]
  simp only
  omega
end
end Go.Proofs.YtibhkijaafdkoaaGreatDoor
