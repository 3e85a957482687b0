/- Own facts, put together: no statement of its own. -/
import Derived.Test.YtibhkijaafdkoaaGreatDoorR08
import Derived.Test.YtibhkijaafdkoaaGreatDoorR27
import Derived.Test.YtibhkijaafdkoaaGreatDoorR20
import Derived.Test.YtibhkijaafdkoaaGreatDoorR29
import Derived.Test.YtibhkijaafdkoaaGreatDoorR30
import Derived.Test.YtibhkijaafdkoaaGreatDoorR25
import Derived.Test.YtibhkijaafdkoaaGreatDoorR18
import Derived.Test.YtibhkijaafdkoaaGreatDoorR14
namespace Go.Proofs.YtibhkijaafdkoaaGreatDoor
open Go.RowKit
def LinkEnd (k : Nat) (per : Int) (ps : List Pk) (ns : List Int) (w : World) (e : Ending) (w' : World) : Prop := ∃ v l, e = .returned v ∧ OwnS w' w.heap.size v l ∧ LinkSends k per ps ns l ∧ Below w.heap.size w w'
set_option maxRecDepth 100000 in
set_option maxHeartbeats 8000000 in
theorem refLinkOf_is (cv : Value) (kb : ByteArray) (per : Int) (na : Option Addr) (ncap : Nat) (ns : List Int) (pa : Option Addr) (pcap : Nat) (ps : List Pk) (w : World) (hk : 1 ≤ kindOf kb.toList) (hn : LiesN w na ns) (hnf : KindFault (kindOf kb.toList) ns 0) (hp : LiesP w pa ps) (ho : OkPks ps) (h1 : 1 ≤ per) (h2 : per ≤ 1000) (hcv : ∃ a n c, cv = .slice a n c) :
  Calls Tryz.prog 64 #[.agg #[cv, .string kb, .int .i64 per, .slice na ns.length ncap], .slice pa ps.length pcap] w fun e w' => LinkEnd (kindOf kb.toList) per ps ns w e w' := by
 obtain ⟨ca, cn, ccap, rfl⟩ := hcv
 have hkt := kindTests kb
 have HL : Hid (LiesP w pa ps ∧ LiesN w na ns ∧ OkPks ps) := ⟨hp, hn, ho⟩
 have HNf : Hid (KindFault (kindOf kb.toList) ns 0) := hnf
 have hk5 := kindOf_le kb.toList
 obtain ⟨k, hkk⟩ : ∃ k, kindOf kb.toList = k := ⟨_, rfl⟩
 rw [hkk] at hkt HNf hk hk5
 rw [hkk]
 have hb1 : Below w.heap.size w (w.alloc (.cells #[.slice ca cn ccap, .string kb, .int .i64 per, .slice na ns.length ncap] 25)) := (Below.refl _ _).alloc (Nat.le_refl _) _
 obtain ⟨x0, x1, x2, x3⟩ := gateAt_new w (.slice ca cn ccap) kb per (.slice na ns.length ncap) 25
 have HB : Hid (Below w.heap.size w (w.alloc (.cells #[.slice ca cn ccap, .string kb, .int .i64 per, .slice na ns.length ncap] 25))) := hb1
 obtain ⟨t1, t2, t3, t4, t5, u1, u2, u3, u4, u5⟩ := hkt
 clear hn hnf hp ho hkk hb1
 rcases (show k = 1 ∨ k = 2 ∨ k = 3 ∨ k = 4 ∨ k = 5 by omega) with rfl | rfl | rfl | rfl | rfl
 ·
  replace t1 : (kb.toList == [102, 105, 102, 111]) = true := t1
  replace u1 : (kb.toList == ByteArray.toList ⟨#[102, 105, 102, 111]⟩) = true := u1
  replace t2 : (kb.toList == [114, 97, 110, 107]) = false := t2
  replace u2 : (kb.toList == ByteArray.toList ⟨#[114, 97, 110, 107]⟩) = false := u2
  replace t3 : (kb.toList == [100, 117, 101]) = false := t3
  replace u3 : (kb.toList == ByteArray.toList ⟨#[100, 117, 101]⟩) = false := u3
  replace t4 : (kb.toList == [114, 111, 117, 110, 100]) = false := t4
  replace u4 : (kb.toList == ByteArray.toList ⟨#[114, 111, 117, 110, 100]⟩) = false := u4
  replace t5 : (kb.toList == [102, 97, 105, 114]) = false := t5
  replace u5 : (kb.toList == ByteArray.toList ⟨#[102, 97, 105, 114]⟩) = false := u5
  have HC : Hid (∀ W, Below w.heap.size w W → Calls Tryz.prog 110 #[.slice pa ps.length pcap, .int .i64 per] W fun e w' => FifoEnd per ps W e w') := fun W hb => fifoOf_any pa pcap ps per W (HL.out.1.below hb) HL.out.2.2 h1 h2
  obtain ⟨m, hm⟩ : ∃ m, ps.length = m := ⟨_, rfl⟩
  obtain ⟨r, hr⟩ : ∃ r, ns.length = r := ⟨_, rfl⟩
  rw [hm] at HC
  rw [hr] at x0 x1 x2 x3 HB
  rw [hm, hr]
  clear hm hr
  go_enter Tryz.func64, Tryz.ntmps64
  go_wp2_with fail
  refine (HC.out _ HB.out).mono ?_
  rintro e w2 ⟨v, rfl, hv, hb2⟩
  have HE : Hid (OwnS w2 w.heap.size v (lindAll per ps ps.length) ∧ LinkSends 1 per ps ns (lindAll per ps ps.length) ∧ Below w.heap.size w w2) := ⟨ownsRow_mono hv HB.out.size, .inl ⟨rfl, rfl⟩, HB.out.trans (hb2.mono HB.out.size)⟩
  clear hb2 hv
  go_wp2_with fail
  go_ret
  exact ⟨v, _, rfl, HE.out.1, HE.out.2.1, HE.out.2.2⟩
 ·
  replace t1 : (kb.toList == [102, 105, 102, 111]) = false := t1
  replace u1 : (kb.toList == ByteArray.toList ⟨#[102, 105, 102, 111]⟩) = false := u1
  replace t2 : (kb.toList == [114, 97, 110, 107]) = true := t2
  replace u2 : (kb.toList == ByteArray.toList ⟨#[114, 97, 110, 107]⟩) = true := u2
  replace t3 : (kb.toList == [100, 117, 101]) = false := t3
  replace u3 : (kb.toList == ByteArray.toList ⟨#[100, 117, 101]⟩) = false := u3
  replace t4 : (kb.toList == [114, 111, 117, 110, 100]) = false := t4
  replace u4 : (kb.toList == ByteArray.toList ⟨#[114, 111, 117, 110, 100]⟩) = false := u4
  replace t5 : (kb.toList == [102, 97, 105, 114]) = false := t5
  replace u5 : (kb.toList == ByteArray.toList ⟨#[102, 97, 105, 114]⟩) = false := u5
  have HO : Hid (NumsOk 0 100 ns) := by
   rcases HNf.out with ⟨h, -⟩ | ⟨-, h⟩ | ⟨h, -⟩ | ⟨h, -⟩ | ⟨h, -⟩
   case inr.inl => exact h.ok
   all_goals omega
  have HC : Hid (∀ W, Below w.heap.size w W → Calls Tryz.prog 106 #[.slice pa ps.length pcap, .int .i64 per, .slice na ns.length ncap] W fun e w' => LeastEnd per ps (rankKeys ps ns) W e w') := fun W hb => rankOf_any pa pcap ps per na ncap ns W (HL.out.1.below hb) (HL.out.2.1.below hb) HL.out.2.2 HO.out.len h1 h2
  obtain ⟨m, hm⟩ : ∃ m, ps.length = m := ⟨_, rfl⟩
  obtain ⟨r, hr⟩ : ∃ r, ns.length = r := ⟨_, rfl⟩
  rw [hm, hr] at HC
  rw [hr] at x0 x1 x2 x3 HB
  rw [hm, hr]
  clear hm hr
  go_enter Tryz.func64, Tryz.ntmps64
  go_wp2_with fail
  refine (HC.out _ HB.out).mono ?_
  rintro e w2 ⟨v, l, rfl, hv, hs, hlen, hb2⟩
  have HE : Hid (OwnS w2 w.heap.size v (l) ∧ LinkSends 2 per ps ns (l) ∧ Below w.heap.size w w2) := ⟨ownsRow_mono hv HB.out.size, .inr (.inl ⟨rfl, hs, hlen⟩), HB.out.trans (hb2.mono HB.out.size)⟩
  clear hb2 hv hs hlen
  go_wp2_with fail
  go_ret
  exact ⟨v, _, rfl, HE.out.1, HE.out.2.1, HE.out.2.2⟩
 ·
  replace t1 : (kb.toList == [102, 105, 102, 111]) = false := t1
  replace u1 : (kb.toList == ByteArray.toList ⟨#[102, 105, 102, 111]⟩) = false := u1
  replace t2 : (kb.toList == [114, 97, 110, 107]) = false := t2
  replace u2 : (kb.toList == ByteArray.toList ⟨#[114, 97, 110, 107]⟩) = false := u2
  replace t3 : (kb.toList == [100, 117, 101]) = true := t3
  replace u3 : (kb.toList == ByteArray.toList ⟨#[100, 117, 101]⟩) = true := u3
  replace t4 : (kb.toList == [114, 111, 117, 110, 100]) = false := t4
  replace u4 : (kb.toList == ByteArray.toList ⟨#[114, 111, 117, 110, 100]⟩) = false := u4
  replace t5 : (kb.toList == [102, 97, 105, 114]) = false := t5
  replace u5 : (kb.toList == ByteArray.toList ⟨#[102, 97, 105, 114]⟩) = false := u5
  have HO : Hid (NumsOk 0 1099511627776 ns) := by
   rcases HNf.out with ⟨h, -⟩ | ⟨h, -⟩ | ⟨-, h⟩ | ⟨h, -⟩ | ⟨h, -⟩
   case inr.inr.inl => exact h.ok
   all_goals omega
  have HC : Hid (∀ W, Below w.heap.size w W → Calls Tryz.prog 107 #[.slice pa ps.length pcap, .int .i64 per, .slice na ns.length ncap] W fun e w' => LeastEnd per ps (dueKeys ps ns) W e w') := fun W hb => duesOf_any pa pcap ps per na ncap ns W (HL.out.1.below hb) (HL.out.2.1.below hb) HL.out.2.2 HO.out h1 h2
  obtain ⟨m, hm⟩ : ∃ m, ps.length = m := ⟨_, rfl⟩
  obtain ⟨r, hr⟩ : ∃ r, ns.length = r := ⟨_, rfl⟩
  rw [hm, hr] at HC
  rw [hr] at x0 x1 x2 x3 HB
  rw [hm, hr]
  clear hm hr
  go_enter Tryz.func64, Tryz.ntmps64
  go_wp2_with fail
  refine (HC.out _ HB.out).mono ?_
  rintro e w2 ⟨v, l, rfl, hv, hs, hlen, hb2⟩
  have HE : Hid (OwnS w2 w.heap.size v (l) ∧ LinkSends 3 per ps ns (l) ∧ Below w.heap.size w w2) := ⟨ownsRow_mono hv HB.out.size, .inr (.inr (.inl ⟨rfl, hs, hlen⟩)), HB.out.trans (hb2.mono HB.out.size)⟩
  clear hb2 hv hs hlen
  go_wp2_with fail
  go_ret
  exact ⟨v, _, rfl, HE.out.1, HE.out.2.1, HE.out.2.2⟩
 ·
  replace t1 : (kb.toList == [102, 105, 102, 111]) = false := t1
  replace u1 : (kb.toList == ByteArray.toList ⟨#[102, 105, 102, 111]⟩) = false := u1
  replace t2 : (kb.toList == [114, 97, 110, 107]) = false := t2
  replace u2 : (kb.toList == ByteArray.toList ⟨#[114, 97, 110, 107]⟩) = false := u2
  replace t3 : (kb.toList == [100, 117, 101]) = false := t3
  replace u3 : (kb.toList == ByteArray.toList ⟨#[100, 117, 101]⟩) = false := u3
  replace t4 : (kb.toList == [114, 111, 117, 110, 100]) = true := t4
  replace u4 : (kb.toList == ByteArray.toList ⟨#[114, 111, 117, 110, 100]⟩) = true := u4
  replace t5 : (kb.toList == [102, 97, 105, 114]) = false := t5
  replace u5 : (kb.toList == ByteArray.toList ⟨#[102, 97, 105, 114]⟩) = false := u5
  have HO : Hid (NumsOk 1 3000 ns) := by
   rcases HNf.out with ⟨h, -⟩ | ⟨h, -⟩ | ⟨h, -⟩ | ⟨-, h⟩ | ⟨h, -⟩
   case inr.inr.inr.inl => exact h.ok
   all_goals omega
  have HC : Hid (∀ W, Below w.heap.size w W → Calls Tryz.prog 108 #[.slice pa ps.length pcap, .int .i64 per, .slice na ns.length ncap] W fun e w' => RoundEnd per ps ns W e w') := fun W hb => roundOf_any pa pcap ps per na ncap ns W (HL.out.1.below hb) (HL.out.2.1.below hb) HL.out.2.2 h1 h2 HO.out
  obtain ⟨m, hm⟩ : ∃ m, ps.length = m := ⟨_, rfl⟩
  obtain ⟨r, hr⟩ : ∃ r, ns.length = r := ⟨_, rfl⟩
  rw [hm, hr] at HC
  rw [hr] at x0 x1 x2 x3 HB
  rw [hm, hr]
  clear hm hr
  go_enter Tryz.func64, Tryz.ntmps64
  go_wp2_with fail
  refine (HC.out _ HB.out).mono ?_
  rintro e w2 ⟨v, l, rfl, hv, hs, hb2⟩
  have HE : Hid (OwnS w2 w.heap.size v (l) ∧ LinkSends 4 per ps ns (l) ∧ Below w.heap.size w w2) := ⟨ownsRow_mono hv HB.out.size, .inr (.inr (.inr (.inl ⟨rfl, hs⟩))), HB.out.trans (hb2.mono HB.out.size)⟩
  clear hb2 hv hs
  go_wp2_with fail
  go_ret
  exact ⟨v, _, rfl, HE.out.1, HE.out.2.1, HE.out.2.2⟩
 ·
  replace t1 : (kb.toList == [102, 105, 102, 111]) = false := t1
  replace u1 : (kb.toList == ByteArray.toList ⟨#[102, 105, 102, 111]⟩) = false := u1
  replace t2 : (kb.toList == [114, 97, 110, 107]) = false := t2
  replace u2 : (kb.toList == ByteArray.toList ⟨#[114, 97, 110, 107]⟩) = false := u2
  replace t3 : (kb.toList == [100, 117, 101]) = false := t3
  replace u3 : (kb.toList == ByteArray.toList ⟨#[100, 117, 101]⟩) = false := u3
  replace t4 : (kb.toList == [114, 111, 117, 110, 100]) = false := t4
  replace u4 : (kb.toList == ByteArray.toList ⟨#[114, 111, 117, 110, 100]⟩) = false := u4
  replace t5 : (kb.toList == [102, 97, 105, 114]) = true := t5
  replace u5 : (kb.toList == ByteArray.toList ⟨#[102, 97, 105, 114]⟩) = true := u5
  have HO : Hid (WtsAll ns) := by
   rcases HNf.out with ⟨h, -⟩ | ⟨h, -⟩ | ⟨h, -⟩ | ⟨h, -⟩ | ⟨-, h⟩
   case inr.inr.inr.inr => exact h.ok
   all_goals omega
  have HC : Hid (∀ W, Below w.heap.size w W → Calls Tryz.prog 109 #[.slice pa ps.length pcap, .int .i64 per, .slice na ns.length ncap] W fun e w' => FairEnd per ps ns W e w') := fun W hb => fairOf_any pa pcap ps per na ncap ns W (HL.out.1.below hb) (HL.out.2.1.below hb) HL.out.2.2 h1 h2 HO.out
  obtain ⟨m, hm⟩ : ∃ m, ps.length = m := ⟨_, rfl⟩
  obtain ⟨r, hr⟩ : ∃ r, ns.length = r := ⟨_, rfl⟩
  rw [hm, hr] at HC
  rw [hr] at x0 x1 x2 x3 HB
  rw [hm, hr]
  clear hm hr
  go_enter Tryz.func64, Tryz.ntmps64
  go_wp2_with fail
  refine (HC.out _ HB.out).mono ?_
  rintro e w2 ⟨v, gt, l, f, rfl, hv, -, hs, hb2⟩
  have HE : Hid (OwnS w2 w.heap.size v (l) ∧ LinkSends 5 per ps ns (l) ∧ Below w.heap.size w w2) := ⟨ownsRow_mono hv HB.out.size, .inr (.inr (.inr (.inr ⟨rfl, _, hs⟩))), HB.out.trans (hb2.mono HB.out.size)⟩
  clear hb2 hv hs
  go_wp2_with fail
  go_ret
  exact ⟨v, _, rfl, HE.out.1, HE.out.2.1, HE.out.2.2⟩
end Go.Proofs.YtibhkijaafdkoaaGreatDoor

namespace Go.Proofs.YtibhkijaafdkoaaGreatDoor
open Go.RowKit
def fillTo (a : Nat → Int) (L : List Nat) (out : List Pk) : Nat → Nat → Int
 | 0 => a
 | r + 1 => put1 (fillTo a L out r) (L.getD r 0) (tickOf out r)
theorem fill_out {a : Nat → Int} {L : List Nat} {out : List Pk} {i : Nat} (hi : i ∉ L) : ∀ r, r ≤ L.length → fillTo a L out r i = a i
 | 0, _ => rfl
 | r + 1, hr => by
  have e : L[r]? = some L[r] := List.getElem?_eq_getElem (by omega)
  simp only [fillTo, List.getD, e, Option.getD_some]
  rw [put1_other _ _ (fun h => hi (by rw [h]; exact List.getElem_mem _))]
  exact fill_out hi r (by omega)
theorem fill_in {a : Nat → Int} {L : List Nat} (hL : L.Pairwise (· < ·)) {out : List Pk} {k i : Nat} (hk : L[k]? = some i) : ∀ r, r ≤ L.length → k < r → fillTo a L out r i = tickOf out k
 | 0, _, h => absurd h (Nat.not_lt_zero _)
 | r + 1, hr, h => by
  have e : L[r]? = some L[r] := List.getElem?_eq_getElem (by omega)
  have ek : L[k]'(lt_of_get hk) = i := Option.some.inj ((List.getElem?_eq_getElem (lt_of_get hk)).symm.trans hk)
  simp only [fillTo, List.getD, e, Option.getD_some]
  rcases Nat.lt_or_ge k r with h' | h'
  ·
   have hlt := List.pairwise_iff_getElem.1 hL k r (lt_of_get hk) (by omega) h'
   rw [ek] at hlt
   rw [put1_other _ _ (by omega)]
   exact fill_in hL hk r (by omega) h'
  ·
   obtain rfl : k = r := by omega
   rw [ek, put1_same]
structure FillAt (w W wr : World) (D n : Nat) (a : Nat → Int) : Prop where
 but : But (fun b => b = D) W wr
 at_ : NumsAt wr D n a
 below : Below w.heap.size w W
 new : w.heap.size ≤ D
section
variable {w W wr wr' : World} {D n : Nat} {a : Nat → Int}
theorem FillAt.all (h : FillAt w W wr D n a) : Below w.heap.size w wr := h.below.trans (h.but.below h.below.size fun k hk => by rw [hk]; exact h.new)
theorem FillAt.later (h : FillAt w W wr D n a) (hb : Below wr.heap.size wr wr') : FillAt w W wr' D n a := ⟨h.but.trans (.ofBelow hb), h.at_.of_block (hb.block D h.at_.lt) hb.size, h.below, h.new⟩
theorem FillAt.put (h : FillAt w W wr D n a) {k : Nat} (hk : k < n) (x : Int) : FillAt w W (wr.setCell ⟨D, k, none⟩ (.int .i64 x)).drew D n (put1 a k x) :=
 ⟨(But.setCell (S := fun b => b = D) h.but (p := ⟨D, k, none⟩) rfl _).drew, (h.at_.put hk x).of_block rfl (Nat.le_refl _), h.below, h.new⟩
theorem FillAt.cell (h : FillAt w W wr D n a) {b o : Nat} {v : Value} (hc : W.cell? ⟨b, o, none⟩ = some v) (hb : b ≠ D) : wr.cell? ⟨b, o, none⟩ = some v := by
 rw [h.but.cell (p := ⟨b, o, none⟩) (cell_lt hc) hb]; exact hc
theorem FillAt.frozen (h : FillAt w W wr D n a) {b o : Nat} {v : Value} (hc : W.cell? ⟨b, o, none⟩ = some v) (hb : b ≠ D) : wr.frozen? ⟨b, o, none⟩ = W.frozen? ⟨b, o, none⟩ :=
 h.but.frozen (p := ⟨b, o, none⟩) (cell_lt hc) hb
end
end Go.Proofs.YtibhkijaafdkoaaGreatDoor

namespace Go.Proofs.YtibhkijaafdkoaaGreatDoor
open Go.RowKit
def RunBad (c p : Int) (w : World) (e : Ending) (w' : World) : Prop := e = .returned (.tuple #[.slice none 0 0, .slice none 0 0, .agg #[.int .i64 c, .int .i64 p]]) ∧ Below w.heap.size w w'
section
variable (ca : Option Addr) (cn ccap : Nat) (kb : ByteArray) (per : Int) (na : Option Addr) (nn ncap : Nat) (pa : Option Addr) (n pcap : Nat) (w : World) (c p : Int)
set_option maxRecDepth 100000 in
set_option maxHeartbeats 4000000 in
theorem refRunOf_gate (hc : 0 < c) (h : ∀ W, Below w.heap.size w W → Calls Tryz.prog 13 #[.agg #[.slice ca cn ccap, .string kb, .int .i64 per, .slice na nn ncap]] W fun e w' => GfEnd c p W e w') :
  Calls Tryz.prog 30 #[.agg #[.slice ca cn ccap, .string kb, .int .i64 per, .slice na nn ncap], .slice pa n pcap] w fun e w' => RunBad c p w e w' := by
 have HG : Hid (∀ W, Below w.heap.size w W → Calls Tryz.prog 13 #[.agg #[.slice ca cn ccap, .string kb, .int .i64 per, .slice na nn ncap]] W fun e w' => GfEnd c p W e w') := h
 have hb1 : Below w.heap.size w ((w.alloc (.cells #[.slice ca cn ccap, .string kb, .int .i64 per, .slice na nn ncap] 25)).alloc (.cells #[.int .i64 0, .int .i64 0] 35)) := ((Below.refl _ _).alloc (Nat.le_refl _) _).alloc (by simp) _
 have hs1 : (w.alloc (.cells #[.slice ca cn ccap, .string kb, .int .i64 per, .slice na nn ncap] 25)).heap.size = w.heap.size + 1 := by simp
 have hga : GateAt ((w.alloc (.cells #[.slice ca cn ccap, .string kb, .int .i64 per, .slice na nn ncap] 25)).alloc (.cells #[.int .i64 0, .int .i64 0] 35)) w.heap.size (.slice ca cn ccap) kb per (.slice na nn ncap) := (gateAt_new w (.slice ca cn ccap) kb per (.slice na nn ncap) 25).later ((Below.refl _ _).alloc (Nat.le_refl _) _)
 have h2a : At2 ((w.alloc (.cells #[.slice ca cn ccap, .string kb, .int .i64 per, .slice na nn ncap] 25)).alloc (.cells #[.int .i64 0, .int .i64 0] 35)) (w.heap.size + 1) (.int .i64 0) (.int .i64 0) := by
  have := at2_new (w.alloc (.cells #[.slice ca cn ccap, .string kb, .int .i64 per, .slice na nn ncap] 25)) (.int .i64 0) (.int .i64 0) 35
  rwa [hs1] at this
 obtain ⟨V, hV⟩ : ∃ V, (w.alloc (.cells #[.slice ca cn ccap, .string kb, .int .i64 per, .slice na nn ncap] 25)).alloc (.cells #[.int .i64 0, .int .i64 0] 35) = V := ⟨_, rfl⟩
 rw [hV] at hb1 hga h2a
 have HV : Hid (Below w.heap.size w V ∧ At2 V (w.heap.size + 1) (.int .i64 0) (.int .i64 0)) := ⟨hb1, h2a⟩
 obtain ⟨x0, x1, x2, x3⟩ := hga
 clear h hb1 h2a hs1
 go_enter Tryz.func30, Tryz.ntmps30
 go_wp2_with fail
 refine (HG.out _ HV.out.1).mono ?_
 rintro e w2 ⟨rfl, hb2⟩
 have hb3 : Below V.heap.size V (w2.alloc (.cells #[.int .i64 c, .int .i64 p] 35)) := hb2.alloc hb2.size _
 have HB3 : Hid (Below w.heap.size w (w2.alloc (.cells #[.int .i64 c, .int .i64 p] 35))) := HV.out.1.trans (hb3.mono HV.out.1.size)
 obtain ⟨z0, z1, zf0, zf1⟩ := HV.out.2.later hb3
 obtain ⟨f0, f1, ff0, ff1⟩ := at2_new w2 (.int .i64 c) (.int .i64 p) 35
 obtain ⟨V3, hV3⟩ : ∃ V3, w2.alloc (.cells #[.int .i64 c, .int .i64 p] 35) = V3 := ⟨_, rfl⟩
 rw [hV3] at HB3 z0 z1 zf0 zf1 f0 f1
 have hc0 : (c == 0) = false := by simpa using (show c ≠ 0 by omega)
 clear hb2 hb3 ff0 ff1 x0 x1 x2 x3
 go_wp2_with fail
 go_region
 go_wp2_with fail
 exact bodyPost_ret (v := .tuple #[.slice none 0 0, .slice none 0 0, .agg #[.int .i64 c, .int .i64 p]]) (by simp [results, Tryz.results30, go_sem, z0, z1]) rfl ⟨rfl, below_drewN ((HB3.out.setCell (p := ⟨w.heap.size + 1, 0, none⟩) (Nat.le_succ _) _).setCell (p := ⟨w.heap.size + 1, 1, none⟩) (Nat.le_succ _) _) 1⟩
set_option maxRecDepth 100000 in
set_option maxHeartbeats 4000000 in
theorem refRunOf_pks (hc : 0 < c) (h : ∀ W, Below w.heap.size w W → Calls Tryz.prog 13 #[.agg #[.slice ca cn ccap, .string kb, .int .i64 per, .slice na nn ncap]] W fun e w' => GfEnd 0 (-1) W e w') (h2 : ∀ W, Below w.heap.size w W → Calls Tryz.prog 62 #[.slice pa n pcap] W fun e w' => e = .returned (.agg #[.int .i64 c, .int .i64 p]) ∧ Below W.heap.size W w') :
  Calls Tryz.prog 30 #[.agg #[.slice ca cn ccap, .string kb, .int .i64 per, .slice na nn ncap], .slice pa n pcap] w fun e w' => RunBad c p w e w' := by
 have HG : Hid (∀ W, Below w.heap.size w W → Calls Tryz.prog 13 #[.agg #[.slice ca cn ccap, .string kb, .int .i64 per, .slice na nn ncap]] W fun e w' => GfEnd 0 (-1) W e w') := h
 have HPf : Hid (∀ W, Below w.heap.size w W → Calls Tryz.prog 62 #[.slice pa n pcap] W fun e w' => e = .returned (.agg #[.int .i64 c, .int .i64 p]) ∧ Below W.heap.size W w') := h2
 have hb1 : Below w.heap.size w ((w.alloc (.cells #[.slice ca cn ccap, .string kb, .int .i64 per, .slice na nn ncap] 25)).alloc (.cells #[.int .i64 0, .int .i64 0] 35)) := ((Below.refl _ _).alloc (Nat.le_refl _) _).alloc (by simp) _
 have hs1 : (w.alloc (.cells #[.slice ca cn ccap, .string kb, .int .i64 per, .slice na nn ncap] 25)).heap.size = w.heap.size + 1 := by simp
 have hga : GateAt ((w.alloc (.cells #[.slice ca cn ccap, .string kb, .int .i64 per, .slice na nn ncap] 25)).alloc (.cells #[.int .i64 0, .int .i64 0] 35)) w.heap.size (.slice ca cn ccap) kb per (.slice na nn ncap) := (gateAt_new w (.slice ca cn ccap) kb per (.slice na nn ncap) 25).later ((Below.refl _ _).alloc (Nat.le_refl _) _)
 have h2a : At2 ((w.alloc (.cells #[.slice ca cn ccap, .string kb, .int .i64 per, .slice na nn ncap] 25)).alloc (.cells #[.int .i64 0, .int .i64 0] 35)) (w.heap.size + 1) (.int .i64 0) (.int .i64 0) := by
  have := at2_new (w.alloc (.cells #[.slice ca cn ccap, .string kb, .int .i64 per, .slice na nn ncap] 25)) (.int .i64 0) (.int .i64 0) 35
  rwa [hs1] at this
 obtain ⟨V, hV⟩ : ∃ V, (w.alloc (.cells #[.slice ca cn ccap, .string kb, .int .i64 per, .slice na nn ncap] 25)).alloc (.cells #[.int .i64 0, .int .i64 0] 35) = V := ⟨_, rfl⟩
 rw [hV] at hb1 hga h2a
 have HV : Hid (Below w.heap.size w V ∧ At2 V (w.heap.size + 1) (.int .i64 0) (.int .i64 0)) := ⟨hb1, h2a⟩
 obtain ⟨x0, x1, x2, x3⟩ := hga
 clear h h2 hb1 h2a hs1
 go_enter Tryz.func30, Tryz.ntmps30
 go_wp2_with fail
 refine (HG.out _ HV.out.1).mono ?_
 rintro e w2 ⟨rfl, hb2⟩
 have hb3 : Below V.heap.size V (w2.alloc (.cells #[.int .i64 0, .int .i64 (-1)] 35)) := hb2.alloc hb2.size _
 have HB3 : Hid (Below w.heap.size w (w2.alloc (.cells #[.int .i64 0, .int .i64 (-1)] 35)) ∧ At2 (w2.alloc (.cells #[.int .i64 0, .int .i64 (-1)] 35)) (w.heap.size + 1) (.int .i64 0) (.int .i64 0) ∧ At2 (w2.alloc (.cells #[.int .i64 0, .int .i64 (-1)] 35)) w2.heap.size (.int .i64 0) (.int .i64 (-1)) ∧ w.heap.size + 1 < w2.heap.size) := ⟨HV.out.1.trans (hb3.mono HV.out.1.size), HV.out.2.later hb3, at2_new w2 _ _ _, Nat.lt_of_lt_of_le (cell_lt HV.out.2.c0) hb2.size⟩
 clear hb2 hb3 x0 x1 x2 x3
 go_wp2_with fail
 refine (HPf.out _ HB3.out.1).mono ?_
 rintro e w4 ⟨rfl, hb4⟩
 have HB4 : Hid (Below w.heap.size w w4) := HB3.out.1.trans (hb4.mono HB3.out.1.size)
 have hz := HB3.out.2.1.later hb4
 have hf := HB3.out.2.2.1.later hb4
 obtain ⟨f0, f1, ff0, ff1⟩ := hf.set (.int .i64 c) (.int .i64 p)
 obtain ⟨y0, y1, yf0, yf1⟩ := hf
 obtain ⟨z0, z1, zf0, zf1⟩ := hz.other (Nat.ne_of_gt HB3.out.2.2.2) (.int .i64 c) (.int .i64 p)
 have HB5 : Hid (Below w.heap.size w ((w4.setCell ⟨w2.heap.size, 0, none⟩ (.int .i64 c)).setCell ⟨w2.heap.size, 1, none⟩ (.int .i64 p))) := (HB4.out.setCell (p := ⟨w2.heap.size, 0, none⟩) (by have := HB3.out.2.2.2; show w.heap.size ≤ w2.heap.size; omega) _).setCell (p := ⟨w2.heap.size, 1, none⟩) (by have := HB3.out.2.2.2; show w.heap.size ≤ w2.heap.size; omega) _
 obtain ⟨V3, hV3⟩ : ∃ V3, (w4.setCell ⟨w2.heap.size, 0, none⟩ (.int .i64 c)).setCell ⟨w2.heap.size, 1, none⟩ (.int .i64 p) = V3 := ⟨_, rfl⟩
 rw [hV3] at HB5 z0 z1 zf0 zf1 f0 f1
 clear hb4 hz ff0 ff1
 go_wp2_with fail
 go_region
 go_wp2_with fail
 exact bodyPost_ret (v := .tuple #[.slice none 0 0, .slice none 0 0, .agg #[.int .i64 c, .int .i64 p]]) (by simp [results, Tryz.results30, go_sem, z0, z1]) rfl ⟨rfl, below_drewN ((HB5.out.setCell (p := ⟨w.heap.size + 1, 0, none⟩) (Nat.le_succ _) _).setCell (p := ⟨w.heap.size + 1, 1, none⟩) (Nat.le_succ _) _) 1⟩
end
end Go.Proofs.YtibhkijaafdkoaaGreatDoor
