/- Own facts, put together: no statement of its own. -/
import Derived.Test.YtibhkijaafdkoaaGreatDoorR24
import Derived.Test.YtibhkijaafdkoaaGreatDoorR17
import Derived.Deep.DeepCutAuto
import Derived.Deep.RegionLaw
import Derived.Test.YtibhkijaafdkoaaGreatDoorR07
import Derived.Test.YtibhkijaafdkoaaGreatDoorR04
import Derived.Test.YtibhkijaafdkoaaGreatDoorR02
import Derived.Test.YtibhkijaafdkoaaGreatDoorR16
import Derived.Test.YtibhkijaafdkoaaGreatDoorR19
import Derived.Test.YtibhkijaafdkoaaGreatDoorR08
import Derived.Test.YtibhkijaafdkoaaGreatDoorR23
namespace Go.Proofs.YtibhkijaafdkoaaGreatDoor
open Go.RowKit
def ShapeOfEnd (ls : List (Int × Int)) (ps : List Pk) (w : World) (e : Ending) (w' : World) : Prop :=
 Below w.heap.size w w' ∧
 ((∃ s v, shape ls ps = some s ∧ e = .returned (.tuple #[v, .int .i64 (-1)]) ∧ OwnP w' w.heap.size v s.out) ∨
  (∃ (j : Nat) (p : Pk) (s : Sh), ps[j]? = some p ∧ shape ls (ps.take j) = some s ∧ shStep s p = none ∧ e = .returned (.tuple #[.slice none 0 0, .int .i64 j])))
structure RWork (ls : List (Int × Int)) (ps : List Pk) (w wr : World) (v : Value) (hs : List Nat) (ms : List Rb) (o : Value) (k : Nat) (s : Sh) : Prop where
 run : shape ls (ps.take k) = some s
 rs : RsAt w wr v hs ms
 len : ms.length = s.bs.length
 rel : ∀ (i : Nat) b m, s.bs[i]? = some b → ms[i]? = some m → RelB b m
 out : OwnP wr w.heap.size o s.out
 apart : ∀ h, h ∈ hs → o.ownBlock ≠ some h
 apart2 : ∀ j, o.ownBlock = some j → v.ownBlock ≠ some j
 below : Below w.heap.size w wr
structure LocAt (w : World) (C : Nat) (x y z : Int) : Prop where
 c0 : w.cell? ⟨C, 0, none⟩ = some (.int .i64 x)
 c1 : w.cell? ⟨C, 1, none⟩ = some (.int .i64 y)
 c2 : w.cell? ⟨C, 2, none⟩ = some (.int .i64 z)
 f2 : w.frozen? ⟨C, 2, none⟩ = false
theorem locAt_new (w : World) (x y z : Int) : LocAt (w.alloc (.cells #[.int .i64 x, .int .i64 y, .int .i64 z] 52)) w.heap.size x y z := ⟨by simp, by simp, by simp, by simp⟩
theorem LocAt.but {S : Nat → Prop} {w w' : World} {C : Nat} {x y z : Int} (h : LocAt w C x y z) (hb : But S w w') (hs : ¬ S C) : LocAt w' C x y z :=
 have l := cell_lt h.c0
 ⟨by rw [hb.cell (p := ⟨C, 0, none⟩) l hs]; exact h.c0, by rw [hb.cell (p := ⟨C, 1, none⟩) l hs]; exact h.c1, by rw [hb.cell (p := ⟨C, 2, none⟩) l hs]; exact h.c2, by rw [hb.frozen (p := ⟨C, 2, none⟩) l hs]; exact h.f2⟩
theorem LocAt.below {w w' : World} {C : Nat} {x y z : Int} (h : LocAt w C x y z) (hb : Below w.heap.size w w') : LocAt w' C x y z := h.but (S := fun _ => False) (.ofBelow hb) id
theorem LocAt.set {w : World} {C : Nat} {x y z : Int} (h : LocAt w C x y z) (u : Int) : LocAt (w.setCell ⟨C, 2, none⟩ (.int .i64 u)) C x y u :=
 ⟨by rw [World.cell?_setCell_other _ _ _ _ (by simp)]; exact h.c0, by rw [World.cell?_setCell_other _ _ _ _ (by simp)]; exact h.c1, World.cell?_setCell_same _ _ _ h.c2, by rw [World.frozen?_setCell]; exact h.f2⟩
theorem RsAt.set {w wr w' : World} {v : Value} {hs : List Nat} {ms : List Rb} (h : RsAt w wr v hs ms) (a q : Nat) (m' : Rb) (hq : hs[a]? = some q) (hb : But (fun k => k = q) wr w') (hr : RbAt w' q m') : RsAt w w' v hs (ms.set a m') := by
 have hqm := List.mem_of_getElem? hq
 refine ⟨by simp [h.len], ownsRow_but h.own hb (fun k hk e => (h.new q hqm).2 (by rw [hk, e])), fun i p m hi hm => ?_, h.new, h.one⟩
 by_cases hia : i = a
 ·
  subst hia
  obtain rfl : q = p := Option.some.inj (hq.symm.trans hi)
  have hil : i < ms.length := by
   rw [← h.len]
   rcases Nat.lt_or_ge i hs.length with h' | h'
   · exact h'
   · simp [List.getElem?_eq_none h'] at hi
  rw [List.getElem?_set_self hil] at hm
  cases hm
  exact hr
 ·
  rw [List.getElem?_set_ne (fun e => hia e.symm)] at hm
  exact (h.rb i p m hi hm).but hb (fun e => hia (h.one i a p hi (by rw [e]; exact hq)))
theorem okPks_take {ps : List Pk} (h : OkPks ps) (k : Nat) : OkPks (ps.take k) := by
 refine ⟨by have := h.few; simp; omega, fun i p hi => ?_⟩
 have hik : i < k := by
  rcases Nat.lt_or_ge i k with h' | h'
  · exact h'
  · rw [List.getElem?_take, if_neg (by omega)] at hi; cases hi
 rw [List.getElem?_take_of_lt hik] at hi
 have := h.each i p hi
 refine ⟨this.1, ?_⟩
 have e : ahead (ps.take k) i = ahead ps i := by
  cases i with
  | zero => rfl
  | succ i => simp only [ahead]; rw [List.getElem?_take_of_lt (by omega)]
 rw [e]; exact this.2
set_option maxRecDepth 100000 in
set_option maxHeartbeats 8000000 in
theorem shapeOf_any (la : Option Addr) (lcap : Nat) (ls : List (Int × Int)) (pa : Option Addr) (cap : Nat) (ps : List Pk) (w : World) (hl : Lies w la ls) (hk : okCurve ls) (hp : LiesP w pa ps) (ho : OkPks ps) :
  Calls Tryz.prog 63 #[.slice la ls.length lcap, .slice pa ps.length cap] w fun e w' => ShapeOfEnd ls ps w e w' := by
 have HP : Hid (LiesP w pa ps ∧ OkPks ps) := ⟨hp, ho⟩
 have HK : Hid (okCurve ls) := hk
 have hn300 : ps.length ≤ 300 := ho.few
 obtain ⟨h1, h6, hok⟩ := hk
 obtain ⟨b0, off0, rfl, hlt0, hc0⟩ := hl.some h1
 have HC0 : Hid (∀ i x y, ls[i]? = some (x, y) → w.cell? ⟨b0, off0 + i * 2, none⟩ = some (.int .i64 x) ∧ w.cell? ⟨b0, off0 + i * 2 + 1, none⟩ = some (.int .i64 y)) := hc0
 have HO0 : Hid (okAll ls ∧ b0 < w.heap.size) := ⟨hok, hlt0⟩
 clear hl hp ho hok hc0 hlt0
 obtain ⟨N, hN⟩ : ∃ N, ls.length = N := ⟨_, rfl⟩
 have HNl : Hid (ls.length = N) := hN
 obtain ⟨n, hn⟩ : ∃ n, ps.length = n := ⟨_, rfl⟩
 have HN : Hid (ps.length = n) := hn
 rw [hN, hn]
 rw [hN] at h1 h6
 rw [hn] at hn300
 clear hN hn
 obtain ⟨i0, hi, hz0, hz1, hz2⟩ := info_parts Tryz.infoPRBk
 obtain ⟨i1, hi1, hy0, hy1, hy2⟩ := info_parts Tryz.infoPkt
 go_enter Tryz.func63, Tryz.ntmps63
 go_wp2_with fail
 go_loopw [6, 7] (fun v i wr => ∃ k : Nat, k ≤ N ∧ i = .int .i64 k ∧ ∃ hs, RsAt w wr v hs ((ls.take k).map rbOf) ∧ Below w.heap.size w wr) (fun _ i _ => N - (intOf i).toNat)
 case atStart => exact ⟨0, Nat.zero_le _, rfl, [], rsAt_none w w, Below.refl _ _⟩
 case round =>
  obtain ⟨k, hk, rfl, hs, hrs, hb⟩ := hrel
  have HRs : Hid (RsAt w wr u6 hs ((ls.take k).map rbOf)) := hrs
  have HB : Hid (Below w.heap.size w wr) := hb
  have hlen : hs.length = k := by rw [hrs.len, List.length_map, List.length_take, HNl.out]; omega
  have HLen : Hid (hs.length = k) := hlen
  by_cases hkn : k < N
  ·
   obtain ⟨⟨x, y⟩, hp, hm⟩ := get_some ls k (by rw [HNl.out]; exact hkn)
   have c1 : wr.cell? ⟨b0, off0 + k * 2, none⟩ = some (.int .i64 x) := cell_later hb (HC0.out k x y hp).1
   have c2 : wr.cell? ⟨b0, off0 + k * 2 + 1, none⟩ = some (.int .i64 y) := cell_later hb (HC0.out k x y hp).2
   have HCk : Hid (w.cell? ⟨b0, off0 + k * 2, none⟩ = some (.int .i64 x) ∧ w.cell? ⟨b0, off0 + k * 2 + 1, none⟩ = some (.int .i64 y)) := HC0.out k x y hp
   obtain ⟨x1, x2, -, -⟩ := okLine_true (HO0.out.1 _ hm)
   simp only at x1 x2
   have hw : IntKind.i64.wrap (1000 * x) = 1000 * x := IntWalk.i64_in _ (by omega)
   have HT : Hid ((ls.take (k + 1)).map rbOf = (ls.take k).map rbOf ++ [rbOf (x, y)]) := by
    show _ = _
    rw [List.take_add_one, hp]; simp
   clear hrs hb hp hm hlen
   go_wp2_with fail
   go_region_held_law (fun w' => w'.cell? ⟨b0, off0 + k * 2, none⟩ = some (.int .i64 x) ∧ w'.cell? ⟨b0, off0 + k * 2 + 1, none⟩ = some (.int .i64 y)) (go_keep)
    (first
     | (refine step_append_lies _ rfl _ _ 166 rfl w.heap.size 167 i0 (.pointer none) 1 8 Tryz.underlying166 hi hz0 hz1 hz2 rfl (by decide) u6 hs.length (ptrs hs) rfl (by exact (HRs.out.below ((((Below.refl _ _).drew).alloc (Nat.le_refl _) _).alloc (by simp) _)).own) ⟨wr.heap.size + 1, 0, none⟩ 1 1 [.pointer (some ⟨wr.heap.size, 0, none⟩)] rfl rfl (by intro j u h; match j, h with | 0, h => simp at h; subst h; simp [Addr.add] | j + 1, h => simp at h) (by intro u hu; simp at hu; subst hu; rfl) (by decide) (by have := HLen.out; unfold maxLen; omega) (by have := HLen.out; omega) (by have := HB.out.size; simp; omega) (wr.heap.size + 2) (by simp) ?_
        intro g10 cap10 w10 ho10 hg10 hat10 hlt10
        have HM : Hid (RsAt w w10 (.slice (some ⟨g10, 0, none⟩) (hs.length + 1) cap10) (hs ++ [wr.heap.size]) ((ls.take k).map rbOf ++ [rbOf (x, y)])) := HRs.out.more x y g10 cap10 HB.out.size ho10 hg10 hat10
        have HB10 : Hid (Below w.heap.size w w10) := ((HB.out.drew.alloc (by exact HB.out.size) _).alloc (by have := HB.out.size; simp; omega) _).grown hg10 (by have := HB.out.size; simp; omega) (fun j hj => (World.ownsRow.lt HRs.out.own j hj).1)
        have y3 := cell_later HB10.out HCk.out.1
        have y4 := cell_later HB10.out HCk.out.2
        clear ho10 hg10 hat10 hlt10)
     | fail)
   all_goals
    go_wp2_with fail
    go_roundw
    case rel => exact ⟨k + 1, by omega, by go_num, _, by rw [HT.out]; exact HM.out, HB10.out⟩
    case measure => simp [intOf]; omega
  ·
   obtain rfl : k = N := by omega
   obtain ⟨G, cap6, rfl, hG0⟩ : ∃ G cap6, u6 = .slice (some ⟨G, 0, none⟩) k cap6 ∧ w.heap.size ≤ G := by
    obtain ⟨-, ⟨-, e⟩ | ⟨g, c, cur, e, hB, -⟩⟩ := hrs.own
    · omega
    · exact ⟨g, c, by rw [e, hlen], hB⟩
   have HW0 : Hid (RWork ls ps w wr (.slice (some ⟨G, 0, none⟩) k cap6) hs (ls.map rbOf) (.slice none 0 0) 0 ⟨ls.map bkOf, 0, []⟩) := by
    have hrs' := hrs
    rw [List.take_of_length_le (by rw [HNl.out]; omega)] at hrs'
    refine ⟨by simp [shape], hrs', by simp, fun i b m hb hm => ?_, World.ownsRow_nil _ _ _ _, (fun h _ e => by cases e), (fun j e => by cases e), hb⟩
    simp only [List.getElem?_map, Option.map_eq_some_iff] at hb hm
    obtain ⟨p, hp, rfl⟩ := hb
    obtain ⟨p', hp', rfl⟩ := hm
    obtain rfl : p = p' := Option.some.inj (hp.symm.trans hp')
    exact relB_new p (HO0.out.1 p (List.mem_of_getElem? hp))
   clear hrs hb hlen HRs HB
   go_wp2_with fail
   go_loopw [8, 9] (fun o i wr => ∃ j : Nat, j ≤ n ∧ i = .int .i64 j ∧ ∃ ms s, RWork ls ps w wr (.slice (some ⟨G, 0, none⟩) k cap6) hs ms o j s) (fun _ i _ => n - (intOf i).toNat)
   case atStart => exact ⟨0, Nat.zero_le _, rfl, _, _, HW0.out⟩
   case round =>
    obtain ⟨j, hj, rfl, ms, s, hwk⟩ := hrel
    have HWk : Hid (RWork ls ps w wr (.slice (some ⟨G, 0, none⟩) k cap6) hs ms u8 j s) := hwk
    have HGood : Hid (ShGood ls (ps.take j) s) := shape_good HK.out _ _ (okPks_take HP.out.2 j) hwk.run
    by_cases hjn : j < n
    ·
     obtain ⟨⟨x, y, z⟩, hp, -⟩ := get_some ps j (by rw [HN.out]; exact hjn)
     obtain ⟨b, off, rfl, -, hc⟩ := (HP.out.1.below hwk.below).place (by rw [HN.out]; omega)
     obtain ⟨c1, c2, c3⟩ := hc j _ hp
     simp only at c1 c2 c3
     have o := okPk_true (HP.out.2.each j _ hp).1
     simp only at o
     obtain ⟨-, -, y1, y2, z1, z2⟩ := o
     have hleft := HGood.out.okOut.final
     rw [← HGood.out.left] at hleft
     have HPk : Hid (ps[j]? = some ⟨x, y, z⟩) := hp
     have HOl : Hid (s.out.length = j) := by
      show _ = _
      rw [HGood.out.len, List.length_take, HN.out]; omega
     have HLeft0 : Hid (j = 0 → s.left = 0) := fun e => by
      have h1 := HGood.out.left
      rw [HOl.out, e] at h1
      exact h1
     obtain ⟨oa, ocap, eo, -, -, lo, -, -⟩ := OwnP.open hwk.out
     have HLo : Hid (LiesP wr oa s.out) := lo
     rw [HOl.out] at eo
     subst eo
     have HPrev : Hid (1 ≤ j → ∃ E eo, oa = some ⟨E, eo, none⟩ ∧ wr.cell? ⟨E, eo + (j - 1) * 3 + 2, none⟩ = some (.int .i64 s.left)) := fun h1 => by
      obtain ⟨E, eo, e, -, hco⟩ := HLo.out.place (by rw [HOl.out]; exact h1)
      refine ⟨E, eo, e, ?_⟩
      obtain ⟨pp, hpp, -⟩ := get_some s.out (j - 1) (by rw [HOl.out]; omega)
      have h2 := (hco (j - 1) pp hpp).2.2
      have h3 := HGood.out.left
      rw [HOl.out] at h3
      have h4 := ahead_succ hpp
      rw [show j - 1 + 1 = j by omega] at h4
      rw [h3, h4]; exact h2
     obtain ⟨L, hL⟩ : ∃ L, s.left = L := ⟨_, rfl⟩
     have HL : Hid (s.left = L) := hL
     rw [hL] at hleft HLeft0 HPrev
     obtain ⟨t, ht⟩ : ∃ t : Bool, decide (1 ≤ j ∧ z < L) = t := ⟨_, rfl⟩
     have HT : Hid (decide (1 ≤ j ∧ z < L) = t) := ht
     clear hwk hc hp lo hL ht
     go_upto_region 11 with fail
     go_cut [58] from 36 to 109 (fun s58 wx => s58 = .bool t ∧ LocAt wx wr.heap.size x y z ∧ Below wr.heap.size wr wx)
     case first =>
      have hal : Below wr.heap.size wr (wr.alloc (.cells #[.int .i64 x, .int .i64 y, .int .i64 z] 52)) := (Below.refl _ _).alloc (Nat.le_refl _) _
      have HAl : Hid (Below wr.heap.size wr (wr.alloc (.cells #[.int .i64 x, .int .i64 y, .int .i64 z] 52))) := hal
      have HLoc : Hid (LocAt (wr.alloc (.cells #[.int .i64 x, .int .i64 y, .int .i64 z] 52)) wr.heap.size x y z) := locAt_new wr x y z
      rcases Nat.eq_zero_or_pos j with rfl | hj1
      ·
       obtain rfl : t = false := by rw [← HT.out]; simp
       clear hal
       go_quiet (fail)
       go_wp2_with fail
       go_meet
       exact ⟨rfl, HLoc.out.below (below_drewN (Below.refl _ _) _), below_drewN HAl.out _⟩
      ·
       obtain ⟨E, eo, rfl, hcE⟩ := HPrev.out hj1
       have hc5 := cell_later hal hcE
       have hjd : decide ((0 : Int) < (j : Int)) = true := decide_eq_true (by omega)
       have htz : decide (z < L) = t := by
        rw [← HT.out]
        have : 1 ≤ j := hj1
        simp [this]
       clear hal
       cases t
       all_goals
        go_quiet (fail)
        go_wp2_with fail
        go_meet
        exact ⟨rfl, HLoc.out.below (below_drewN (Below.refl _ _) _), below_drewN HAl.out _⟩
     case rest =>
     obtain ⟨rfl, hloc, hbx⟩ := hcut
     go_upto_if 58 with fail
     go_cut [58] from 36 to 109 (fun _ wx => LocAt wx wr.heap.size x y (max z L) ∧ Below wr.heap.size wr wx)
     case first =>
      have HLoc : Hid (LocAt wc wr.heap.size x y z) := hloc
      have HBx : Hid (Below wr.heap.size wr wc) := hbx
      cases t with
      | false =>
       have hM : max z L = z := by
        have h1 : ¬ (1 ≤ j ∧ z < L) := of_decide_eq_false HT.out
        have h2 := HLeft0.out
        omega
       clear hloc hbx
       go_wp2_with fail
       go_meet
       exact ⟨by rw [hM]; exact HLoc.out, HBx.out⟩
      | true =>
       have h1 : 1 ≤ j ∧ z < L := of_decide_eq_true HT.out
       have HM : Hid (max z L = L) := by show _ = _; omega
       obtain ⟨E, eo, rfl, hcE⟩ := HPrev.out h1.1
       have hc5 := cell_later hbx hcE
       obtain ⟨d0, d1, d2, g2⟩ := hloc
       have hj1 := h1.1
       clear hbx h1
       go_wp2_with fail
       go_meet
       exact ⟨by rw [HM.out]; exact HLoc.out.set L, HBx.out.setCell (Nat.le_refl _) _⟩
     case rest =>
     obtain ⟨hloc2, hbx2⟩ := hcut
     clear hloc hbx
     obtain ⟨M, hM⟩ : ∃ M, max z L = M := ⟨_, rfl⟩
     rw [hM] at hloc2
     have HMx : Hid (max z L = M) := hM
     have hM0 : 0 ≤ M := by omega
     have hM1 : M ≤ 1099511627776 := by omega
     have hML : L ≤ M := by omega
     have HLoc2 : Hid (LocAt wc wr.heap.size x y M) := hloc2
     have HBx2 : Hid (Below wr.heap.size wr wc) := hbx2
     have HLen2 : Hid (hs.length = k ∧ s.bs.length = k ∧ ms.length = k) := by
      have h1 := HGood.out.few
      have h2 := HNl.out
      have h3 := HWk.out.len
      have h4 := HWk.out.rs.len
      exact ⟨by omega, by omega, by omega⟩
     have HOkB : Hid (∀ b, b ∈ s.bs → b.Ok ∧ b.last = L) := fun b hb => by
      have := HGood.out.ok b hb
      rwa [HL.out] at this
     obtain ⟨d0, d1, d2, g2⟩ := hloc2
     clear hM hbx2
     obtain ⟨W, hW⟩ : ∃ W, W = wr := ⟨_, rfl⟩
     subst hW
     go_wp2_with fail
     go_loopw [12] (fun i wx => ∃ l : Nat, l ≤ k ∧ i = .int .i64 l ∧ ∃ u, passT (s.bs.take l) M y = some u ∧ M ≤ u ∧ u ≤ 1099511627776 ∧ LocAt wx W.heap.size x y u ∧ Below W.heap.size W wx) (fun i _ => k - (intOf i).toNat)
     case atStart => exact ⟨0, Nat.zero_le _, rfl, M, rfl, Int.le_refl _, hM1, HLoc2.out, HBx2.out⟩
     case round =>
      obtain ⟨l, hlk, rfl, u, hu, hu0, hu1, hloc, hbl⟩ := hrel
      have HU : Hid (passT (s.bs.take l) M y = some u) := hu
      have HLoc : Hid (LocAt wr _ x y u) := hloc
      have HBl : Hid (Below _ _ wr) := hbl
      by_cases hln : l < k
      ·
       obtain ⟨bb, hbb, hbm⟩ := get_some s.bs l (by rw [HLen2.out.2.1]; exact hln)
       obtain ⟨hq, hhq, -⟩ := get_some hs l (by rw [HLen2.out.1]; exact hln)
       obtain ⟨m, hmm, -⟩ := get_some ms l (by rw [HLen2.out.2.2]; exact hln)
       have hrs := HWk.out.rs.below hbl
       have hptr : wr.cell? ⟨G, l, none⟩ = some (.pointer (some ⟨hq, 0, none⟩)) := RsAt.ptr (cap := cap6) (by rw [HLen2.out.1]; exact hrs) l hq hhq
       have HBO : Hid (bb.Ok ∧ bb.last = L) := HOkB.out bb hbm
       have HBm : Hid (bb ∈ s.bs) := hbm
       have HAsk : Hid (askErr bb.last M y = 0) := askErr_ok.2 ⟨y1, y2, hM0, hM1, by rw [HBO.out.2]; exact hML⟩
       have HWh : Hid (∀ w', Below wr.heap.size wr w' → Calls Tryz.prog 104 #[.pointer (some ⟨hq, 0, none⟩), .int .i64 M, .int .i64 y] w' fun e w'' => e = .returned (.int .i64 (tickOr (bb.when M y))) ∧ Below w'.heap.size w' w'') :=
        fun w' hb' => rwhen_ok hq bb m M y w' ((hrs.rb l hq m hhq hmm).below hb') HBO.out.1 (HWk.out.rel l bb m hbb hmm) HAsk.out
       have HTk : Hid (s.bs.take (l + 1) = s.bs.take l ++ [bb]) := by show _ = _; rw [List.take_add_one, hbb]; rfl
       have e1 := hloc.c1
       have e2 := hloc.c2
       have f2 := hloc.f2
       clear hrs hbb hhq hmm hbm hu hbl d0 d1 d2 g2
       cases hwn : bb.when M y with
       | none =>
        have HNone : Hid (shStep s ⟨x, y, z⟩ = none) := by
         show _ = _
         unfold shStep
         simp only
         rw [HL.out, HMx.out, passT_lacks (fun c hc => (HOkB.out c hc).1) HBm.out hM1 hwn]
        rw [hwn] at HWh
        change Hid (∀ w', Below wr.heap.size wr w' → Calls Tryz.prog 104 #[.pointer (some ⟨hq, 0, none⟩), .int .i64 M, .int .i64 y] w' fun e w'' => e = .returned (.int .i64 (-1)) ∧ Below w'.heap.size w' w'') at HWh
        clear hwn hloc
        go_wp2_with fail
        go_region_with (first
         | (go_simp; go_at_call 104; go_must (refine (HWh.out _ ?_).mono ?_; exact (Below.refl _ _).drew; rintro e w5 ⟨rfl, hb5⟩; have HB5 : Hid (Below wr.heap.size wr w5) := below_undr hb5; clear hb5))
         | fail)
        all_goals
         go_wp2_with fail
         go_ret2
         have hb6 := HBl.out.trans (HB5.out.mono HBl.out.size)
         have hwb := HWk.out.below
         exact ⟨hwb.trans (hb6.mono hwb.size), .inr ⟨j, ⟨x, y, z⟩, s, HPk.out, HWk.out.run, HNone.out, rfl⟩⟩
       | some T =>
        rw [hwn] at HWh
        change Hid (∀ w', Below wr.heap.size wr w' → Calls Tryz.prog 104 #[.pointer (some ⟨hq, 0, none⟩), .int .i64 M, .int .i64 y] w' fun e w'' => e = .returned (.int .i64 T) ∧ Below w'.heap.size w' w'') at HWh
        obtain ⟨T0, T1, -, -⟩ := Bk.when_some HBO.out.1 hM1 hwn
        have HMore : Hid (passT (s.bs.take (l + 1)) M y = some (if u < T then T else u)) := by
         show _ = _
         rw [HTk.out]
         exact passT_more (fun c hc => (HOkB.out c (List.mem_of_mem_take hc)).1) HBO.out.1 hM1 HU.out hwn
        have hT' : ¬ T < 0 := by omega
        clear hwn hloc
        by_cases hut : u < T
        ·
         rw [if_pos hut] at HMore
         go_wp2_with fail
         go_region_with (first
          | (go_simp; go_at_call 104; go_must (refine (HWh.out _ ?_).mono ?_; exact (Below.refl _ _).drew; rintro e w5 ⟨rfl, hb5⟩; have HB5 : Hid (Below wr.heap.size wr w5) := below_undr hb5; have HL5 : Hid (LocAt w5 _ x y u) := HLoc.out.below HB5.out; have q2 := HL5.out.c2; have r2 := HL5.out.f2; clear hb5))
          | fail)
         all_goals
          go_wp2_with fail
          go_roundw
          case rel => exact ⟨l + 1, by omega, by go_num, T, HMore.out, by omega, T1, HL5.out.set T, (HBl.out.trans (HB5.out.mono HBl.out.size)).setCell (Nat.le_refl _) _⟩
          case measure => simp [intOf]; omega
        ·
         rw [if_neg hut] at HMore
         go_wp2_with fail
         go_region_with (first
          | (go_simp; go_at_call 104; go_must (refine (HWh.out _ ?_).mono ?_; exact (Below.refl _ _).drew; rintro e w5 ⟨rfl, hb5⟩; have HB5 : Hid (Below wr.heap.size wr w5) := below_undr hb5; have HL5 : Hid (LocAt w5 _ x y u) := HLoc.out.below HB5.out; have q2 := HL5.out.c2; have r2 := HL5.out.f2; clear hb5))
          | fail)
         all_goals
          go_wp2_with fail
          go_roundw
          case rel => exact ⟨l + 1, by omega, by go_num, u, HMore.out, hu0, hu1, HL5.out, HBl.out.trans (HB5.out.mono HBl.out.size)⟩
          case measure => simp [intOf]; omega
      ·
       obtain rfl : k = l := by omega
       have HPass : Hid (passT s.bs M y = some u) := by
        have := HU.out
        rwa [List.take_of_length_le (by rw [HLen2.out.2.1]; omega)] at this
       have HYes : Hid (shStep s ⟨x, y, z⟩ = some ⟨s.bs.map fun b => b.take u y, u, s.out ++ [⟨x, y, u⟩]⟩) := by
        show _ = _
        unfold shStep
        simp only
        rw [HL.out, HMx.out, HPass.out]
       have HR0 : Hid (RsAt w wr (.slice (some ⟨G, 0, none⟩) k cap6) hs ms) := HWk.out.rs.below hbl
       have HOut0 : Hid (OwnP wr w.heap.size (.slice oa j ocap) s.out) := ownsRow_but HWk.out.out (But.ofBelow (S := fun _ => False) hbl) (fun _ _ h => h)
       have HBw : Hid (Below w.heap.size w wr) := HWk.out.below.trans (hbl.mono HWk.out.below.size)
       have e1 := hloc.c1
       have e2 := hloc.c2
       clear hu hbl d0 d1 d2 g2
       go_wp2_with fail
       go_loopw [14] (fun i wx => ∃ a : Nat, a ≤ k ∧ i = .int .i64 a ∧ ∃ ms', RsAt w wx (.slice (some ⟨G, 0, none⟩) k cap6) hs ms' ∧ ms'.length = k ∧ (∀ (l : Nat) b m, s.bs[l]? = some b → ms'[l]? = some m → RelB (if l < a then b.take u y else b) m) ∧ LocAt wx W.heap.size x y u ∧ OwnP wx w.heap.size (.slice oa j ocap) s.out ∧ Below w.heap.size w wx) (fun i _ => k - (intOf i).toNat)
       case atStart => exact ⟨0, Nat.zero_le _, rfl, ms, HR0.out, HLen2.out.2.2, fun l b m hb hm => by rw [if_neg (by omega)]; exact HWk.out.rel l b m hb hm, HLoc.out, HOut0.out, HBw.out⟩
       case round =>
        obtain ⟨a, hak, rfl, ms', hrs, hml, hrl, hlc, how, hbw⟩ := hrel
        have HRs' : Hid (RsAt w wr (.slice (some ⟨G, 0, none⟩) k cap6) hs ms') := hrs
        have HMl : Hid (ms'.length = k) := hml
        have HRl : Hid (∀ (l : Nat) b m, s.bs[l]? = some b → ms'[l]? = some m → RelB (if l < a then b.take u y else b) m) := hrl
        have HLc : Hid (LocAt wr W.heap.size x y u) := hlc
        have HOw : Hid (OwnP wr w.heap.size (.slice oa j ocap) s.out) := how
        have HBw' : Hid (Below w.heap.size w wr) := hbw
        by_cases han : a < k
        ·
         obtain ⟨bb, hbb, hbm⟩ := get_some s.bs a (by rw [HLen2.out.2.1]; exact han)
         obtain ⟨hq, hhq, hqm⟩ := get_some hs a (by rw [HLen2.out.1]; exact han)
         obtain ⟨m, hmm, -⟩ := get_some ms' a (by rw [HMl.out]; exact han)
         have hptr : wr.cell? ⟨G, a, none⟩ = some (.pointer (some ⟨hq, 0, none⟩)) := RsAt.ptr (cap := cap6) (by rw [HLen2.out.1]; exact hrs) a hq hhq
         have HBO : Hid (bb.Ok ∧ bb.last = L) := HOkB.out bb hbm
         have HRB : Hid (RelB bb m) := by have := hrl a bb m hbb hmm; rwa [if_neg (by omega)] at this
         have HAsk : Hid (askErr bb.last u y = 0) := askErr_ok.2 ⟨y1, y2, by omega, hu1, by rw [HBO.out.2]; omega⟩
         have HTk : Hid (∀ w', Below wr.heap.size wr w' → Calls Tryz.prog 105 #[.pointer (some ⟨hq, 0, none⟩), .int .i64 u, .int .i64 y] w' fun e w'' => e = .returned (.bool (decide (y * 1000 ≤ bb.lev u))) ∧ RbAt w'' hq (m.take u y) ∧ But (fun k => k = hq) w' w'') :=
          fun w' hb' => rtake_ok hq bb m u y w' ((hrs.rb a hq m hhq hmm).below hb') HBO.out.1 HRB.out HAsk.out
         have HQ : Hid (hs[a]? = some hq ∧ s.bs[a]? = some bb ∧ hq ∈ hs) := ⟨hhq, hbb, hqm⟩
         have i1 := hlc.c1
         have i2 := hlc.c2
         generalize decide (y * 1000 ≤ bb.lev u) = zz at *
         clear hrs hml hrl hlc how hbw hbb hhq hqm hmm hbm e1 e2 hloc
         go_wp2_with fail
         go_region_with (first
          | (go_simp; go_at_call 105; go_must (refine (HTk.out _ ?_).mono ?_; exact (Below.refl _ _).drew; rintro e w5 ⟨rfl, hk5, hb5⟩; have HK5 : Hid (RbAt w5 hq (m.take u y)) := hk5; have HB5 : Hid (But (fun k => k = hq) wr w5) := (But.ofBelow (Below.refl _ _).drew).trans hb5; clear hk5 hb5))
          | fail)
         all_goals
          go_wp2_with fail
          go_roundw
          case rel =>
           have hb5 := HB5.out
           have hqn := HRs'.out.new hq HQ.out.2.2
           have hqW := HWk.out.rs.lt hq HQ.out.2.2
           refine ⟨a + 1, by omega, by go_num, ms'.set a (m.take u y), HRs'.out.set a hq _ HQ.out.1 hb5 HK5.out, by simp [HMl.out], fun l b m2 hb hm2 => ?_, HLc.out.but hb5 (by omega), ownsRow_but HOw.out hb5 (fun i hi e => HWk.out.apart hq HQ.out.2.2 (by rw [hi, e])), HBw'.out.trans (hb5.one HBw'.out.size hqn.1)⟩
           by_cases hla : l = a
           ·
            subst hla
            rw [List.getElem?_set_self (by rw [HMl.out]; exact han)] at hm2
            cases hm2
            obtain rfl : b = bb := Option.some.inj (hb.symm.trans HQ.out.2.1)
            rw [if_pos (by omega)]
            exact HRB.out.take HBO.out.1 (by rw [HBO.out.2]; omega) y1
           ·
            rw [List.getElem?_set_ne (fun e => hla e.symm)] at hm2
            have := HRl.out l b m2 hb hm2
            by_cases hl' : l < a
            · rw [if_pos hl'] at this; rw [if_pos (by omega)]; exact this
            · rw [if_neg hl'] at this; rw [if_neg (by omega)]; exact this
          case measure => simp [intOf]; omega
        ·
         obtain rfl : k = a := by omega
         have i0 := hlc.c0
         have i1' := hlc.c1
         have i2 := hlc.c2
         have HTj : Hid (ps.take (j + 1) = ps.take j ++ [⟨x, y, z⟩]) := by show _ = _; rw [List.take_add_one, HPk.out]; rfl
         clear hrs hml hrl hlc how hbw e1 e2 hloc
         go_wp2_with (at_builtin; refine wpList_append_lies _ rfl _ _ 43 rfl w.heap.size 52 i1 (.agg #[.int .i64 0, .int .i64 0, .int .i64 0]) 3 24 Tryz.underlying43 hi1 hy0 hy1 hy2 rfl (by decide) (.slice oa j ocap) s.out.length (cellsP s.out) rfl (HOw.out.alloc _) ⟨wr.heap.size, 0, none⟩ 1 1 [.int .i64 x, .int .i64 y, .int .i64 u] rfl rfl (news3 (by simp) (by simp) (by simp)) (ints_three x y u) (by decide) (by have := HOl.out; unfold maxLen; omega) (by have := HOl.out; omega) (by have := HBw'.out.size; simp; omega) _ rfl ?_; intro g10 cap10 w10 ho10 hg10 hat10 hlt10)
         have HNext : Hid (RWork ls ps w w10 (.slice (some ⟨G, 0, none⟩) k cap6) hs ms' (.slice (some ⟨g10, 0, none⟩) (s.out.length + 1) cap10) (j + 1) ⟨s.bs.map fun b => b.take u y, u, s.out ++ [⟨x, y, u⟩]⟩) := by
          have hbt := grown_but hg10
          have hal : Below wr.heap.size wr (wr.alloc (.cells #[.int .i64 x, .int .i64 y, .int .i64 u] 52)) := (Below.refl _ _).alloc (Nat.le_refl _) _
          have hrsA := HRs'.out.below hal
          have hbA := HBw'.out.trans (hal.mono HBw'.out.size)
          have hH : (wr.alloc (.cells #[.int .i64 x, .int .i64 y, .int .i64 u] 52)).heap.size = wr.heap.size + 1 := by simp
          have hGlt : G < wr.heap.size := (World.ownsRow.lt HRs'.out.own G rfl).2
          refine ⟨?_, hrsA.but hbt (fun q hq e => HWk.out.apart2 q e hq) (fun q hq e => HWk.out.apart q hq e), ?_, fun i b m hb hm => ?_, OwnP.snoc ho10, fun q hq e => ?_, fun q hq e => ?_, hbA.trans (hbt.below hbA.size (fun q hq => (World.ownsRow.lt HOw.out q hq).1))⟩
          ·
           rw [HTj.out, shape_snoc, HWk.out.run]
           exact HYes.out
          · rw [List.length_map, HMl.out, HLen2.out.2.1]
          ·
           simp only [List.getElem?_map, Option.map_eq_some_iff] at hb
           obtain ⟨c, hc, rfl⟩ := hb
           have h1 := HRl.out i c m hc hm
           have hi : i < s.bs.length := by
            rcases Nat.lt_or_ge i s.bs.length with h | h
            · exact h
            · simp [List.getElem?_eq_none h] at hc
           rwa [if_pos (by rw [HLen2.out.2.1] at hi; exact hi)] at h1
          ·
           have e' : g10 = q := Option.some.inj e
           rcases hat10 with h | h
           · exact HWk.out.apart q hq (by rw [h, e'])
           · have := HRs'.out.lt q hq; omega
          ·
           have e1 : g10 = q := Option.some.inj hq
           have e2 : G = q := Option.some.inj e
           rcases hat10 with h | h
           · exact HWk.out.apart2 g10 h (by rw [e1]; exact e)
           · omega
         clear ho10 hg10 hat10 hlt10
         go_wp2_with fail
         go_roundw
         case rel => exact ⟨j + 1, by omega, by go_num, ms', _, HNext.out⟩
         case measure => simp [intOf]; omega
    ·
     clear hwk
     go_wp2_with fail
     go_ret2
     obtain rfl : j = n := by omega
     have h1 := HWk.out
     exact ⟨h1.below, .inl ⟨s, u8, by have := h1.run; rwa [List.take_of_length_le (by rw [HN.out]; omega)] at this, rfl, h1.out⟩⟩
end Go.Proofs.YtibhkijaafdkoaaGreatDoor

namespace Go.Proofs.YtibhkijaafdkoaaGreatDoor
open Go.RowKit
theorem never_one {ls : List (Int × Int)} {ps : List Pk} {j j' : Nat} {q q' : Pk} {s s' : Sh} (h1 : ps[j]? = some q) (h2 : shape ls (ps.take j) = some s) (h3 : shStep s q = none) (h1' : ps[j']? = some q') (h2' : shape ls (ps.take j') = some s') (h3' : shStep s' q' = none) : j = j' := by
 have key : ∀ (a b : Nat) (p : Pk) (u v : Sh), a < b → ps[a]? = some p → shape ls (ps.take a) = some u → shStep u p = none → shape ls (ps.take b) = some v → False := fun a b p u v hab e1 e2 e3 e4 => by
  have := shape_stuck (ls := ls) (ps := ps.take b) (j := a) (p := p) (s := u) (by rw [List.getElem?_take_of_lt hab]; exact e1) (by rw [List.take_take, Nat.min_eq_left (by omega)]; exact e2) e3
  rw [this] at e4; cases e4
 rcases Nat.lt_trichotomy j j' with h | h | h
 · exact (key j j' q s s' h h1 h2 h3 h2').elim
 · exact h
 · exact (key j' j q' s' s h h1' h2' h3' h2).elim
end Go.Proofs.YtibhkijaafdkoaaGreatDoor

namespace Go.Proofs.YtibhkijaafdkoaaGreatDoor
section
variable {cs : Nat → List (Int × Int)} {ps : List Pk}
theorem NeverAt.one (ho : OkPks ps) {i j : Nat} (h : NeverAt cs ps i) (k : NeverAt cs ps j) (hf : flowOf ps i = flowOf ps j) : i = j := by
 obtain ⟨p, s, h1, h2, h3, h4⟩ := h
 obtain ⟨q, t, k1, k2, k3, k4⟩ := k
 have hi := lt_of_get h1
 have hj := lt_of_get k1
 have ai := num_at ho hi (Nat.le_refl _)
 have aj := num_at ho hj (Nat.le_refl _)
 rw [← hf] at k2 k3 aj
 have hown := own_num ho (flowOf ps i) ps.length (Nat.le_refl _)
 have gi := (hown.2 _ _ ai).2.2.2
 have gj := (hown.2 _ _ aj).2.2.2
 have e := never_one (gi.trans h1) h3 h4 (gj.trans k1) k3 k4
 rw [e, aj] at ai
 exact (Option.some.inj ai).symm
theorem never_num (ho : OkPks ps) {f : Nat} (hc : cs f ≠ []) {r i : Nat} {p : Pk} {s : Sh} (hr : (numTo ps f ps.length)[r]? = some i) (h1 : (ownTo ps f ps.length)[r]? = some p) (h2 : shape (cs f) ((ownTo ps f ps.length).take r) = some s) (h3 : shStep s p = none) : NeverAt cs ps i ∧ flowOf ps i = f := by
 obtain ⟨g1, g2, g3, g4⟩ := (own_num ho f ps.length (Nat.le_refl _)).2 r i hr
 exact ⟨⟨p, s, g4.symm.trans h1, by rw [g2]; exact hc, by rw [g2, g3]; exact h2, h3⟩, g2⟩
theorem never_not (ho : OkPks ps) {f : Nat} {out : List Pk} (hs : shapedFl cs ps f = some out) {j : Nat} (hj : flowOf ps j = f) : ¬ NeverAt cs ps j := by
 rintro ⟨p, s, h1, h2, h3, h4⟩
 rw [hj] at h2 h3
 unfold shapedFl at hs
 rw [if_neg h2] at hs
 have hjl := lt_of_get h1
 have aj := num_at ho hjl (Nat.le_refl _)
 rw [hj] at aj
 have gj := ((own_num ho f ps.length (Nat.le_refl _)).2 _ _ aj).2.2.2
 rw [shape_stuck (gj.trans h1) h3 h4] at hs
 cases hs
def FlowsDone (cs : Nat → List (Int × Int)) (ps : List Pk) (f : Nat) (z : Int) (a : Nat → Int) : Prop :=
 (z = -1 ∧ ∀ g, g < f → ∃ out, shapedFl cs ps g = some out ∧ ∀ (r i : Nat), (numTo ps g ps.length)[r]? = some i → a i = tickOf out r) ∨
  (∃ i : Nat, z = i ∧ NeverAt cs ps i ∧ flowOf ps i < f ∧ ∀ j, NeverAt cs ps j → flowOf ps j < f → i ≤ j)
theorem flowsDone_none (a : Nat → Int) : FlowsDone cs ps 0 (-1) a := .inl ⟨rfl, fun _ h => absurd h (Nat.not_lt_zero _)⟩
theorem FlowsDone.range {f : Nat} {z : Int} {a : Nat → Int} (h : FlowsDone cs ps f z a) : z = -1 ∨ ∃ i : Nat, z = i ∧ i < ps.length := by
 rcases h with ⟨h, -⟩ | ⟨i, h, ⟨p, s, h1, -⟩, -⟩
 · exact .inl h
 · exact .inr ⟨i, h, lt_of_get h1⟩
theorem FlowsDone.shaped (ho : OkPks ps) {f : Nat} {z : Int} {a a' : Nat → Int} {out : List Pk} (h : FlowsDone cs ps f z a) (hs : shapedFl cs ps f = some out) (h1 : ∀ (r i : Nat), (numTo ps f ps.length)[r]? = some i → a' i = tickOf out r) (h2 : ∀ i, i ∉ numTo ps f ps.length → a' i = a i) : FlowsDone cs ps (f + 1) z a' := by
 rcases h with ⟨rfl, h⟩ | ⟨i, rfl, hi, hf, hall⟩
 ·
  refine .inl ⟨rfl, fun g hg => ?_⟩
  rcases Nat.lt_or_ge g f with h' | h'
  ·
   obtain ⟨o, e1, e2⟩ := h g h'
   refine ⟨o, e1, fun r i hr => ?_⟩
   rw [h2 i ?_]
   · exact e2 r i hr
   ·
    intro hm
    have m1 := num_mem.1 (List.mem_of_getElem? hr)
    have m2 := num_mem.1 hm
    omega
  ·
   obtain rfl : g = f := by omega
   exact ⟨out, hs, h1⟩
 ·
  refine .inr ⟨i, rfl, hi, by omega, fun j hj hjf => ?_⟩
  rcases Nat.lt_or_ge (flowOf ps j) f with h' | h'
  · exact hall j hj h'
  · exact absurd hj (never_not ho hs (by omega))
theorem FlowsDone.stuck (ho : OkPks ps) {f : Nat} {z : Int} {a a' : Nat → Int} {n : Nat} (h : FlowsDone cs ps f z a) (hn : NeverAt cs ps n) (hf : flowOf ps n = f) : FlowsDone cs ps (f + 1) (if z < 0 ∨ (n : Int) < z then (n : Int) else z) a' := by
 have self : ∀ j, NeverAt cs ps j → flowOf ps j < f + 1 → flowOf ps j < f ∨ j = n := fun j hj hjf => by
  rcases Nat.lt_or_ge (flowOf ps j) f with h' | h'
  · exact .inl h'
  · exact .inr (hj.one ho hn (by omega))
 rcases h with ⟨rfl, h⟩ | ⟨i, rfl, hi, hif, hall⟩
 ·
  rw [if_pos (.inl (by omega))]
  refine .inr ⟨n, rfl, hn, by omega, fun j hj hjf => ?_⟩
  rcases self j hj hjf with h' | h'
  ·
   obtain ⟨out, e1, -⟩ := h _ h'
   exact absurd hj (never_not ho e1 rfl)
  · omega
 ·
  by_cases hlt : n < i
  ·
   rw [if_pos (.inr (by omega))]
   refine .inr ⟨n, rfl, hn, by omega, fun j hj hjf => ?_⟩
   rcases self j hj hjf with h' | h'
   ·
    have := hall j hj h'
    omega
   · omega
  ·
   rw [if_neg (by omega)]
   refine .inr ⟨i, rfl, hi, by omega, fun j hj hjf => ?_⟩
   rcases self j hj hjf with h' | h'
   · exact hall j hj h'
   · omega
theorem FlowsDone.all (ho : OkPks ps) {z : Int} {a : Nat → Int} (h : FlowsDone cs ps 8 z a) : (z = -1 ∧ Shaped cs ps a ∧ ∀ i, ¬ NeverAt cs ps i) ∨ (∃ i : Nat, z = i ∧ NeverAt cs ps i ∧ ∀ j, j < i → ¬ NeverAt cs ps j) := by
 have fl : ∀ j, NeverAt cs ps j → flowOf ps j < 8 := fun j ⟨p, s, h1, _⟩ => flow_range ho (lt_of_get h1)
 rcases h with ⟨rfl, h⟩ | ⟨i, rfl, hi, hif, hall⟩
 ·
  refine .inl ⟨rfl, h, fun i hi => ?_⟩
  obtain ⟨out, e1, -⟩ := h _ (fl i hi)
  exact never_not ho e1 rfl hi
 · exact .inr ⟨i, rfl, hi, fun j hj hn => by have := hall j hn (fl j hn); omega⟩
end
theorem gatePks_put (ps : List Pk) (a : Nat → Int) (L : List Nat) (k i : Nat) {p : Pk} (hp : ps[i]? = some p) : (gatePks ps a L).take k ++ [(⟨p.flow, p.size, a i⟩ : Pk)] ++ (gatePks ps a L).drop k = gatePks ps a (L.take k ++ i :: L.drop k) := by
 simp [gatePks, gatePk_get hp, List.map_take, List.map_drop]
theorem order_low {a : Nat → Int} {n : Nat} {L : List Nat} (h : IsOrder a n L) {k m : Nat} (hm : L[k]? = some m) {t : Int} (ht : a m ≤ t) : ∀ (i : Nat) x, i < k + 1 → L[i]? = some x → a x ≤ t := fun i x hi hx => by
 rcases Nat.lt_or_ge i k with h' | h'
 ·
  have hil := lt_of_get hx
  have hkl := lt_of_get hm
  have hs := List.pairwise_iff_getElem.1 h.sorted i k hil hkl h'
  have e1 : L[i] = x := Option.some.inj ((List.getElem?_eq_getElem hil).symm.trans hx)
  have e2 : L[k] = m := Option.some.inj ((List.getElem?_eq_getElem hkl).symm.trans hm)
  rw [e1, e2] at hs
  rcases hs with hs | ⟨hs, -⟩ <;> omega
 ·
  obtain rfl : i = k := by omega
  rw [hm] at hx
  obtain rfl := Option.some.inj hx
  exact ht
end Go.Proofs.YtibhkijaafdkoaaGreatDoor

namespace Go.Proofs.YtibhkijaafdkoaaGreatDoor
open Go.RowKit
def ShapeAllEnd (cs : List (List (Int × Int))) (ps : List Pk) (ad : Nat → Addr) (w : World) (e : Ending) (w' : World) : Prop :=
 Below w.heap.size w w' ∧ ((∃ (i F : Nat), NeverAt (curveFl cs) ps i ∧ (∀ j, j < i → ¬ NeverAt (curveFl cs) ps j) ∧ e = .returned (.tuple #[.slice none 0 0, .iface 110 (.pointer (some ⟨F, 0, none⟩))]) ∧ w'.cell? ⟨F, 0, none⟩ = some (.int .i64 (i : Int)) ∧ w'.cell? ⟨F, 1, none⟩ = some (.iface 271 (.pointer (some (ad 3))))) ∨
  (∃ qa qcap at_ L, (∀ i, ¬ NeverAt (curveFl cs) ps i) ∧ Shaped (curveFl cs) ps at_ ∧ IsOrder at_ ps.length L ∧ e = .returned (.tuple #[.slice qa (gatePks ps at_ L).length qcap, .nilIface]) ∧ PksLie w' qa qcap (gatePks ps at_ L)))
structure FlowsAt (ps : List Pk) (f : Nat) (xs : Nat → Pk) : Prop where
 flow : ∀ i p, ps[i]? = some p → (xs i).flow = p.flow ∧ (xs i).size = p.size
 left : ∀ i p, ps[i]? = some p → f ≤ flowOf ps i → xs i = p
def tickAt (n : Nat) (xs : Nat → Pk) (i : Nat) : Int := if i < n then (xs i).tick else 0
section
variable {cs : Nat → List (Int × Int)} {ps : List Pk} {f : Nat} {z : Int} {xs ys : Nat → Pk}
theorem FlowsAt.nums (ho : OkPks ps) (h : FlowsAt ps f xs) : ∀ i, i < ps.length → ((xs i).flow == (f : Int)) = (flowOf ps i == f) := fun i hi => by
 have e : ps[i]? = some ps[i] := List.getElem?_eq_getElem hi
 rw [(h.flow i _ e).1]
 have := flow_is ho e f
 by_cases hf : flowOf ps i = f
 · rw [beq_iff_eq.2 (this.2 hf), beq_iff_eq.2 hf]
 · rw [beq_eq_false_iff_ne.2 (fun h' => hf (this.1 h')), beq_eq_false_iff_ne.2 hf]
theorem FlowsAt.own (ho : OkPks ps) (h : FlowsAt ps f xs) : ∀ (r i : Nat), (numTo ps f ps.length)[r]? = some i → (ownTo ps f ps.length)[r]? = some (xs i) := fun r i hr => by
 obtain ⟨g1, g2, -, g4⟩ := (own_num ho f ps.length (Nat.le_refl _)).2 r i hr
 have e : ps[i]? = some ps[i] := List.getElem?_eq_getElem g1
 rw [g4, e, h.left i _ e (by omega)]
theorem flows_skip (ho : OkPks ps) (hc : cs f = []) (h : FlowsAt ps f xs) (hd : FlowsDone cs ps f z (tickAt ps.length xs)) : FlowsAt ps (f + 1) xs ∧ FlowsDone cs ps (f + 1) z (tickAt ps.length xs) := by
 refine ⟨⟨h.flow, fun i p hi hf => h.left i p hi (by omega)⟩, hd.shaped ho (out := ownTo ps f ps.length) (by unfold shapedFl; rw [if_pos hc]) (fun r i hr => ?_) (fun _ _ => rfl)⟩
 have hlt := ((own_num ho f ps.length (Nat.le_refl _)).2 r i hr).1
 unfold tickAt
 rw [if_pos hlt, tickOf_get (h.own ho r i hr)]
theorem flows_shape (ho : OkPks ps) (hk : okCurve (cs f)) (hne : cs f ≠ []) (h : FlowsAt ps f xs) (hd : FlowsDone cs ps f z (tickAt ps.length xs)) {s : Sh} (hs : shape (cs f) (ownTo ps f ps.length) = some s) (h1 : ∀ (r i : Nat), (numTo ps f ps.length)[r]? = some i → s.out[r]? = some (ys i)) (h2 : ∀ i, i < ps.length → i ∉ numTo ps f ps.length → ys i = xs i) : FlowsAt ps (f + 1) ys ∧ FlowsDone cs ps (f + 1) z (tickAt ps.length ys) := by
 have hown := (own_ok ho f ps.length (Nat.le_refl _)).1
 have hg := shape_good hk _ s hown hs
 refine ⟨⟨fun i p hi => ?_, fun i p hi hf => ?_⟩, hd.shaped ho (out := s.out) (by unfold shapedFl; rw [if_neg hne, hs]; rfl) (fun r i hr => ?_) (fun i hi => ?_)⟩
 ·
  by_cases hm : i ∈ numTo ps f ps.length
  ·
   obtain ⟨r, hr, e⟩ := List.getElem_of_mem hm
   have e2 : (numTo ps f ps.length)[r]? = some i := by rw [List.getElem?_eq_getElem hr, e]
   have := hg.each r _ _ (h.own ho r i e2) (h1 r i e2)
   rw [this.1, this.2.1]
   exact h.flow i p hi
  ·
   rw [h2 i (lt_of_get hi) hm]
   exact h.flow i p hi
 ·
  have hm : i ∉ numTo ps f ps.length := fun hm => by have := (num_mem.1 hm).2; omega
  rw [h2 i (lt_of_get hi) hm]
  exact h.left i p hi (by omega)
 ·
  have hlt := ((own_num ho f ps.length (Nat.le_refl _)).2 r i hr).1
  unfold tickAt
  rw [if_pos hlt, tickOf_get (h1 r i hr)]
 ·
  unfold tickAt
  by_cases hlt : i < ps.length
  · rw [if_pos hlt, if_pos hlt, h2 i hlt hi]
  · rw [if_neg hlt, if_neg hlt]
theorem flows_stuck (ho : OkPks ps) (hne : cs f ≠ []) (h : FlowsAt ps f xs) (hd : FlowsDone cs ps f z (tickAt ps.length xs)) {r i : Nat} {p : Pk} {s : Sh} (hr : (numTo ps f ps.length)[r]? = some i) (h1 : (ownTo ps f ps.length)[r]? = some p) (h2 : shape (cs f) ((ownTo ps f ps.length).take r) = some s) (h3 : shStep s p = none) : FlowsAt ps (f + 1) xs ∧ FlowsDone cs ps (f + 1) (if z < 0 ∨ (i : Int) < z then (i : Int) else z) (tickAt ps.length xs) := by
 obtain ⟨g1, g2⟩ := never_num ho hne hr h1 h2 h3
 exact ⟨⟨h.flow, fun j q hj hf => h.left j q hj (by omega)⟩, hd.stuck ho g1 g2⟩
end
def stuckAt (n : Nat) (z : Int) : Int := if z < 0 then (n : Int) else z
theorem gatePk_at {ps : List Pk} {xs : Nat → Pk} (h : ∀ i p, ps[i]? = some p → (xs i).flow = p.flow ∧ (xs i).size = p.size) {i : Nat} (hi : i < ps.length) : gatePk ps (tickAt ps.length xs) i = xs i := by
 have e : ps[i]? = some ps[i] := List.getElem?_eq_getElem hi
 obtain ⟨h1, h2⟩ := h i _ e
 rw [gatePk_get e, ← h1, ← h2]
 unfold tickAt
 rw [if_pos hi]
theorem liesP_row {w : World} {g off n : Nat} {pk : Nat → Pk} {h : Nat → Nat} (hr : RowP w g off n pk h) : LiesP w (some ⟨g, off, none⟩) (((List.range n).map h).map pk) := by
 refine .inr ⟨g, off, rfl, hr.lt, fun i p hi => ?_⟩
 have hin : i < n := by have := lt_of_get hi; simpa using this
 have e : pk (h i) = p := by simpa [hin] using hi
 have c0 := hr.c0 i hin
 have c1 := hr.c1 i hin
 have c2 := hr.c2 i hin
 rw [e] at c0 c1 c2
 exact ⟨c0, c1, c2⟩
theorem row_of_own {w : World} {B g cap : Nat} {ps : List Pk} (h : OwnP w B (.slice (some ⟨g, 0, none⟩) ps.length cap) ps) (hg : g < w.heap.size) : RowP w g 0 ps.length (fun i => ps.getD i ⟨0, 0, 0⟩) (fun i => i) := by
 refine ⟨hg, fun i hi => ?_, fun i hi => ?_, fun i hi => ?_, fun j => World.ownsRow.frozenAt h j⟩
 all_goals
  have e : ps[i]? = some ps[i] := List.getElem?_eq_getElem hi
  have hc := cellsP_get ps i ps[i] e
  rw [Nat.zero_add, World.ownsRow.cellAt h _ (by omega)]
  simp only [List.getD, e, Option.getD_some]
 · exact hc.1
 · exact hc.2.1
 · exact hc.2.2
end Go.Proofs.YtibhkijaafdkoaaGreatDoor
