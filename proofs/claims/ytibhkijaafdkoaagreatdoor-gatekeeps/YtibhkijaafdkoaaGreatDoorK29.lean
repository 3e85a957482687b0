/- Own facts, put together: no statement of its own. -/
import Derived.BigRegion
import Derived.Test.YtibhkijaafdkoaaGreatDoorK28
import Derived.Test.YtibhkijaafdkoaaGreatDoorK17
namespace Go.Proofs.YtibhkijaafdkoaaGreatDoor
open Go.RowKit
theorem put1_put1 {α : Type} (f : Nat → α) (k : Nat) (x y : α) : put1 (put1 f k x) k y = put1 f k y := by
 funext i
 unfold put1
 split <;> rfl
set_option maxRecDepth 100000 in
set_option maxHeartbeats 4000000 in
theorem turnsServe (B g : Nat) (pv : Value) (qa : Option Addr) (qcap : Nat) (ns : List Int) (vq : Nat → Value) (F : Nat → Nat → Prop) (rv : Value) (d : Drr) (n : Nat) (w : World) (h : TurnsAt B g pv (.slice qa ns.length qcap) w vq F rv d n) (hl : LiesN w qa ns) (hns : NumsOk 1 3000 ns) (f : Nat) (r : List Nat) (hr : d.row = f :: r) (hf : f < 8) (hc0 : 0 ≤ d.cr f) (hc1 : d.cr f ≤ 1000000) (hrl : d.row.length ≤ 8) (hB : B ≤ w.heap.size) (hqB : ∀ ad, qa = some ad → ad.block < B) :
  Calls Tryz.prog 138 #[.pointer (some ⟨g, 0, none⟩)] w fun e w' => e = .returned (.tuple #[]) ∧ ComeEnd B g pv (.slice qa ns.length qcap) w w' F rv (d.turn (quOf ns) f r) n := by
 obtain ⟨qb, off, rfl, hlt, hcN⟩ := hl.place (by rw [hns.len]; omega)
 obtain ⟨x, hx, -⟩ := get_some ns f (by rw [hns.len]; exact hf)
 have hxr := hns.each f x hx
 have HQ : Hid (quOf ns f = x) := quOf_get hx
 have cx := hcN f x hx
 have hown := h.row
 rw [hr] at hown hrl
 rw [← asInts_length] at hown
 obtain ⟨rb, cap, hrv, hlc, hcm, hcell⟩ := own_some hown (by rw [asInts_length]; simp)
 subst hrv
 have crf : w.cell? ⟨rb, 0, none⟩ = some (.int .i64 (f : Int)) := hcell 0 _ rfl
 have c18 := h.cells.cr_
 have c19 := h.cells.cs
 have f19 := h.cells.free 19
 have HT1 : Hid (TurnsAt B g pv (.slice (some ⟨qb, off, none⟩) ns.length qcap) (w.setCell ⟨g, 19, none⟩ (.int .i64 (f : Int))) vq F (.slice (some ⟨rb, 0, none⟩) (asInts (f :: r)).length cap) { d with srv := some f } n) := h.setS (some f) rfl
 have hlen2 : (asInts (f :: r)).length = r.length + 1 := by rw [asInts_length]; rfl
 have HDel : Hid (Calls Tryz.prog 165 #[.slice (some ⟨rb, 0, none⟩) (r.length + 1) cap, .int .i64 0, .int .i64 1] (w.setCell ⟨g, 19, none⟩ (.int .i64 (f : Int))) fun e w' => e = .returned (.slice (some ⟨rb, 0, none⟩) r.length cap) ∧ w'.ownsRow B 3 1 (.slice (some ⟨rb, 0, none⟩) r.length cap) r.length (ints (asInts r)) ∧ But (fun k => k = rb) (w.setCell ⟨g, 19, none⟩ (.int .i64 (f : Int))) w') := by
  have h1 := HT1.out.row
  have e : ({ d with srv := some f } : Drr).row = f :: r := hr
  rw [e] at h1
  have hd := delete_one B rb cap 0 (asInts (f :: r)) (w.setCell ⟨g, 19, none⟩ (.int .i64 (f : Int))) (by rw [hlen2] at h1 ⊢; exact h1) (by rw [hlen2]; omega) hlc hcm
  rw [hlen2] at hd
  exact hd
 rw [hlen2] at c18 hlc
 rw [hlen2] at HT1
 obtain ⟨m, hm⟩ : ∃ m, r.length = m := ⟨_, rfl⟩
 have HM : Hid (r.length = m) := hm
 obtain ⟨c, hcr⟩ : ∃ c, d.cr f = c := ⟨_, rfl⟩
 have HCr : Hid (d.cr f = c) := hcr
 rw [hcr] at hc0 hc1
 rw [hm] at HDel HT1 c18 hlc
 have h8 := hns.len
 rw [h8] at HT1
 have hm8 : m ≤ 8 := by rw [← hm]; simp at hrl; omega
 have HFr : Hid (∀ W, Below B w W → W.cell? ⟨qb, off + f, none⟩ = some (.int .i64 x)) := fun W hb => by
  rw [hb.cell (p := ⟨qb, off + f, none⟩) (show qb < B from hqB ⟨qb, off, none⟩ rfl)]; exact cx
 unfold maxLen at hcm
 have HBB : Hid (B ≤ w.heap.size) := hB
 have HLen : Hid ((asInts (f :: r)).length = m + 1) := by rw [← hm]; exact hlen2
 have HFoot : Hid (∀ k, turnFoot g F (.slice (some ⟨rb, 0, none⟩) (m + 1) cap) k → B ≤ k) := fun k hk => (h.foot k hk).1
 clear h hl hcN hown hcell hx hr hm hcr hns hqB cx
 go_enter Tryz.func138, Tryz.ntmps138
 go_wp2_with fail
 refine HDel.out.mono ?_
 rintro e w2 ⟨rfl, hown2, hbut2⟩
 have HO : Hid (w2.ownsRow B 3 1 (.slice (some ⟨rb, 0, none⟩) m cap) m (ints (asInts r)) ∧ But (fun k => k = rb) (w.setCell ⟨g, 19, none⟩ (.int .i64 (f : Int))) w2) := ⟨hown2, hbut2⟩
 have hc2 := HT1.out.cells.but hbut2 (fun e => HT1.out.rowg (by rw [e]; rfl))
 have y1 := hc2.cr_
 have y2 := hc2.free 18
 clear hown2 hbut2 hc2
 go_wp2_with fail
 have HT2 : Hid (TurnsAt B g pv (.slice (some ⟨qb, off, none⟩) 8 qcap) (w2.setCell ⟨g, 18, none⟩ (.slice (some ⟨rb, 0, none⟩) m cap)) vq F (.slice (some ⟨rb, 0, none⟩) m cap) { d with srv := some f, row := r } n) := HT1.out.setR (HO.out.2.mono fun k hk => by rw [hk]; rfl) (by rw [HM.out]; exact HO.out.1) (fun k hk => .inl hk)
 have HBt : Hid (But (turnFoot g F (.slice (some ⟨rb, 0, none⟩) (m + 1) cap)) w (w2.setCell ⟨g, 18, none⟩ (.slice (some ⟨rb, 0, none⟩) m cap))) := (((butG _ _ _ _).mono fun j hj => .inl hj).trans (HO.out.2.mono fun j hj => .inr (.inr (by rw [hj]; rfl)))).trans ((butG _ _ _ _).mono fun j hj => .inl hj)
 have HBel : Hid (Below B w (w2.setCell ⟨g, 18, none⟩ (.slice (some ⟨rb, 0, none⟩) m cap))) := HBt.out.below HBB.out (fun k hk => HFoot.out k hk)
 obtain ⟨V, hV⟩ : ∃ V, w2.setCell ⟨g, 18, none⟩ (.slice (some ⟨rb, 0, none⟩) m cap) = V := ⟨_, rfl⟩
 rw [hV] at HT2 HBt HBel ⊢
 have v1 : V.cell? ⟨g, 1, none⟩ = some (.slice (some ⟨qb, off, none⟩) 8 qcap) := HT2.out.cells.c1
 have v2 : V.cell? ⟨g, 10 + f, none⟩ = some (.int .i64 c) := by rw [← HCr.out]; exact HT2.out.cells.cc f hf
 have v3 : V.cell? ⟨g, 19, none⟩ = some (.int .i64 (f : Int)) := HT2.out.cells.cs
 have v4 := HFr.out V HBel.out
 have v5 := HT2.out.cells.free (10 + f)
 have hfi : (f : Int) < 8 := by omega
 have hwr : IntKind.i64.wrap (c + x) = c + x := IntWalk.i64_in _ (by omega)
 clear hV y1 y2 c18 c19 f19 crf
 go_region
 all_goals
  go_wp2_with fail
  go_end0
  have e : d.turn (quOf ns) f r = { d with srv := some f, row := r, cr := put1 d.cr f (c + x) } := by unfold Drr.turn; rw [HCr.out, HQ.out]
  rw [e, h8, HLen.out]
  refine ⟨rfl, ⟨_, _, _, (HT2.out.setC hf (c + x)).later (Below.refl _ _).drew, fun j hj => ?_⟩, ?_⟩
  · exact foot_setR (fun k hk => .inl hk) hj
  · exact (HBt.out.trans ((butG _ _ _ _).mono fun j hj => .inl hj)).drew
end Go.Proofs.YtibhkijaafdkoaaGreatDoor

namespace Go.Proofs.YtibhkijaafdkoaaGreatDoor
open Go.RowKit
set_option maxRecDepth 100000 in
set_option maxHeartbeats 4000000 in
theorem turnsTake_more (B g k pb off pcap L : Nat) (qv : Value) (vq : Nat → Value) (F : Nat → Nat → Prop) (rv : Value) (d : Drr) (n : Nat) (w : World) (h : TurnsAt B g (.slice (some ⟨pb, off, none⟩) L pcap) qv w vq F rv d (n + 1)) (y : Int) (hcp : ∀ W, Below B w W → W.cell? ⟨pb, off + k * 3 + 1, none⟩ = some (.int .i64 y)) (hy0 : 0 ≤ y) (hkl : k < L) (f : Nat) (r : List Nat) (hs : d.srv = some f) (hf : f < 8) (hc0 : 0 ≤ d.cr f) (hc1 : d.cr f ≤ 1000000) (hy : y ≤ d.cr f) (hn : n ≤ 1000) (hr3 : r.length ≤ 300) (hB : B ≤ w.heap.size) (qb qo cap : Nat) (hv : vq f = .slice (some ⟨qb, qo, none⟩) (r.length + 1) cap) (hmx : cap ≤ maxLen) (ck : w.cell? ⟨qb, qo, none⟩ = some (.int .i64 (k : Int))) (h1 : 1 < cap) (hsl : Slides w B (.slice (some ⟨qb, qo + 1, none⟩) r.length (cap - 1)) (F f) r) (hr : r ≠ []) :
  Calls Tryz.prog 140 #[.pointer (some ⟨g, 0, none⟩)] w fun e w' => e = .returned (.int .i64 (k : Int)) ∧ ComeEnd B g (.slice (some ⟨pb, off, none⟩) L pcap) qv w w' F rv { d with qs := put1 d.qs f r, cr := put1 d.cr f (d.cr f - y) } n := by
 have HT : Hid (TurnsAt B g (.slice (some ⟨pb, off, none⟩) L pcap) qv w vq F rv d (n + 1)) := h
 have cs : w.cell? ⟨g, 19, none⟩ = some (.int .i64 (f : Int)) := by have := h.cells.cs; rw [hs] at this; exact this
 have cq := h.cells.cq f hf
 rw [hv] at cq
 have fq := h.cells.free (2 + f)
 obtain ⟨m, hm⟩ : ∃ m, r.length = m := ⟨_, rfl⟩
 have HM : Hid (r.length = m) := hm
 obtain ⟨c, hcr⟩ : ∃ c, d.cr f = c := ⟨_, rfl⟩
 have HCr : Hid (d.cr f = c) := hcr
 rw [hcr] at hc0 hc1 hy
 rw [hm] at cq hr3 hsl
 have HFoot : Hid (∀ k, turnFoot g F rv k → B ≤ k) := fun k hk => (h.foot k hk).1
 have HBB : Hid (B ≤ w.heap.size) := hB
 have HCp : Hid (∀ W, Below B w W → W.cell? ⟨pb, off + k * 3 + 1, none⟩ = some (.int .i64 y)) := hcp
 have hfi : (f : Int) < 8 := by omega
 have hki : (k : Int) < (L : Int) := by omega
 have hm0 : 0 < m := by rw [← hm]; exact List.length_pos_iff.2 hr
 have hmd : ((m : Int) == 0) = false := by simp; omega
 unfold maxLen at hmx
 have HT1 : Hid (TurnsAt B g (.slice (some ⟨pb, off, none⟩) L pcap) qv (w.setCell ⟨g, 2 + f, none⟩ (.slice (some ⟨qb, qo + 1, none⟩) m (cap - 1))).drew (put1 vq f (.slice (some ⟨qb, qo + 1, none⟩) m (cap - 1))) (put1 F f (F f)) rv { d with qs := put1 d.qs f r } (n + 1)) := (h.setQ hf (But.refl _ _) hsl (fun _ hk => .inl hk)).later (Below.refl _ _).drew
 have HBt : Hid (But (turnFoot g F rv) w (w.setCell ⟨g, 2 + f, none⟩ (.slice (some ⟨qb, qo + 1, none⟩) m (cap - 1))).drew) := ((butG _ _ _ _).mono fun j hj => .inl hj).drew
 clear h hs hv hm hcr hB hcp
 go_enter Tryz.func140, Tryz.ntmps140
 go_wp2_with fail
 go_region
 obtain ⟨V, hV⟩ : ∃ V, (w.setCell ⟨g, 2 + f, none⟩ (.slice (some ⟨qb, qo + 1, none⟩) m (cap - 1))).drew = V := ⟨_, rfl⟩
 rw [hV] at HT1 HBt ⊢
 have HBel : Hid (Below B w V) := HBt.out.below HBB.out (fun k hk => HFoot.out k hk)
 have v0 := HT1.out.cells.c0
 have v2 : V.cell? ⟨g, 10 + f, none⟩ = some (.int .i64 c) := by rw [← HCr.out]; exact HT1.out.cells.cc f hf
 have v4 := HCp.out V HBel.out
 have v5 := HT1.out.cells.free (10 + f)
 have hwr : IntKind.i64.wrap (c - y) = c - y := IntWalk.i64_in _ (by omega)
 have HT2 : Hid (TurnsAt B g (.slice (some ⟨pb, off, none⟩) L pcap) qv (V.setCell ⟨g, 10 + f, none⟩ (.int .i64 (c - y))).drew (put1 vq f (.slice (some ⟨qb, qo + 1, none⟩) m (cap - 1))) (put1 F f (F f)) rv { d with qs := put1 d.qs f r, cr := put1 d.cr f (c - y) } (n + 1)) := (HT1.out.setC hf (c - y)).later (Below.refl _ _).drew
 have HBt2 : Hid (But (turnFoot g F rv) w (V.setCell ⟨g, 10 + f, none⟩ (.int .i64 (c - y))).drew) := (HBt.out.trans ((butG _ _ _ _).mono fun j hj => .inl hj)).drew
 clear hV cs cq fq ck
 go_wp2_with fail
 go_region
 obtain ⟨U, hU⟩ : ∃ U, (V.setCell ⟨g, 10 + f, none⟩ (.int .i64 (c - y))).drew = U := ⟨_, rfl⟩
 rw [hU] at HT2 HBt2 ⊢
 have u1 : U.cell? ⟨g, 20, none⟩ = some (.int .i64 (((n + 1 : Nat)) : Int)) := HT2.out.cells.cn
 have u2 := HT2.out.cells.free 20
 have HT3 : Hid (TurnsAt B g (.slice (some ⟨pb, off, none⟩) L pcap) qv (U.setCell ⟨g, 20, none⟩ (.int .i64 (n : Int))) (put1 vq f (.slice (some ⟨qb, qo + 1, none⟩) m (cap - 1))) (put1 F f (F f)) rv { d with qs := put1 d.qs f r, cr := put1 d.cr f (c - y) } n) := HT2.out.setN n rfl
 have u3 : (U.setCell ⟨g, 20, none⟩ (.int .i64 (n : Int))).cell? ⟨g, 2 + f, none⟩ = some (.slice (some ⟨qb, qo + 1, none⟩) m (cap - 1)) := by have := HT3.out.cells.cq f hf; rwa [put1_same] at this
 have hn1 : (((n + 1 : Nat)) : Int) - 1 = (n : Int) := by omega
 rw [show (((n + 1 : Nat)) : Int) = (n : Int) + 1 by omega] at u1
 clear hU v0 v2 v4 v5
 go_wp2_with fail
 go_ret
 rw [HCr.out]
 refine ⟨rfl, ⟨_, _, _, HT3.out, fun j hj => foot_setQ hf (fun _ hk => .inl hk) hj⟩, ?_⟩
 exact HBt2.out.trans ((butG _ _ _ _).mono fun j hj => .inl hj)
set_option maxRecDepth 100000 in
set_option maxHeartbeats 4000000 in
theorem turnsTake_last (B g k pb off pcap L : Nat) (qv : Value) (vq : Nat → Value) (F : Nat → Nat → Prop) (rv : Value) (d : Drr) (n : Nat) (w : World) (h : TurnsAt B g (.slice (some ⟨pb, off, none⟩) L pcap) qv w vq F rv d (n + 1)) (y : Int) (hcp : ∀ W, Below B w W → W.cell? ⟨pb, off + k * 3 + 1, none⟩ = some (.int .i64 y)) (hy0 : 0 ≤ y) (hkl : k < L) (f : Nat) (hs : d.srv = some f) (hf : f < 8) (hc0 : 0 ≤ d.cr f) (hc1 : d.cr f ≤ 1000000) (hy : y ≤ d.cr f) (hn : n ≤ 1000) (hr3 : ([] : List Nat).length ≤ 300) (hB : B ≤ w.heap.size) (qb qo cap : Nat) (hv : vq f = .slice (some ⟨qb, qo, none⟩) (([] : List Nat).length + 1) cap) (hmx : cap ≤ maxLen) (ck : w.cell? ⟨qb, qo, none⟩ = some (.int .i64 (k : Int))) (h1 : 1 < cap) (hsl : Slides w B (.slice (some ⟨qb, qo + 1, none⟩) ([] : List Nat).length (cap - 1)) (F f) []) :
  Calls Tryz.prog 140 #[.pointer (some ⟨g, 0, none⟩)] w fun e w' => e = .returned (.int .i64 (k : Int)) ∧ ComeEnd B g (.slice (some ⟨pb, off, none⟩) L pcap) qv w w' F rv { d with qs := put1 d.qs f [], cr := put1 d.cr f 0, srv := none } n := by
 have HT : Hid (TurnsAt B g (.slice (some ⟨pb, off, none⟩) L pcap) qv w vq F rv d (n + 1)) := h
 have cs : w.cell? ⟨g, 19, none⟩ = some (.int .i64 (f : Int)) := by have := h.cells.cs; rw [hs] at this; exact this
 have cq := h.cells.cq f hf
 rw [hv] at cq
 have fq := h.cells.free (2 + f)
 obtain ⟨m, hm⟩ : ∃ m, ([] : List Nat).length = m := ⟨_, rfl⟩
 have HM : Hid (([] : List Nat).length = m) := hm
 obtain ⟨c, hcr⟩ : ∃ c, d.cr f = c := ⟨_, rfl⟩
 have HCr : Hid (d.cr f = c) := hcr
 rw [hcr] at hc0 hc1 hy
 rw [hm] at cq hr3 hsl
 have HFoot : Hid (∀ k, turnFoot g F rv k → B ≤ k) := fun k hk => (h.foot k hk).1
 have HBB : Hid (B ≤ w.heap.size) := hB
 have HCp : Hid (∀ W, Below B w W → W.cell? ⟨pb, off + k * 3 + 1, none⟩ = some (.int .i64 y)) := hcp
 have hfi : (f : Int) < 8 := by omega
 have hki : (k : Int) < (L : Int) := by omega
 have hm0 : m = 0 := by rw [← hm]; rfl
 subst hm0
 unfold maxLen at hmx
 have HT1 : Hid (TurnsAt B g (.slice (some ⟨pb, off, none⟩) L pcap) qv (w.setCell ⟨g, 2 + f, none⟩ (.slice (some ⟨qb, qo + 1, none⟩) 0 (cap - 1))).drew (put1 vq f (.slice (some ⟨qb, qo + 1, none⟩) 0 (cap - 1))) (put1 F f (F f)) rv { d with qs := put1 d.qs f [] } (n + 1)) := (h.setQ hf (But.refl _ _) hsl (fun _ hk => .inl hk)).later (Below.refl _ _).drew
 have HBt : Hid (But (turnFoot g F rv) w (w.setCell ⟨g, 2 + f, none⟩ (.slice (some ⟨qb, qo + 1, none⟩) 0 (cap - 1))).drew) := ((butG _ _ _ _).mono fun j hj => .inl hj).drew
 have HEnd : Hid (({ d with qs := put1 d.qs f [], cr := put1 d.cr f 0, srv := none } : Drr) = { d with qs := put1 d.qs f [], cr := put1 (put1 d.cr f (c - y)) f 0, srv := none }) := by
  show _ = _
  rw [put1_put1]
 clear h hs hv hm hcr hB hcp
 go_enter Tryz.func140, Tryz.ntmps140
 go_wp2_with fail
 go_region
 obtain ⟨V, hV⟩ : ∃ V, (w.setCell ⟨g, 2 + f, none⟩ (.slice (some ⟨qb, qo + 1, none⟩) 0 (cap - 1))).drew = V := ⟨_, rfl⟩
 rw [hV] at HT1 HBt ⊢
 have HBel : Hid (Below B w V) := HBt.out.below HBB.out (fun k hk => HFoot.out k hk)
 have v0 := HT1.out.cells.c0
 have v2 : V.cell? ⟨g, 10 + f, none⟩ = some (.int .i64 c) := by rw [← HCr.out]; exact HT1.out.cells.cc f hf
 have v4 := HCp.out V HBel.out
 have v5 := HT1.out.cells.free (10 + f)
 have hwr : IntKind.i64.wrap (c - y) = c - y := IntWalk.i64_in _ (by omega)
 have HT2 : Hid (TurnsAt B g (.slice (some ⟨pb, off, none⟩) L pcap) qv (V.setCell ⟨g, 10 + f, none⟩ (.int .i64 (c - y))).drew (put1 vq f (.slice (some ⟨qb, qo + 1, none⟩) 0 (cap - 1))) (put1 F f (F f)) rv { d with qs := put1 d.qs f [], cr := put1 d.cr f (c - y) } (n + 1)) := (HT1.out.setC hf (c - y)).later (Below.refl _ _).drew
 have HBt2 : Hid (But (turnFoot g F rv) w (V.setCell ⟨g, 10 + f, none⟩ (.int .i64 (c - y))).drew) := (HBt.out.trans ((butG _ _ _ _).mono fun j hj => .inl hj)).drew
 clear hV cs cq fq ck
 go_wp2_with fail
 go_region
 obtain ⟨U, hU⟩ : ∃ U, (V.setCell ⟨g, 10 + f, none⟩ (.int .i64 (c - y))).drew = U := ⟨_, rfl⟩
 rw [hU] at HT2 HBt2 ⊢
 have u1 : U.cell? ⟨g, 20, none⟩ = some (.int .i64 (((n + 1 : Nat)) : Int)) := HT2.out.cells.cn
 have u2 := HT2.out.cells.free 20
 have HT3 : Hid (TurnsAt B g (.slice (some ⟨pb, off, none⟩) L pcap) qv (U.setCell ⟨g, 20, none⟩ (.int .i64 (n : Int))) (put1 vq f (.slice (some ⟨qb, qo + 1, none⟩) 0 (cap - 1))) (put1 F f (F f)) rv { d with qs := put1 d.qs f [], cr := put1 d.cr f (c - y) } n) := HT2.out.setN n rfl
 have u3 : (U.setCell ⟨g, 20, none⟩ (.int .i64 (n : Int))).cell? ⟨g, 2 + f, none⟩ = some (.slice (some ⟨qb, qo + 1, none⟩) 0 (cap - 1)) := by have := HT3.out.cells.cq f hf; rwa [put1_same] at this
 have HT4 : Hid (TurnsAt B g (.slice (some ⟨pb, off, none⟩) L pcap) qv ((U.setCell ⟨g, 20, none⟩ (.int .i64 (n : Int))).setCell ⟨g, 10 + f, none⟩ (.int .i64 0)) (put1 vq f (.slice (some ⟨qb, qo + 1, none⟩) 0 (cap - 1))) (put1 F f (F f)) rv { d with qs := put1 d.qs f [], cr := put1 (put1 d.cr f (c - y)) f 0 } n) := HT3.out.setC hf 0
 have u4 := HT3.out.cells.cc f hf
 have u5 := HT3.out.cells.free (10 + f)
 have u6 := HT4.out.cells.cs
 have u7 := HT4.out.cells.free 19
 have hn1 : (((n + 1 : Nat)) : Int) - 1 = (n : Int) := by omega
 rw [show (((n + 1 : Nat)) : Int) = (n : Int) + 1 by omega] at u1
 clear hU v0 v2 v4 v5
 go_wp2_with fail
 go_ret
 rw [HEnd.out]
 refine ⟨rfl, ⟨_, _, _, HT4.out.setS none rfl, fun j hj => foot_setQ hf (fun _ hk => .inl hk) hj⟩, ?_⟩
 exact ((HBt2.out.trans ((butG _ _ _ _).mono fun j hj => .inl hj)).trans ((butG _ _ _ _).mono fun j hj => .inl hj)).trans ((butG _ _ _ _).mono fun j hj => .inl hj)
set_option maxRecDepth 100000 in
set_option maxHeartbeats 4000000 in
theorem turnsTake_one (B g k pb off pcap L : Nat) (qv : Value) (vq : Nat → Value) (F : Nat → Nat → Prop) (rv : Value) (d : Drr) (n : Nat) (w : World) (h : TurnsAt B g (.slice (some ⟨pb, off, none⟩) L pcap) qv w vq F rv d (n + 1)) (y : Int) (hcp : ∀ W, Below B w W → W.cell? ⟨pb, off + k * 3 + 1, none⟩ = some (.int .i64 y)) (hy0 : 0 ≤ y) (hkl : k < L) (f : Nat) (hs : d.srv = some f) (hf : f < 8) (hc0 : 0 ≤ d.cr f) (hc1 : d.cr f ≤ 1000000) (hy : y ≤ d.cr f) (hn : n ≤ 1000) (hr3 : ([] : List Nat).length ≤ 300) (hB : B ≤ w.heap.size) (qb qo cap : Nat) (hv : vq f = .slice (some ⟨qb, qo, none⟩) (([] : List Nat).length + 1) cap) (hcap : ([] : List Nat).length + 1 ≤ cap) (hmx : cap ≤ maxLen) (ck : w.cell? ⟨qb, qo, none⟩ = some (.int .i64 (k : Int))) (h1 : cap = 1) (hsl : Slides w B (.slice (some ⟨qb, qo, none⟩) 0 0) (F f) []) :
  Calls Tryz.prog 140 #[.pointer (some ⟨g, 0, none⟩)] w fun e w' => e = .returned (.int .i64 (k : Int)) ∧ ComeEnd B g (.slice (some ⟨pb, off, none⟩) L pcap) qv w w' F rv { d with qs := put1 d.qs f [], cr := put1 d.cr f 0, srv := none } n := by
 have HT : Hid (TurnsAt B g (.slice (some ⟨pb, off, none⟩) L pcap) qv w vq F rv d (n + 1)) := h
 have cs : w.cell? ⟨g, 19, none⟩ = some (.int .i64 (f : Int)) := by have := h.cells.cs; rw [hs] at this; exact this
 have cq := h.cells.cq f hf
 rw [hv] at cq
 have fq := h.cells.free (2 + f)
 obtain ⟨m, hm⟩ : ∃ m, ([] : List Nat).length = m := ⟨_, rfl⟩
 have HM : Hid (([] : List Nat).length = m) := hm
 obtain ⟨c, hcr⟩ : ∃ c, d.cr f = c := ⟨_, rfl⟩
 have HCr : Hid (d.cr f = c) := hcr
 rw [hcr] at hc0 hc1 hy
 rw [hm] at cq hcap hr3
 have HFoot : Hid (∀ k, turnFoot g F rv k → B ≤ k) := fun k hk => (h.foot k hk).1
 have HBB : Hid (B ≤ w.heap.size) := hB
 have HCp : Hid (∀ W, Below B w W → W.cell? ⟨pb, off + k * 3 + 1, none⟩ = some (.int .i64 y)) := hcp
 have hfi : (f : Int) < 8 := by omega
 have hki : (k : Int) < (L : Int) := by omega
 obtain rfl : m = 0 := by omega
 subst h1
 unfold maxLen at hmx
 have HT1 : Hid (TurnsAt B g (.slice (some ⟨pb, off, none⟩) L pcap) qv (w.setCell ⟨g, 2 + f, none⟩ (.slice (some ⟨qb, qo, none⟩) 0 0)).drew (put1 vq f (.slice (some ⟨qb, qo, none⟩) 0 0)) (put1 F f (F f)) rv { d with qs := put1 d.qs f [] } (n + 1)) := (h.setQ hf (But.refl _ _) hsl (fun _ hk => .inl hk)).later (Below.refl _ _).drew
 have HBt : Hid (But (turnFoot g F rv) w (w.setCell ⟨g, 2 + f, none⟩ (.slice (some ⟨qb, qo, none⟩) 0 0)).drew) := ((butG _ _ _ _).mono fun j hj => .inl hj).drew
 have HEnd : Hid (({ d with qs := put1 d.qs f [], cr := put1 d.cr f 0, srv := none } : Drr) = { d with qs := put1 d.qs f [], cr := put1 (put1 d.cr f (c - y)) f 0, srv := none }) := by
  show _ = _
  rw [put1_put1]
 clear h hs hv hm hcr hB hcp
 go_enter Tryz.func140, Tryz.ntmps140
 go_wp2_with fail
 go_region
 obtain ⟨V, hV⟩ : ∃ V, (w.setCell ⟨g, 2 + f, none⟩ (.slice (some ⟨qb, qo, none⟩) 0 0)).drew = V := ⟨_, rfl⟩
 rw [hV] at HT1 HBt ⊢
 have HBel : Hid (Below B w V) := HBt.out.below HBB.out (fun k hk => HFoot.out k hk)
 have v0 := HT1.out.cells.c0
 have v2 : V.cell? ⟨g, 10 + f, none⟩ = some (.int .i64 c) := by rw [← HCr.out]; exact HT1.out.cells.cc f hf
 have v4 := HCp.out V HBel.out
 have v5 := HT1.out.cells.free (10 + f)
 have hwr : IntKind.i64.wrap (c - y) = c - y := IntWalk.i64_in _ (by omega)
 have HT2 : Hid (TurnsAt B g (.slice (some ⟨pb, off, none⟩) L pcap) qv (V.setCell ⟨g, 10 + f, none⟩ (.int .i64 (c - y))).drew (put1 vq f (.slice (some ⟨qb, qo, none⟩) 0 0)) (put1 F f (F f)) rv { d with qs := put1 d.qs f [], cr := put1 d.cr f (c - y) } (n + 1)) := (HT1.out.setC hf (c - y)).later (Below.refl _ _).drew
 have HBt2 : Hid (But (turnFoot g F rv) w (V.setCell ⟨g, 10 + f, none⟩ (.int .i64 (c - y))).drew) := (HBt.out.trans ((butG _ _ _ _).mono fun j hj => .inl hj)).drew
 clear hV cs cq fq ck
 go_wp2_with fail
 go_region
 obtain ⟨U, hU⟩ : ∃ U, (V.setCell ⟨g, 10 + f, none⟩ (.int .i64 (c - y))).drew = U := ⟨_, rfl⟩
 rw [hU] at HT2 HBt2 ⊢
 have u1 : U.cell? ⟨g, 20, none⟩ = some (.int .i64 (((n + 1 : Nat)) : Int)) := HT2.out.cells.cn
 have u2 := HT2.out.cells.free 20
 have HT3 : Hid (TurnsAt B g (.slice (some ⟨pb, off, none⟩) L pcap) qv (U.setCell ⟨g, 20, none⟩ (.int .i64 (n : Int))) (put1 vq f (.slice (some ⟨qb, qo, none⟩) 0 0)) (put1 F f (F f)) rv { d with qs := put1 d.qs f [], cr := put1 d.cr f (c - y) } n) := HT2.out.setN n rfl
 have u3 : (U.setCell ⟨g, 20, none⟩ (.int .i64 (n : Int))).cell? ⟨g, 2 + f, none⟩ = some (.slice (some ⟨qb, qo, none⟩) 0 0) := by have := HT3.out.cells.cq f hf; rwa [put1_same] at this
 have HT4 : Hid (TurnsAt B g (.slice (some ⟨pb, off, none⟩) L pcap) qv ((U.setCell ⟨g, 20, none⟩ (.int .i64 (n : Int))).setCell ⟨g, 10 + f, none⟩ (.int .i64 0)) (put1 vq f (.slice (some ⟨qb, qo, none⟩) 0 0)) (put1 F f (F f)) rv { d with qs := put1 d.qs f [], cr := put1 (put1 d.cr f (c - y)) f 0 } n) := HT3.out.setC hf 0
 have u4 := HT3.out.cells.cc f hf
 have u5 := HT3.out.cells.free (10 + f)
 have u6 := HT4.out.cells.cs
 have u7 := HT4.out.cells.free 19
 have hn1 : (((n + 1 : Nat)) : Int) - 1 = (n : Int) := by omega
 rw [show (((n + 1 : Nat)) : Int) = (n : Int) + 1 by omega] at u1
 clear hU v0 v2 v4 v5
 go_wp2_with fail
 go_ret
 rw [HEnd.out]
 refine ⟨rfl, ⟨_, _, _, HT4.out.setS none rfl, fun j hj => foot_setQ hf (fun _ hk => .inl hk) hj⟩, ?_⟩
 exact ((HBt2.out.trans ((butG _ _ _ _).mono fun j hj => .inl hj)).trans ((butG _ _ _ _).mono fun j hj => .inl hj)).trans ((butG _ _ _ _).mono fun j hj => .inl hj)
end Go.Proofs.YtibhkijaafdkoaaGreatDoor
