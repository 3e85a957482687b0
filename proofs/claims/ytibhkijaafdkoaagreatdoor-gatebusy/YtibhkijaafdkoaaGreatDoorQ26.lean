/- Own facts, put together: no statement of its own. -/
import Derived.Test.YtibhkijaafdkoaaGreatDoorQ25
namespace Go.Proofs.YtibhkijaafdkoaaGreatDoor
open Go.RowKit
set_option maxRecDepth 100000 in
set_option maxHeartbeats 4000000 in
theorem turnsTake_more (B g k pb off pcap L : Nat) (qv : Value) (vq : Nat → Value) (F : Nat → Nat → Prop) (rv : Value) (d : Drr) (n : Nat) (w : World) (h : TurnsAt B g (.slice (some ⟨pb, off, none⟩) L pcap) qv w vq F rv d (n + 1)) (y : Int) (hcp : ∀ W, Below B w W → W.cell? ⟨pb, off + k * 3 + 1, none⟩ = some (.int .i64 y)) (hy0 : 0 ≤ y) (hkl : k < L) (f : Nat) (r : List Nat) (hs : d.srv = some f) (hf : f < 8) (hc0 : 0 ≤ d.cr f) (hc1 : d.cr f ≤ 1000000) (hy : y ≤ d.cr f) (hn : n ≤ 1000) (hr3 : r.length ≤ 300) (hB : B ≤ w.heap.size) (qb qo cap : Nat) (hv : vq f = .slice (some ⟨qb, qo, none⟩) (r.length + 1) cap) (hmx : cap ≤ maxLen) (ck : w.cell? ⟨qb, qo, none⟩ = some (.int .i64 (k : Int))) (h1 : 1 < cap) (hsl : Slides w B (.slice (some ⟨qb, qo + 1, none⟩) r.length (cap - 1)) (F f) r) (hr : r ≠ []) :
  Calls Tryz.prog 140 #[.pointer (some ⟨g, 0, none⟩)] w fun e w' => e = .returned (.int .i64 (k : Int)) ∧ ComeEnd B g (.slice (some ⟨pb, off, none⟩) L pcap) qv w w' F rv { d with qs := put1 d.qs f r, cr := put1 d.cr f (d.cr f - y) } n := by
 have HT : Hid (TurnsAt B g (.slice (some ⟨pb, off, none⟩) L pcap) qv w vq F rv d (n + 1)) := h
 have cs : w.cell? ⟨g, 19, none⟩ = some (.int .i64 (f : Int)) := by have := h.cells.cs; rw [hs] at this; exact this
 have cq := h.cells.cq f hf
 rw [hv] at cq
 have fq := h.cells.free (2 + f)
 obtain ⟨m, hm⟩ : ∃ m, r.length = m := ⟨_, rfl⟩
 have HM : Hid (r.length = m) := hm
 obtain ⟨c, hcr⟩ : ∃ c, d.cr f = c := ⟨_, rfl⟩
 have HCr : Hid (d.cr f = c) := hcr
 rw [hcr] at hc0 hc1 hy
 rw [hm] at cq hr3 hsl
 have HFoot : Hid (∀ k, turnFoot g F rv k → B ≤ k) := fun k hk => (h.foot k hk).1
 have HBB : Hid (B ≤ w.heap.size) := hB
 have HCp : Hid (∀ W, Below B w W → W.cell? ⟨pb, off + k * 3 + 1, none⟩ = some (.int .i64 y)) := hcp
 have hfi : (f : Int) < 8 := by omega
 have hki : (k : Int) < (L : Int) := by omega
 have hm0 : 0 < m := by rw [← hm]; exact List.length_pos_iff.2 hr
 have hmd : ((m : Int) == 0) = false := by simp; omega
 unfold maxLen at hmx
 have HT1 : Hid (TurnsAt B g (.slice (some ⟨pb, off, none⟩) L pcap) qv (w.setCell ⟨g, 2 + f, none⟩ (.slice (some ⟨qb, qo + 1, none⟩) m (cap - 1))).drew (put1 vq f (.slice (some ⟨qb, qo + 1, none⟩) m (cap - 1))) (put1 F f (F f)) rv { d with qs := put1 d.qs f r } (n + 1)) := (h.setQ hf (But.refl _ _) hsl (fun _ hk => .inl hk)).later (Below.refl _ _).drew
 have HBt : Hid (But (turnFoot g F rv) w (w.setCell ⟨g, 2 + f, none⟩ (.slice (some ⟨qb, qo + 1, none⟩) m (cap - 1))).drew) := ((butG _ _ _ _).mono fun j hj => .inl hj).drew
 clear h hs hv hm hcr hB hcp
 go_enter Tryz.func140, Tryz.ntmps140
 go_wp2_with fail
 go_region
 obtain ⟨V, hV⟩ : ∃ V, (w.setCell ⟨g, 2 + f, none⟩ (.slice (some ⟨qb, qo + 1, none⟩) m (cap - 1))).drew = V := ⟨_, rfl⟩
 rw [hV] at HT1 HBt ⊢
 have HBel : Hid (Below B w V) := HBt.out.below HBB.out (fun k hk => HFoot.out k hk)
 have v0 := HT1.out.cells.c0
 have v2 : V.cell? ⟨g, 10 + f, none⟩ = some (.int .i64 c) := by rw [← HCr.out]; exact HT1.out.cells.cc f hf
 have v4 := HCp.out V HBel.out
 have v5 := HT1.out.cells.free (10 + f)
 have hwr : IntKind.i64.wrap (c - y) = c - y := IntWalk.i64_in _ (by omega)
 have HT2 : Hid (TurnsAt B g (.slice (some ⟨pb, off, none⟩) L pcap) qv (V.setCell ⟨g, 10 + f, none⟩ (.int .i64 (c - y))).drew (put1 vq f (.slice (some ⟨qb, qo + 1, none⟩) m (cap - 1))) (put1 F f (F f)) rv { d with qs := put1 d.qs f r, cr := put1 d.cr f (c - y) } (n + 1)) := (HT1.out.setC hf (c - y)).later (Below.refl _ _).drew
 have HBt2 : Hid (But (turnFoot g F rv) w (V.setCell ⟨g, 10 + f, none⟩ (.int .i64 (c - y))).drew) := (HBt.out.trans ((butG _ _ _ _).mono fun j hj => .inl hj)).drew
 clear hV cs cq fq ck
 go_wp2_with fail
 go_region
 obtain ⟨U, hU⟩ : ∃ U, (V.setCell ⟨g, 10 + f, none⟩ (.int .i64 (c - y))).drew = U := ⟨_, rfl⟩
 rw [hU] at HT2 HBt2 ⊢
 have u1 : U.cell? ⟨g, 20, none⟩ = some (.int .i64 (((n + 1 : Nat)) : Int)) := HT2.out.cells.cn
 have u2 := HT2.out.cells.free 20
 have HT3 : Hid (TurnsAt B g (.slice (some ⟨pb, off, none⟩) L pcap) qv (U.setCell ⟨g, 20, none⟩ (.int .i64 (n : Int))) (put1 vq f (.slice (some ⟨qb, qo + 1, none⟩) m (cap - 1))) (put1 F f (F f)) rv { d with qs := put1 d.qs f r, cr := put1 d.cr f (c - y) } n) := HT2.out.setN n rfl
 have u3 : (U.setCell ⟨g, 20, none⟩ (.int .i64 (n : Int))).cell? ⟨g, 2 + f, none⟩ = some (.slice (some ⟨qb, qo + 1, none⟩) m (cap - 1)) := by have := HT3.out.cells.cq f hf; rwa [put1_same] at this
 have hn1 : (((n + 1 : Nat)) : Int) - 1 = (n : Int) := by omega
 rw [show (((n + 1 : Nat)) : Int) = (n : Int) + 1 by omega] at u1
 clear hU v0 v2 v4 v5
 go_wp2_with fail
 go_ret
 rw [HCr.out]
 refine ⟨rfl, ⟨_, _, _, HT3.out, fun j hj => foot_setQ hf (fun _ hk => .inl hk) hj⟩, ?_⟩
 exact HBt2.out.trans ((butG _ _ _ _).mono fun j hj => .inl hj)
set_option maxRecDepth 100000 in
set_option maxHeartbeats 4000000 in
theorem turnsTake_last (B g k pb off pcap L : Nat) (qv : Value) (vq : Nat → Value) (F : Nat → Nat → Prop) (rv : Value) (d : Drr) (n : Nat) (w : World) (h : TurnsAt B g (.slice (some ⟨pb, off, none⟩) L pcap) qv w vq F rv d (n + 1)) (y : Int) (hcp : ∀ W, Below B w W → W.cell? ⟨pb, off + k * 3 + 1, none⟩ = some (.int .i64 y)) (hy0 : 0 ≤ y) (hkl : k < L) (f : Nat) (hs : d.srv = some f) (hf : f < 8) (hc0 : 0 ≤ d.cr f) (hc1 : d.cr f ≤ 1000000) (hy : y ≤ d.cr f) (hn : n ≤ 1000) (hr3 : ([] : List Nat).length ≤ 300) (hB : B ≤ w.heap.size) (qb qo cap : Nat) (hv : vq f = .slice (some ⟨qb, qo, none⟩) (([] : List Nat).length + 1) cap) (hmx : cap ≤ maxLen) (ck : w.cell? ⟨qb, qo, none⟩ = some (.int .i64 (k : Int))) (h1 : 1 < cap) (hsl : Slides w B (.slice (some ⟨qb, qo + 1, none⟩) ([] : List Nat).length (cap - 1)) (F f) []) :
  Calls Tryz.prog 140 #[.pointer (some ⟨g, 0, none⟩)] w fun e w' => e = .returned (.int .i64 (k : Int)) ∧ ComeEnd B g (.slice (some ⟨pb, off, none⟩) L pcap) qv w w' F rv { d with qs := put1 d.qs f [], cr := put1 d.cr f 0, srv := none } n := by
 have HT : Hid (TurnsAt B g (.slice (some ⟨pb, off, none⟩) L pcap) qv w vq F rv d (n + 1)) := h
 have cs : w.cell? ⟨g, 19, none⟩ = some (.int .i64 (f : Int)) := by have := h.cells.cs; rw [hs] at this; exact this
 have cq := h.cells.cq f hf
 rw [hv] at cq
 have fq := h.cells.free (2 + f)
 obtain ⟨m, hm⟩ : ∃ m, ([] : List Nat).length = m := ⟨_, rfl⟩
 have HM : Hid (([] : List Nat).length = m) := hm
 obtain ⟨c, hcr⟩ : ∃ c, d.cr f = c := ⟨_, rfl⟩
 have HCr : Hid (d.cr f = c) := hcr
 rw [hcr] at hc0 hc1 hy
 rw [hm] at cq hr3 hsl
 have HFoot : Hid (∀ k, turnFoot g F rv k → B ≤ k) := fun k hk => (h.foot k hk).1
 have HBB : Hid (B ≤ w.heap.size) := hB
 have HCp : Hid (∀ W, Below B w W → W.cell? ⟨pb, off + k * 3 + 1, none⟩ = some (.int .i64 y)) := hcp
 have hfi : (f : Int) < 8 := by omega
 have hki : (k : Int) < (L : Int) := by omega
 have hm0 : m = 0 := by rw [← hm]; rfl
 subst hm0
 unfold maxLen at hmx
 have HT1 : Hid (TurnsAt B g (.slice (some ⟨pb, off, none⟩) L pcap) qv (w.setCell ⟨g, 2 + f, none⟩ (.slice (some ⟨qb, qo + 1, none⟩) 0 (cap - 1))).drew (put1 vq f (.slice (some ⟨qb, qo + 1, none⟩) 0 (cap - 1))) (put1 F f (F f)) rv { d with qs := put1 d.qs f [] } (n + 1)) := (h.setQ hf (But.refl _ _) hsl (fun _ hk => .inl hk)).later (Below.refl _ _).drew
 have HBt : Hid (But (turnFoot g F rv) w (w.setCell ⟨g, 2 + f, none⟩ (.slice (some ⟨qb, qo + 1, none⟩) 0 (cap - 1))).drew) := ((butG _ _ _ _).mono fun j hj => .inl hj).drew
 have HEnd : Hid (({ d with qs := put1 d.qs f [], cr := put1 d.cr f 0, srv := none } : Drr) = { d with qs := put1 d.qs f [], cr := put1 (put1 d.cr f (c - y)) f 0, srv := none }) := by
  show _ = _
  rw [put1_put1]
 clear h hs hv hm hcr hB hcp
 go_enter Tryz.func140, Tryz.ntmps140
 go_wp2_with fail
 go_region
 obtain ⟨V, hV⟩ : ∃ V, (w.setCell ⟨g, 2 + f, none⟩ (.slice (some ⟨qb, qo + 1, none⟩) 0 (cap - 1))).drew = V := ⟨_, rfl⟩
 rw [hV] at HT1 HBt ⊢
 have HBel : Hid (Below B w V) := HBt.out.below HBB.out (fun k hk => HFoot.out k hk)
 have v0 := HT1.out.cells.c0
 have v2 : V.cell? ⟨g, 10 + f, none⟩ = some (.int .i64 c) := by rw [← HCr.out]; exact HT1.out.cells.cc f hf
 have v4 := HCp.out V HBel.out
 have v5 := HT1.out.cells.free (10 + f)
 have hwr : IntKind.i64.wrap (c - y) = c - y := IntWalk.i64_in _ (by omega)
 have HT2 : Hid (TurnsAt B g (.slice (some ⟨pb, off, none⟩) L pcap) qv (V.setCell ⟨g, 10 + f, none⟩ (.int .i64 (c - y))).drew (put1 vq f (.slice (some ⟨qb, qo + 1, none⟩) 0 (cap - 1))) (put1 F f (F f)) rv { d with qs := put1 d.qs f [], cr := put1 d.cr f (c - y) } (n + 1)) := (HT1.out.setC hf (c - y)).later (Below.refl _ _).drew
 have HBt2 : Hid (But (turnFoot g F rv) w (V.setCell ⟨g, 10 + f, none⟩ (.int .i64 (c - y))).drew) := (HBt.out.trans ((butG _ _ _ _).mono fun j hj => .inl hj)).drew
 clear hV cs cq fq ck
 go_wp2_with fail
 go_region
 obtain ⟨U, hU⟩ : ∃ U, (V.setCell ⟨g, 10 + f, none⟩ (.int .i64 (c - y))).drew = U := ⟨_, rfl⟩
 rw [hU] at HT2 HBt2 ⊢
 have u1 : U.cell? ⟨g, 20, none⟩ = some (.int .i64 (((n + 1 : Nat)) : Int)) := HT2.out.cells.cn
 have u2 := HT2.out.cells.free 20
 have HT3 : Hid (TurnsAt B g (.slice (some ⟨pb, off, none⟩) L pcap) qv (U.setCell ⟨g, 20, none⟩ (.int .i64 (n : Int))) (put1 vq f (.slice (some ⟨qb, qo + 1, none⟩) 0 (cap - 1))) (put1 F f (F f)) rv { d with qs := put1 d.qs f [], cr := put1 d.cr f (c - y) } n) := HT2.out.setN n rfl
 have u3 : (U.setCell ⟨g, 20, none⟩ (.int .i64 (n : Int))).cell? ⟨g, 2 + f, none⟩ = some (.slice (some ⟨qb, qo + 1, none⟩) 0 (cap - 1)) := by have := HT3.out.cells.cq f hf; rwa [put1_same] at this
 have HT4 : Hid (TurnsAt B g (.slice (some ⟨pb, off, none⟩) L pcap) qv ((U.setCell ⟨g, 20, none⟩ (.int .i64 (n : Int))).setCell ⟨g, 10 + f, none⟩ (.int .i64 0)) (put1 vq f (.slice (some ⟨qb, qo + 1, none⟩) 0 (cap - 1))) (put1 F f (F f)) rv { d with qs := put1 d.qs f [], cr := put1 (put1 d.cr f (c - y)) f 0 } n) := HT3.out.setC hf 0
 have u4 := HT3.out.cells.cc f hf
 have u5 := HT3.out.cells.free (10 + f)
 have u6 := HT4.out.cells.cs
 have u7 := HT4.out.cells.free 19
 have hn1 : (((n + 1 : Nat)) : Int) - 1 = (n : Int) := by omega
 rw [show (((n + 1 : Nat)) : Int) = (n : Int) + 1 by omega] at u1
 clear hU v0 v2 v4 v5
 go_wp2_with fail
 go_ret
 rw [HEnd.out]
 refine ⟨rfl, ⟨_, _, _, HT4.out.setS none rfl, fun j hj => foot_setQ hf (fun _ hk => .inl hk) hj⟩, ?_⟩
 exact ((HBt2.out.trans ((butG _ _ _ _).mono fun j hj => .inl hj)).trans ((butG _ _ _ _).mono fun j hj => .inl hj)).trans ((butG _ _ _ _).mono fun j hj => .inl hj)
set_option maxRecDepth 100000 in
set_option maxHeartbeats 4000000 in
theorem turnsTake_one (B g k pb off pcap L : Nat) (qv : Value) (vq : Nat → Value) (F : Nat → Nat → Prop) (rv : Value) (d : Drr) (n : Nat) (w : World) (h : TurnsAt B g (.slice (some ⟨pb, off, none⟩) L pcap) qv w vq F rv d (n + 1)) (y : Int) (hcp : ∀ W, Below B w W → W.cell? ⟨pb, off + k * 3 + 1, none⟩ = some (.int .i64 y)) (hy0 : 0 ≤ y) (hkl : k < L) (f : Nat) (hs : d.srv = some f) (hf : f < 8) (hc0 : 0 ≤ d.cr f) (hc1 : d.cr f ≤ 1000000) (hy : y ≤ d.cr f) (hn : n ≤ 1000) (hr3 : ([] : List Nat).length ≤ 300) (hB : B ≤ w.heap.size) (qb qo cap : Nat) (hv : vq f = .slice (some ⟨qb, qo, none⟩) (([] : List Nat).length + 1) cap) (hcap : ([] : List Nat).length + 1 ≤ cap) (hmx : cap ≤ maxLen) (ck : w.cell? ⟨qb, qo, none⟩ = some (.int .i64 (k : Int))) (h1 : cap = 1) (hsl : Slides w B (.slice (some ⟨qb, qo, none⟩) 0 0) (F f) []) :
  Calls Tryz.prog 140 #[.pointer (some ⟨g, 0, none⟩)] w fun e w' => e = .returned (.int .i64 (k : Int)) ∧ ComeEnd B g (.slice (some ⟨pb, off, none⟩) L pcap) qv w w' F rv { d with qs := put1 d.qs f [], cr := put1 d.cr f 0, srv := none } n := by
 have HT : Hid (TurnsAt B g (.slice (some ⟨pb, off, none⟩) L pcap) qv w vq F rv d (n + 1)) := h
 have cs : w.cell? ⟨g, 19, none⟩ = some (.int .i64 (f : Int)) := by have := h.cells.cs; rw [hs] at this; exact this
 have cq := h.cells.cq f hf
 rw [hv] at cq
 have fq := h.cells.free (2 + f)
 obtain ⟨m, hm⟩ : ∃ m, ([] : List Nat).length = m := ⟨_, rfl⟩
 have HM : Hid (([] : List Nat).length = m) := hm
 obtain ⟨c, hcr⟩ : ∃ c, d.cr f = c := ⟨_, rfl⟩
 have HCr : Hid (d.cr f = c) := hcr
 rw [hcr] at hc0 hc1 hy
 rw [hm] at cq hcap hr3
 have HFoot : Hid (∀ k, turnFoot g F rv k → B ≤ k) := fun k hk => (h.foot k hk).1
 have HBB : Hid (B ≤ w.heap.size) := hB
 have HCp : Hid (∀ W, Below B w W → W.cell? ⟨pb, off + k * 3 + 1, none⟩ = some (.int .i64 y)) := hcp
 have hfi : (f : Int) < 8 := by omega
 have hki : (k : Int) < (L : Int) := by omega
 obtain rfl : m = 0 := by omega
 subst h1
 unfold maxLen at hmx
 have HT1 : Hid (TurnsAt B g (.slice (some ⟨pb, off, none⟩) L pcap) qv (w.setCell ⟨g, 2 + f, none⟩ (.slice (some ⟨qb, qo, none⟩) 0 0)).drew (put1 vq f (.slice (some ⟨qb, qo, none⟩) 0 0)) (put1 F f (F f)) rv { d with qs := put1 d.qs f [] } (n + 1)) := (h.setQ hf (But.refl _ _) hsl (fun _ hk => .inl hk)).later (Below.refl _ _).drew
 have HBt : Hid (But (turnFoot g F rv) w (w.setCell ⟨g, 2 + f, none⟩ (.slice (some ⟨qb, qo, none⟩) 0 0)).drew) := ((butG _ _ _ _).mono fun j hj => .inl hj).drew
 have HEnd : Hid (({ d with qs := put1 d.qs f [], cr := put1 d.cr f 0, srv := none } : Drr) = { d with qs := put1 d.qs f [], cr := put1 (put1 d.cr f (c - y)) f 0, srv := none }) := by
  show _ = _
  rw [put1_put1]
 clear h hs hv hm hcr hB hcp
 go_enter Tryz.func140, Tryz.ntmps140
 go_wp2_with fail
 go_region
 obtain ⟨V, hV⟩ : ∃ V, (w.setCell ⟨g, 2 + f, none⟩ (.slice (some ⟨qb, qo, none⟩) 0 0)).drew = V := ⟨_, rfl⟩
 rw [hV] at HT1 HBt ⊢
 have HBel : Hid (Below B w V) := HBt.out.below HBB.out (fun k hk => HFoot.out k hk)
 have v0 := HT1.out.cells.c0
 have v2 : V.cell? ⟨g, 10 + f, none⟩ = some (.int .i64 c) := by rw [← HCr.out]; exact HT1.out.cells.cc f hf
 have v4 := HCp.out V HBel.out
 have v5 := HT1.out.cells.free (10 + f)
 have hwr : IntKind.i64.wrap (c - y) = c - y := IntWalk.i64_in _ (by omega)
 have HT2 : Hid (TurnsAt B g (.slice (some ⟨pb, off, none⟩) L pcap) qv (V.setCell ⟨g, 10 + f, none⟩ (.int .i64 (c - y))).drew (put1 vq f (.slice (some ⟨qb, qo, none⟩) 0 0)) (put1 F f (F f)) rv { d with qs := put1 d.qs f [], cr := put1 d.cr f (c - y) } (n + 1)) := (HT1.out.setC hf (c - y)).later (Below.refl _ _).drew
 have HBt2 : Hid (But (turnFoot g F rv) w (V.setCell ⟨g, 10 + f, none⟩ (.int .i64 (c - y))).drew) := (HBt.out.trans ((butG _ _ _ _).mono fun j hj => .inl hj)).drew
 clear hV cs cq fq ck
 go_wp2_with fail
 go_region
 obtain ⟨U, hU⟩ : ∃ U, (V.setCell ⟨g, 10 + f, none⟩ (.int .i64 (c - y))).drew = U := ⟨_, rfl⟩
 rw [hU] at HT2 HBt2 ⊢
 have u1 : U.cell? ⟨g, 20, none⟩ = some (.int .i64 (((n + 1 : Nat)) : Int)) := HT2.out.cells.cn
 have u2 := HT2.out.cells.free 20
 have HT3 : Hid (TurnsAt B g (.slice (some ⟨pb, off, none⟩) L pcap) qv (U.setCell ⟨g, 20, none⟩ (.int .i64 (n : Int))) (put1 vq f (.slice (some ⟨qb, qo, none⟩) 0 0)) (put1 F f (F f)) rv { d with qs := put1 d.qs f [], cr := put1 d.cr f (c - y) } n) := HT2.out.setN n rfl
 have u3 : (U.setCell ⟨g, 20, none⟩ (.int .i64 (n : Int))).cell? ⟨g, 2 + f, none⟩ = some (.slice (some ⟨qb, qo, none⟩) 0 0) := by have := HT3.out.cells.cq f hf; rwa [put1_same] at this
 have HT4 : Hid (TurnsAt B g (.slice (some ⟨pb, off, none⟩) L pcap) qv ((U.setCell ⟨g, 20, none⟩ (.int .i64 (n : Int))).setCell ⟨g, 10 + f, none⟩ (.int .i64 0)) (put1 vq f (.slice (some ⟨qb, qo, none⟩) 0 0)) (put1 F f (F f)) rv { d with qs := put1 d.qs f [], cr := put1 (put1 d.cr f (c - y)) f 0 } n) := HT3.out.setC hf 0
 have u4 := HT3.out.cells.cc f hf
 have u5 := HT3.out.cells.free (10 + f)
 have u6 := HT4.out.cells.cs
 have u7 := HT4.out.cells.free 19
 have hn1 : (((n + 1 : Nat)) : Int) - 1 = (n : Int) := by omega
 rw [show (((n + 1 : Nat)) : Int) = (n : Int) + 1 by omega] at u1
 clear hU v0 v2 v4 v5
 go_wp2_with fail
 go_ret
 rw [HEnd.out]
 refine ⟨rfl, ⟨_, _, _, HT4.out.setS none rfl, fun j hj => foot_setQ hf (fun _ hk => .inl hk) hj⟩, ?_⟩
 exact ((HBt2.out.trans ((butG _ _ _ _).mono fun j hj => .inl hj)).trans ((butG _ _ _ _).mono fun j hj => .inl hj)).trans ((butG _ _ _ _).mono fun j hj => .inl hj)
end Go.Proofs.YtibhkijaafdkoaaGreatDoor
