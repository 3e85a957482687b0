/- Own facts, put together: no statement of its own. -/
import Derived.Test.YtibhkijaafdkoaaGreatDoorQ29
namespace Go.Proofs.YtibhkijaafdkoaaGreatDoor
open Go.RowKit
structure FairEnv (B : Nat) (W0 : World) (pa qa : Option Addr) (ps : List Pk) (ws : List Int) : Prop where
 pk : LiesP W0 pa ps
 nu : LiesN W0 qa ws
 pB : ∀ ad, pa = some ad → 0 < ps.length → ad.block < B
 qB : ∀ ad, qa = some ad → ad.block < B
 ok : OkPks ps
 ws : WtsAll ws
theorem wts_bel {B : Nat} {w w' : World} {a : Option Addr} {xs : List Int} (h : LiesN w a xs) (ha : ∀ ad, a = some ad → ad.block < B) (hb : Below B w w') : LiesN w' a xs := by
 rcases h with rfl | ⟨b, off, rfl, hlt, hc⟩
 · exact .inl rfl
 ·
  have hB : b < B := ha ⟨b, off, none⟩ rfl
  exact .inr ⟨b, off, rfl, Nat.lt_of_lt_of_le hlt hb.size, fun i x hi => by rw [hb.cell (p := ⟨b, off + i, none⟩) hB]; exact hc i x hi⟩
section
variable {B : Nat} {W0 : World} {g gt gm n : Nat} {pv qv : Value} {w : World} {D : Nat → Prop} {q : FQ}
theorem HeldW.same {w' : World} (h : HeldW B W0 g gt gm n pv qv w D q) (hb : Below w.heap.size w w') : QueLeft (HeldW B W0 g gt gm n pv qv) w w' D q := ⟨D, h.later hb, .ofBelow hb, fun _ hk => .inl hk⟩
theorem fairRest {ps : List Pk} {ws : List Int} (h : HeldW B W0 g gt gm n pv qv w D q) :
  Calls Tryz.prog 164 #[.pointer (some ⟨g, 0, none⟩)] w fun e w' => e = .returned (.int .i64 (q.q.length : Int)) ∧ QueLeft (HeldW B W0 g gt gm n pv qv) w w' D ((fairQ ps ws).asked q) := by
 by_cases h0 : q.q.length = 0
 ·
  have e : (fairQ ps ws).asked q = q.rests := if_pos h0
  rw [e, h0]
  exact fairRest_none h h0
 ·
  have e : (fairQ ps ws).asked q = q := if_neg h0
  rw [e]
  refine (fairRest_some h (by omega)).mono ?_
  rintro e w' ⟨rfl, rfl⟩
  exact ⟨rfl, h.same (Below.refl _ _)⟩
set_option maxHeartbeats 1000000 in
theorem fairTagOf {rv : Value} (h : FairAt B g gt gm n pv qv w rv q) {k : Nat} (hk : k < n) :
  Calls Tryz.prog 174 #[.pointer (some ⟨g, 0, none⟩), .int .i64 (k : Int)] w fun e w' => e = .returned (.int .i64 (q.tag k)) ∧ ∃ m, w' = w.drewN m := by
 have c2 := h.cells.c2
 have ck := h.given.cell k hk
 generalize q.tag k = x at *
 clear h
 go_enter Tryz.func174, Tryz.ntmps174
 go_wp2_with fail
 go_ret
 exact ⟨rfl, 0, rfl⟩
set_option maxRecDepth 100000 in
set_option maxHeartbeats 2000000 in
theorem fairPick {ps : List Pk} {ws : List Int} (h : HeldW B W0 g gt gm n pv qv w D q) (h0 : 0 < q.q.length) (hn : q.q.length ≤ 300) (hnd : q.q.Nodup) (hq : ∀ k, k ∈ q.q → k < n) :
  Calls Tryz.prog 163 #[.pointer (some ⟨g, 0, none⟩)] w fun e w' => e = .returned (.int .i64 ((fairQ ps ws).pick q : Nat)) ∧ QueLeft (HeldW B W0 g gt gm n pv qv) w w' D ((fairQ ps ws).left q) := by
 have HH : Hid (HeldW B W0 g gt gm n pv qv w D q) := h
 obtain ⟨rv, hA, hD⟩ := h.parts
 have hr := hA.row
 rw [← asInts_length] at hr
 obtain ⟨r, cap, rfl, hlc, hcm, -⟩ := own_some hr (by rw [asInts_length]; exact h0)
 rw [asInts_length] at hlc hA hD hr
 have hpl := pickAt_lt q.tag h0
 obtain ⟨k, hk⟩ : ∃ k, q.q.getD (pickAt q.tag q.q) 0 = k := ⟨_, rfl⟩
 have hkn : k < n := hq k (by rw [← hk, getD_lt hpl]; exact List.getElem_mem hpl)
 have ht := takeLeastB B 174 (.pointer (some ⟨g, 0, none⟩)) q.tag n r cap q.q w (by omega) h0 hq hr hlc hcm (fun _ _ => rfl) (fun m' k hk => fairTagOf (w := w.drewN m') (hA.later (below_drewN (Below.refl _ _) _)) hk)
 unfold LeastTaken at ht
 have c5 := hA.cells.c5
 have hkm : ∀ x, x = q.tag k → True := fun _ _ => trivial
 have HA : Hid (FairAt B g gt gm n pv qv w (.slice (some ⟨r, 0, none⟩) q.q.length cap) q ∧ (∀ k, D k ↔ fairFoot g gt gm (.slice (some ⟨r, 0, none⟩) q.q.length cap) k)) := ⟨hA, hD⟩
 have HLen : Hid ((q.q.eraseIdx (pickAt q.tag q.q)).length = q.q.length - 1) := by
  show _ = _
  rw [List.length_eraseIdx, if_pos hpl]
 have HL : Hid ((fairQ ps ws).pick q = k ∧ (fairQ ps ws).left q = { q with q := q.q.eraseIdx (pickAt q.tag q.q), v := q.tag k }) := by
  refine ⟨hk, ?_⟩
  show q.left (q.q.getD (pickAt q.tag q.q) 0) = _
  rw [erase_filter _ _ hnd hpl, hk]
  rfl
 rw [HL.out.1, HL.out.2]
 obtain ⟨l, hl⟩ : ∃ l, q.q.length = l := ⟨_, rfl⟩
 obtain ⟨pk, hpk⟩ : ∃ pk, pickAt q.tag q.q = pk := ⟨_, rfl⟩
 obtain ⟨T, hT⟩ : ∃ T, q.tag k = T := ⟨_, rfl⟩
 rw [hk, hl, hpk] at ht
 rw [hpk] at HLen ⊢
 have HT : Hid (Calls Tryz.prog 159 #[.slice (some ⟨r, 0, none⟩) l cap, .func (.func 174) #[.pointer (some ⟨g, 0, none⟩)] #[]] w fun e w' => e = .returned (.tuple #[.int .i64 (k : Nat), .slice (some ⟨r, 0, none⟩) (l - 1) cap]) ∧ w'.ownsRow B 3 1 (.slice (some ⟨r, 0, none⟩) (l - 1) cap) (l - 1) (ints (asInts (q.q.eraseIdx pk))) ∧ But (fun j => j = r) w w') := ht
 have HLn : Hid (q.q.length = l ∧ q.tag k = T) := ⟨hl, hT⟩
 rw [hl] at c5 hn h0 hlc
 rw [hT]
 clear hr hA hD h hk hq hpl hnd hl hpk ht hkm hT
 go_enter Tryz.func163, Tryz.ntmps163
 go_wp2_with fail
 refine HT.out.mono ?_
 rintro e w2 ⟨rfl, hown2, hbut2⟩
 have hR : FairAt B g gt gm n pv qv (w2.setCell ⟨g, 5, none⟩ (.slice (some ⟨r, 0, none⟩) (l - 1) cap)) (.slice (some ⟨r, 0, none⟩) (l - 1) cap) { q with q := q.q.eraseIdx pk } :=
  HA.out.1.setR (r' := q.q.eraseIdx pk) (hbut2.mono fun j hj => by rw [hj]; rfl) (by rw [HLen.out, HLn.out.1]; exact hown2) (fun j hj => .inl hj)
 have hA2 := HA.out.1.cells.but (S := fun j => j = r) hbut2 (fun e => HA.out.1.rapart.1 (by rw [← e]; rfl))
 have f2 := hA2.free 5
 have d5 := hA2.c5
 have d2 := hR.cells.c2
 have dk := hR.given.cell k hkn
 have f4 := hR.cells.free 4
 have d4 := hR.cells.c4
 have hdk : (FQ.mk (q.q.eraseIdx pk) q.tag q.v q.last).tag k = T := HLn.out.2
 rw [hdk] at dk
 have HR : Hid (FairAt B g gt gm n pv qv (w2.setCell ⟨g, 5, none⟩ (.slice (some ⟨r, 0, none⟩) (l - 1) cap)) (.slice (some ⟨r, 0, none⟩) (l - 1) cap) { q with q := q.q.eraseIdx pk } ∧ But (fun j => j = r) w w2) := ⟨hR, hbut2⟩
 clear hR hown2 hbut2 hA2 hdk
 go_wp2_with fail
 go_ret
 have hDr : D r := (HA.out.2 r).2 (.inr (.inr (.inr rfl)))
 have hDg : D g := (HA.out.2 g).2 (.inl rfl)
 exact ⟨rfl, HH.out.leaves HA.out.2 ((HR.out.2.mono fun j hj => by rw [hj]; exact hDr).trans (((butF _ _ _ _).mono fun j hj => by rw [hj]; exact hDg).trans ((butF _ _ _ _).mono fun j hj => by rw [hj]; exact hDg))) (HR.out.1.setV T) (fun j hj => .inl hj)⟩
end
end Go.Proofs.YtibhkijaafdkoaaGreatDoor

namespace Go.Proofs.YtibhkijaafdkoaaGreatDoor
open Go.RowKit
section
variable {B : Nat} {W0 : World} {g gt gm : Nat} {pa : Option Addr} {pcap : Nat} {qa : Option Addr} {qcap : Nat} {ps : List Pk} {ws : List Int} {D : Nat → Prop} {q : FQ} {w : World}
set_option maxRecDepth 100000 in
set_option maxHeartbeats 4000000 in
theorem fairCome (E : FairEnv B W0 pa qa ps ws) (h : HeldW B W0 g gt gm ps.length (.slice pa ps.length pcap) (.slice qa ws.length qcap) w D q) (hn : q.q.length ≤ 300) (hv : 0 ≤ q.v ∧ q.v ≤ 100000000) (hl : ∀ f, 0 ≤ q.last f ∧ q.last f ≤ 100000000) {k : Nat} {p : Pk} (hp : ps[k]? = some p) :
  Calls Tryz.prog 162 #[.pointer (some ⟨g, 0, none⟩), .int .i64 (k : Int)] w fun e w' => e = .returned (.tuple #[]) ∧ QueLeft (HeldW B W0 g gt gm ps.length (.slice pa ps.length pcap) (.slice qa ws.length qcap)) w w' D ((fairQ ps ws).come q k) := by
 have HH : Hid (HeldW B W0 g gt gm ps.length (.slice pa ps.length pcap) (.slice qa ws.length qcap) w D q) := h
 have HB : Hid (B ≤ w.heap.size) := h.le
 obtain ⟨rv, hA, hD⟩ := h.parts
 have hkl := lt_of_get hp
 have hf8 := flow_lt E.ok k
 have hok := okPk_true (E.ok.each _ p hp).1
 have hfew := E.ok.few
 have hpf : p.flow = ((flowOf ps k : Nat) : Int) := by rw [flowOf_get hp]; omega
 have hlw : LiesP w pa ps := E.pk.bel E.pB h.env
 have hnw : LiesN w qa ws := wts_bel E.nu E.qB h.env
 obtain ⟨x, hx, -⟩ := get_some ws (flowOf ps k) (by rw [E.ws.len]; exact hf8)
 have hwt := E.ws.each _ x hx
 have h12 := isWt_le hwt
 have hinc : incOf ps ws k = p.size * (12 / x) := by unfold incOf; rw [sizeAt_get hp, quOf_get hx]
 have hincr := incOf_in E.ws.ok E.ok k
 have hdiv := inc_tdiv hwt (show 0 ≤ p.size by omega)
 rw [← hinc] at hdiv
 obtain ⟨pb, off, rfl, hplt, hc⟩ := hlw.place (by omega)
 obtain ⟨qb, qo, rfl, hqlt, hqc⟩ := hnw.place (by rw [E.ws.len]; omega)
 have hw8 := E.ws.len
 have hcome : (fairQ ps ws).come q k = ⟨q.q ++ [k], put1 q.tag k (max q.v (q.last (flowOf ps k)) + incOf ps ws k), q.v, put1 q.last (flowOf ps k) (max q.v (q.last (flowOf ps k)) + incOf ps ws k)⟩ := rfl
 rw [hcome]
 have hlf := hl (flowOf ps k)
 obtain ⟨f, hf⟩ : ∃ f, flowOf ps k = f := ⟨_, rfl⟩
 obtain ⟨I, hI⟩ : ∃ I, incOf ps ws k = I := ⟨_, rfl⟩
 obtain ⟨z, hz⟩ : ∃ z, p.size = z := ⟨_, rfl⟩
 obtain ⟨tk, htk⟩ : ∃ tk, p.tick = tk := ⟨_, rfl⟩
 obtain ⟨la, hla⟩ : ∃ la, q.last f = la := ⟨_, rfl⟩
 obtain ⟨cv, hcv⟩ : ∃ cv, q.v = cv := ⟨_, rfl⟩
 obtain ⟨n, hnl⟩ : ∃ n, ps.length = n := ⟨_, rfl⟩
 have d0 := (hc k p hp).1
 have d1 := (hc k p hp).2.1
 have d2 := (hc k p hp).2.2
 rw [hf] at hpf hx hf8 hlf ⊢
 rw [hpf] at d0
 rw [hz] at d1 hdiv hok
 rw [htk] at d2
 rw [hI] at hdiv hincr ⊢
 rw [hla] at hlf ⊢
 rw [hcv] at hv ⊢
 have dq := hqc f x hx
 have hbW : Below w.heap.size w (w.alloc (.cells #[.int .i64 (f : Int), .int .i64 z, .int .i64 tk] 52)) := (Below.refl _ _).alloc (Nat.le_refl _) _
 have hAW := hA.later hbW
 obtain ⟨W, hW⟩ : ∃ W, w.alloc (.cells #[.int .i64 (f : Int), .int .i64 z, .int .i64 tk] 52) = W := ⟨_, rfl⟩
 rw [hW] at hAW hbW
 have b0 : W.cell? ⟨w.heap.size, 0, none⟩ = some (.int .i64 (f : Int)) := by rw [← hW]; simp
 have b1 : W.cell? ⟨w.heap.size, 1, none⟩ = some (.int .i64 z) := by rw [← hW]; simp
 have a0 := hA.cells.c0
 have a1 := hAW.cells.c1
 have a2 := hAW.cells.c2
 have a3 := hAW.cells.c3
 have a4 := hAW.cells.c4
 rw [hcv] at a4
 rw [hnl] at a0 a2
 rw [hw8] at a1
 have eq : W.cell? ⟨qb, qo + f, none⟩ = some (.int .i64 x) := cell_later hbW dq
 have hkey : keyOf Tryz.prog 3 (.int .i64 (f : Int)) = some (.int .i64 (f : Int)) := Go.Maps.keyOf_int_mk Tryz.underlying3 (WalkArith.wf_i64 (by omega))
 have hlook : ∀ m, (Instr.lookup 230 (.map (some gm)) (.int .i64 (f : Int)) false).run Tryz.prog (W.drewN m) = .ok (.int .i64 la) (W.drewN m) := fun m => by
  have := (hAW.later (below_drewN (Below.refl _ _) m)).tells.look Tryz.keyed Tryz.underMap Tryz.underlying3 (Tryz.zeroInt _) hkey
  rw [hla] at this
  exact this
 have HA : Hid (FairAt B g gt gm ps.length (.slice (some ⟨pb, off, none⟩) ps.length pcap) (.slice (some ⟨qb, qo, none⟩) ws.length qcap) W rv q ∧ (∀ k, D k ↔ fairFoot g gt gm rv k) ∧ Below w.heap.size w W) := ⟨hAW, hD, hbW⟩
 have v1 : IntKind.i64.wrap (z * 12) = z * 12 := IntWalk.i64_in _ (by omega)
 have hf8i : (f : Int) < 8 := by omega
 have hx1 : 1 ≤ x := hwt.1
 have hx0 : ¬ x = 0 := by omega
 have hx2 : (x == 0) = false := by simpa using hx0
 have v3 : IntKind.i64.wrap I = I := IntWalk.i64_in _ (by omega)
 obtain ⟨T, hT⟩ : ∃ T, max cv la + I = T := ⟨_, rfl⟩
 have v2 : IntKind.i64.wrap (max cv la + I) = T := by rw [← hT]; exact IntWalk.i64_in _ (by omega)
 have HT : Hid (0 ≤ T ∧ T ≤ 200000000) := ⟨by omega, by omega⟩
 rw [hT]
 have HW : Hid (w.alloc (.cells #[.int .i64 (f : Int), .int .i64 z, .int .i64 tk] 52) = W) := hW
 rw [hnl] at hkl hfew
 have HN : Hid (ps.length = n ∧ q.v = cv ∧ q.last f = la) := ⟨hnl, hcv, hla⟩
 clear h hlw hnw hc hqc hp hx hinc hcome hA hAW hD hf hI hz htk hla hcv hnl hl hW hpf E
 go_enter Tryz.func162, Tryz.ntmps162
 go_wp2_with fail
 rw [HW.out]
 go_quiet (fail)
 obtain ⟨V, hV⟩ : ∃ V, W.drewN nq = V := ⟨_, rfl⟩
 rw [hV]
 have hbV : Below W.heap.size W V := by rw [← hV]; exact below_drewN (Below.refl _ _) _
 have hAV := HA.out.1.later hbV
 have a2' := hAV.cells.c2
 rw [HN.out.1] at a2'
 have hkn : k < ps.length := by rw [HN.out.1]; exact hkl
 have ck := hAV.given.cell k hkn
 have fk := hAV.given.frozen k
 have hA2 := hAV.setTag hkn T
 have a3' := hA2.cells.c3
 have b0' : (V.setCell ⟨gt, k, none⟩ (.int .i64 T)).cell? ⟨w.heap.size, 0, none⟩ = some (.int .i64 (f : Int)) := by
  rw [World.cell?_setCell_other _ _ _ _ (fun e => by
   have e' : gt = w.heap.size := congrArg Addr.block e
   have := (HH.out.foot gt (((HA.out.2.1 gt).2 (.inr (.inl rfl))))).2
   omega)]
  exact cell_later hbV b0
 have HV : Hid (FairAt B g gt gm ps.length (.slice (some ⟨pb, off, none⟩) ps.length pcap) (.slice (some ⟨qb, qo, none⟩) ws.length qcap) (V.setCell ⟨gt, k, none⟩ (.int .i64 T)) rv { q with tag := put1 q.tag k T } ∧ Below W.heap.size W V) := ⟨hA2, hbV⟩
 have hwf : (Lit.int .i64 T).wf = true := WalkArith.wf_i64 (by have := HT.out; omega)
 have hA2d := hA2.later (below_drewN (Below.refl _ _) 1)
 obtain ⟨W3, hupd, ht3, hg3⟩ := hA2d.tells.store Tryz.keyed Tryz.underMap Tryz.underlying3 hf8 hkey hwf
 have h3 := hA2d.setLast hg3 ht3
 have a5 := h3.1.cells.c5
 have f5 := h3.1.cells.free 5
 have HV3 : Hid (FairAt B g gt gm ps.length (.slice (some ⟨pb, off, none⟩) ps.length pcap) (.slice (some ⟨qb, qo, none⟩) ws.length qcap) W3 rv { q with tag := put1 q.tag k T, last := put1 q.last f T } ∧ But (fun k => k = gm) ((V.setCell ⟨gt, k, none⟩ (.int .i64 T)).drewN 1) W3) := h3
 obtain ⟨V2, hV2⟩ : ∃ V2, V.setCell ⟨gt, k, none⟩ (.int .i64 T) = V2 := ⟨_, rfl⟩
 have HV2 : Hid (V.setCell ⟨gt, k, none⟩ (.int .i64 T) = V2) := hV2
 have hupd' : (Instr.mapUpdate 230 (.map (some gm)) (.int .i64 (f : Int)) (.int .i64 T)).run Tryz.prog V2.drew = .ok () W3 := by rw [← hV2]; exact hupd
 rw [hV2] at a3' b0'
 clear hV hbV hAV hA2 a0 a1 a2 a3 a4 d0 d1 d2 dq eq b0 b1 hlook v1 v2 v3 hkn hdiv hincr hupd h3 hA2d ht3 hg3
 go_wp2_with fail
 clear hV2
 go_region
 have H3 := HV3.out.1
 have hb0 : Below W3.heap.size W3 (W3.alloc (.cells #[.int .i64 (k : Int)] 3)) := (Below.refl _ _).alloc (Nat.le_refl _) _
 have HA4 : Hid (FairAt B g gt gm ps.length (.slice (some ⟨pb, off, none⟩) ps.length pcap) (.slice (some ⟨qb, qo, none⟩) ws.length qcap) (W3.alloc (.cells #[.int .i64 (k : Int)] 3)) rv { q with tag := put1 q.tag k T, last := put1 q.last f T }) := H3.later hb0
 have HRow : Hid ((W3.alloc (.cells #[.int .i64 (k : Int)] 3)).ownsRow B 3 1 rv q.q.length (ints (asInts q.q))) := HA4.out.row
 have HNew : Hid (∀ j u, (ints [(k : Int)])[j]? = some u → (W3.alloc (.cells #[.int .i64 (k : Int)] 3)).cell? (Addr.add ⟨W3.heap.size, 0, none⟩ j) = some u) := by
  intro j u hu
  cases j with
  | zero => simp [ints] at hu; subst hu; simp [Addr.add]
  | succ j => simp [ints] at hu
 have HBs : Hid (B ≤ (W3.alloc (.cells #[.int .i64 (k : Int)] 3)).heap.size) := by
  have := (HA4.out.foot g (.inl rfl))
  show B ≤ _
  omega
 obtain ⟨i0, hi, hz0, hz1, hz2⟩ := info_parts Tryz.infoInt
 clear H3 hb0
 go_wp2_with (at_builtin; go_must (refine wpList_append_lies _ rfl _ _ 23 rfl B 3 i0 (.int .i64 0) 1 8 Tryz.underlying23 hi hz0 hz1 hz2 rfl (by decide) rv q.q.length (ints (asInts q.q)) rfl HRow.out ⟨W3.heap.size, 0, none⟩ 1 1 (ints [(k : Int)]) rfl rfl HNew.out (ints_one _) (by decide) (by unfold maxLen; omega) (by omega) HBs.out _ rfl ?_; intro g5 cap5 w5 ho5 hg5 hat5 hlt5; have hbut : But (fun k => rv.ownBlock = some k) (W3.alloc (.cells #[.int .i64 (k : Int)] 3)) w5 := ⟨hg5.os, hg5.tape, hg5.output, hg5.size, fun k hk hn => hg5.block k hk (fun e => hn e.symm)⟩; have hc5 := HA4.out.cells.but hbut (fun e => HA4.out.rapart.1 e); have c5 := hc5.c5; have f5 := hc5.free 5; have H5 : Hid (w5.ownsRow B 3 1 (.slice (some ⟨g5, 0, none⟩) (q.q.length + 1) cap5) (q.q.length + 1) (ints (asInts q.q) ++ ints [(k : Int)]) ∧ But (fun k => rv.ownBlock = some k) (W3.alloc (.cells #[.int .i64 (k : Int)] 3)) w5 ∧ (rv.ownBlock = some g5 ∨ g5 = (W3.alloc (.cells #[.int .i64 (k : Int)] 3)).heap.size)) := ⟨ho5, hbut, hat5⟩; clear ho5 hg5 hat5 hlt5 hbut hc5))
 go_end0
 have hnew5 : ∀ j, (Value.slice (some ⟨g5, 0, none⟩) (q.q.length + 1) cap5).ownBlock = some j → rv.ownBlock = some j ∨ (W3.alloc (.cells #[.int .i64 (k : Int)] 3)).heap.size ≤ j := fun j hj => by
  have e : g5 = j := Option.some.inj hj
  rcases H5.out.2.2 with h | h
  · exact .inl (by rw [← e]; exact h)
  · exact .inr (by rw [← e, h]; exact Nat.le_refl _)
 have hrow5 : w5.ownsRow B 3 1 (.slice (some ⟨g5, 0, none⟩) (q.q.length + 1) cap5) (q.q ++ [k]).length (ints (asInts (q.q ++ [k]))) := by
  rw [asInts_snoc, List.length_append]
  exact H5.out.1
 have hfin := HA4.out.setR (r' := q.q ++ [k]) H5.out.2.1 hrow5 hnew5
 have hDf := HA.out.2.1
 have hg_ : D g := (hDf g).2 (.inl rfl)
 have hgt_ : D gt := (hDf gt).2 (.inr (.inl rfl))
 have hgm_ : D gm := (hDf gm).2 (.inr (.inr (.inl rfl)))
 have e1 : But D w V := (But.ofBelow HA.out.2.2).trans (.ofBelow HV.out.2)
 have e2 : But D V V2 := by rw [← HV2.out]; exact (butF V gt k _).mono fun j hj => by rw [hj]; exact hgt_
 have e3 : But D V2 W3 := by
  have := HV3.out.2
  rw [HV2.out] at this
  exact (But.ofBelow (below_drewN (Below.refl _ _) 1)).trans (this.mono fun j hj => by rw [hj]; exact hgm_)
 have e4 : But D W3 (w5.setCell ⟨g, 5, none⟩ (.slice (some ⟨g5, 0, none⟩) (q.q.length + 1) cap5)) := ((But.ofBelow ((Below.refl _ _).alloc (Nat.le_refl _) _)).trans (H5.out.2.1.mono fun j hj => (hDf j).2 (.inr (.inr (.inr hj))))).trans ((butF _ _ _ _).mono fun j hj => by rw [hj]; exact hg_)
 have hall := ((e1.trans e2).trans e3).trans e4
 refine ⟨rfl, HH.out.leaves hDf hall (by rw [HN.out.2.1] at hfin; exact hfin) (fun j hj => ?_)⟩
 rcases hnew5 j hj with h | h
 · exact .inl h
 ·
  exact .inr (by
   have := ((e1.trans e2).trans e3).size
   simp at h
   omega)
end
end Go.Proofs.YtibhkijaafdkoaaGreatDoor
