/- Own facts, put together: no statement of its own. -/
import Derived.Test.YtibhkijaafdkoaaGreatDoorK35
import Derived.Test.YtibhkijaafdkoaaGreatDoorK25
import Derived.Test.YtibhkijaafdkoaaGreatDoorK33
import Derived.Test.YtibhkijaafdkoaaGreatDoorK17
import Derived.Test.YtibhkijaafdkoaaGreatDoorK34
namespace Go.Proofs.YtibhkijaafdkoaaGreatDoor
open Go.RowKit
section
variable {B : Nat} {W0 : World} {g gt gm : Nat} {pa : Option Addr} {pcap : Nat} {qa : Option Addr} {qcap : Nat} {ps : List Pk} {ws : List Int} {D : Nat → Prop} {q : FQ} {w : World}
set_option maxRecDepth 100000 in
set_option maxHeartbeats 4000000 in
theorem fairCome (E : FairEnv B W0 pa qa ps ws) (h : HeldW B W0 g gt gm ps.length (.slice pa ps.length pcap) (.slice qa ws.length qcap) w D q) (hn : q.q.length ≤ 300) (hv : 0 ≤ q.v ∧ q.v ≤ 100000000) (hl : ∀ f, 0 ≤ q.last f ∧ q.last f ≤ 100000000) {k : Nat} {p : Pk} (hp : ps[k]? = some p) :
  Calls Tryz.prog 162 #[.pointer (some ⟨g, 0, none⟩), .int .i64 (k : Int)] w fun e w' => e = .returned (.tuple #[]) ∧ QueLeft (HeldW B W0 g gt gm ps.length (.slice pa ps.length pcap) (.slice qa ws.length qcap)) w w' D ((fairQ ps ws).come q k) := by
 have HH : Hid (HeldW B W0 g gt gm ps.length (.slice pa ps.length pcap) (.slice qa ws.length qcap) w D q) := h
 have HB : Hid (B ≤ w.heap.size) := h.le
 obtain ⟨rv, hA, hD⟩ := h.parts
 have hkl := lt_of_get hp
 have hf8 := flow_lt E.ok k
 have hok := okPk_true (E.ok.each _ p hp).1
 have hfew := E.ok.few
 have hpf : p.flow = ((flowOf ps k : Nat) : Int) := by rw [flowOf_get hp]; omega
 have hlw : LiesP w pa ps := E.pk.bel E.pB h.env
 have hnw : LiesN w qa ws := wts_bel E.nu E.qB h.env
 obtain ⟨x, hx, -⟩ := get_some ws (flowOf ps k) (by rw [E.ws.len]; exact hf8)
 have hwt := E.ws.each _ x hx
 have h12 := isWt_le hwt
 have hinc : incOf ps ws k = p.size * (12 / x) := by unfold incOf; rw [sizeAt_get hp, quOf_get hx]
 have hincr := incOf_in E.ws.ok E.ok k
 have hdiv := inc_tdiv hwt (show 0 ≤ p.size by omega)
 rw [← hinc] at hdiv
 obtain ⟨pb, off, rfl, hplt, hc⟩ := hlw.place (by omega)
 obtain ⟨qb, qo, rfl, hqlt, hqc⟩ := hnw.place (by rw [E.ws.len]; omega)
 have hw8 := E.ws.len
 have hcome : (fairQ ps ws).come q k = ⟨q.q ++ [k], put1 q.tag k (max q.v (q.last (flowOf ps k)) + incOf ps ws k), q.v, put1 q.last (flowOf ps k) (max q.v (q.last (flowOf ps k)) + incOf ps ws k)⟩ := rfl
 rw [hcome]
 have hlf := hl (flowOf ps k)
 obtain ⟨f, hf⟩ : ∃ f, flowOf ps k = f := ⟨_, rfl⟩
 obtain ⟨I, hI⟩ : ∃ I, incOf ps ws k = I := ⟨_, rfl⟩
 obtain ⟨z, hz⟩ : ∃ z, p.size = z := ⟨_, rfl⟩
 obtain ⟨tk, htk⟩ : ∃ tk, p.tick = tk := ⟨_, rfl⟩
 obtain ⟨la, hla⟩ : ∃ la, q.last f = la := ⟨_, rfl⟩
 obtain ⟨cv, hcv⟩ : ∃ cv, q.v = cv := ⟨_, rfl⟩
 obtain ⟨n, hnl⟩ : ∃ n, ps.length = n := ⟨_, rfl⟩
 have d0 := (hc k p hp).1
 have d1 := (hc k p hp).2.1
 have d2 := (hc k p hp).2.2
 rw [hf] at hpf hx hf8 hlf ⊢
 rw [hpf] at d0
 rw [hz] at d1 hdiv hok
 rw [htk] at d2
 rw [hI] at hdiv hincr ⊢
 rw [hla] at hlf ⊢
 rw [hcv] at hv ⊢
 have dq := hqc f x hx
 have hbW : Below w.heap.size w (w.alloc (.cells #[.int .i64 (f : Int), .int .i64 z, .int .i64 tk] 52)) := (Below.refl _ _).alloc (Nat.le_refl _) _
 have hAW := hA.later hbW
 obtain ⟨W, hW⟩ : ∃ W, w.alloc (.cells #[.int .i64 (f : Int), .int .i64 z, .int .i64 tk] 52) = W := ⟨_, rfl⟩
 rw [hW] at hAW hbW
 have b0 : W.cell? ⟨w.heap.size, 0, none⟩ = some (.int .i64 (f : Int)) := by rw [← hW]; simp
 have b1 : W.cell? ⟨w.heap.size, 1, none⟩ = some (.int .i64 z) := by rw [← hW]; simp
 have a0 := hA.cells.c0
 have a1 := hAW.cells.c1
 have a2 := hAW.cells.c2
 have a3 := hAW.cells.c3
 have a4 := hAW.cells.c4
 rw [hcv] at a4
 rw [hnl] at a0 a2
 rw [hw8] at a1
 have eq : W.cell? ⟨qb, qo + f, none⟩ = some (.int .i64 x) := cell_later hbW dq
 have hkey : keyOf Tryz.prog 3 (.int .i64 (f : Int)) = some (.int .i64 (f : Int)) := Go.Maps.keyOf_int_mk Tryz.underlying3 (WalkArith.wf_i64 (by omega))
 have hlook : ∀ m, (Instr.lookup 230 (.map (some gm)) (.int .i64 (f : Int)) false).run Tryz.prog (W.drewN m) = .ok (.int .i64 la) (W.drewN m) := fun m => by
  have := (hAW.later (below_drewN (Below.refl _ _) m)).tells.look Tryz.keyed Tryz.underMap Tryz.underlying3 (Tryz.zeroInt _) hkey
  rw [hla] at this
  exact this
 have HA : Hid (FairAt B g gt gm ps.length (.slice (some ⟨pb, off, none⟩) ps.length pcap) (.slice (some ⟨qb, qo, none⟩) ws.length qcap) W rv q ∧ (∀ k, D k ↔ fairFoot g gt gm rv k) ∧ Below w.heap.size w W) := ⟨hAW, hD, hbW⟩
 have v1 : IntKind.i64.wrap (z * 12) = z * 12 := IntWalk.i64_in _ (by omega)
 have hf8i : (f : Int) < 8 := by omega
 have hx1 : 1 ≤ x := hwt.1
 have hx0 : ¬ x = 0 := by omega
 have hx2 : (x == 0) = false := by simpa using hx0
 have v3 : IntKind.i64.wrap I = I := IntWalk.i64_in _ (by omega)
 obtain ⟨T, hT⟩ : ∃ T, max cv la + I = T := ⟨_, rfl⟩
 have v2 : IntKind.i64.wrap (max cv la + I) = T := by rw [← hT]; exact IntWalk.i64_in _ (by omega)
 have HT : Hid (0 ≤ T ∧ T ≤ 200000000) := ⟨by omega, by omega⟩
 rw [hT]
 have HW : Hid (w.alloc (.cells #[.int .i64 (f : Int), .int .i64 z, .int .i64 tk] 52) = W) := hW
 rw [hnl] at hkl hfew
 have HN : Hid (ps.length = n ∧ q.v = cv ∧ q.last f = la) := ⟨hnl, hcv, hla⟩
 clear h hlw hnw hc hqc hp hx hinc hcome hA hAW hD hf hI hz htk hla hcv hnl hl hW hpf E
 go_enter Tryz.func162, Tryz.ntmps162
 go_wp2_with fail
 rw [HW.out]
 go_quiet (fail)
 obtain ⟨V, hV⟩ : ∃ V, W.drewN nq = V := ⟨_, rfl⟩
 rw [hV]
 have hbV : Below W.heap.size W V := by rw [← hV]; exact below_drewN (Below.refl _ _) _
 have hAV := HA.out.1.later hbV
 have a2' := hAV.cells.c2
 rw [HN.out.1] at a2'
 have hkn : k < ps.length := by rw [HN.out.1]; exact hkl
 have ck := hAV.given.cell k hkn
 have fk := hAV.given.frozen k
 have hA2 := hAV.setTag hkn T
 have a3' := hA2.cells.c3
 have b0' : (V.setCell ⟨gt, k, none⟩ (.int .i64 T)).cell? ⟨w.heap.size, 0, none⟩ = some (.int .i64 (f : Int)) := by
  rw [World.cell?_setCell_other _ _ _ _ (fun e => by
   have e' : gt = w.heap.size := congrArg Addr.block e
   have := (HH.out.foot gt (((HA.out.2.1 gt).2 (.inr (.inl rfl))))).2
   omega)]
  exact cell_later hbV b0
 have HV : Hid (FairAt B g gt gm ps.length (.slice (some ⟨pb, off, none⟩) ps.length pcap) (.slice (some ⟨qb, qo, none⟩) ws.length qcap) (V.setCell ⟨gt, k, none⟩ (.int .i64 T)) rv { q with tag := put1 q.tag k T } ∧ Below W.heap.size W V) := ⟨hA2, hbV⟩
 have hwf : (Lit.int .i64 T).wf = true := WalkArith.wf_i64 (by have := HT.out; omega)
 have hA2d := hA2.later (below_drewN (Below.refl _ _) 1)
 obtain ⟨W3, hupd, ht3, hg3⟩ := hA2d.tells.store Tryz.keyed Tryz.underMap Tryz.underlying3 hf8 hkey hwf
 have h3 := hA2d.setLast hg3 ht3
 have a5 := h3.1.cells.c5
 have f5 := h3.1.cells.free 5
 have HV3 : Hid (FairAt B g gt gm ps.length (.slice (some ⟨pb, off, none⟩) ps.length pcap) (.slice (some ⟨qb, qo, none⟩) ws.length qcap) W3 rv { q with tag := put1 q.tag k T, last := put1 q.last f T } ∧ But (fun k => k = gm) ((V.setCell ⟨gt, k, none⟩ (.int .i64 T)).drewN 1) W3) := h3
 obtain ⟨V2, hV2⟩ : ∃ V2, V.setCell ⟨gt, k, none⟩ (.int .i64 T) = V2 := ⟨_, rfl⟩
 have HV2 : Hid (V.setCell ⟨gt, k, none⟩ (.int .i64 T) = V2) := hV2
 have hupd' : (Instr.mapUpdate 230 (.map (some gm)) (.int .i64 (f : Int)) (.int .i64 T)).run Tryz.prog V2.drew = .ok () W3 := by rw [← hV2]; exact hupd
 rw [hV2] at a3' b0'
 clear hV hbV hAV hA2 a0 a1 a2 a3 a4 d0 d1 d2 dq eq b0 b1 hlook v1 v2 v3 hkn hdiv hincr hupd h3 hA2d ht3 hg3
 go_wp2_with fail
 clear hV2
 go_region
 have H3 := HV3.out.1
 have hb0 : Below W3.heap.size W3 (W3.alloc (.cells #[.int .i64 (k : Int)] 3)) := (Below.refl _ _).alloc (Nat.le_refl _) _
 have HA4 : Hid (FairAt B g gt gm ps.length (.slice (some ⟨pb, off, none⟩) ps.length pcap) (.slice (some ⟨qb, qo, none⟩) ws.length qcap) (W3.alloc (.cells #[.int .i64 (k : Int)] 3)) rv { q with tag := put1 q.tag k T, last := put1 q.last f T }) := H3.later hb0
 have HRow : Hid ((W3.alloc (.cells #[.int .i64 (k : Int)] 3)).ownsRow B 3 1 rv q.q.length (ints (asInts q.q))) := HA4.out.row
 have HNew : Hid (∀ j u, (ints [(k : Int)])[j]? = some u → (W3.alloc (.cells #[.int .i64 (k : Int)] 3)).cell? (Addr.add ⟨W3.heap.size, 0, none⟩ j) = some u) := by
  intro j u hu
  cases j with
  | zero => simp [ints] at hu; subst hu; simp [Addr.add]
  | succ j => simp [ints] at hu
 have HBs : Hid (B ≤ (W3.alloc (.cells #[.int .i64 (k : Int)] 3)).heap.size) := by
  have := (HA4.out.foot g (.inl rfl))
  show B ≤ _
  omega
 obtain ⟨i0, hi, hz0, hz1, hz2⟩ := info_parts Tryz.infoInt
 clear H3 hb0
 go_wp2_with (at_builtin; go_must (refine wpList_append_lies _ rfl _ _ 23 rfl B 3 i0 (.int .i64 0) 1 8 Tryz.underlying23 hi hz0 hz1 hz2 rfl (by decide) rv q.q.length (ints (asInts q.q)) rfl HRow.out ⟨W3.heap.size, 0, none⟩ 1 1 (ints [(k : Int)]) rfl rfl HNew.out (ints_one _) (by decide) (by unfold maxLen; omega) (by omega) HBs.out _ rfl ?_; intro g5 cap5 w5 ho5 hg5 hat5 hlt5; have hbut : But (fun k => rv.ownBlock = some k) (W3.alloc (.cells #[.int .i64 (k : Int)] 3)) w5 := ⟨hg5.os, hg5.tape, hg5.output, hg5.size, fun k hk hn => hg5.block k hk (fun e => hn e.symm)⟩; have hc5 := HA4.out.cells.but hbut (fun e => HA4.out.rapart.1 e); have c5 := hc5.c5; have f5 := hc5.free 5; have H5 : Hid (w5.ownsRow B 3 1 (.slice (some ⟨g5, 0, none⟩) (q.q.length + 1) cap5) (q.q.length + 1) (ints (asInts q.q) ++ ints [(k : Int)]) ∧ But (fun k => rv.ownBlock = some k) (W3.alloc (.cells #[.int .i64 (k : Int)] 3)) w5 ∧ (rv.ownBlock = some g5 ∨ g5 = (W3.alloc (.cells #[.int .i64 (k : Int)] 3)).heap.size)) := ⟨ho5, hbut, hat5⟩; clear ho5 hg5 hat5 hlt5 hbut hc5))
 go_end0
 have hnew5 : ∀ j, (Value.slice (some ⟨g5, 0, none⟩) (q.q.length + 1) cap5).ownBlock = some j → rv.ownBlock = some j ∨ (W3.alloc (.cells #[.int .i64 (k : Int)] 3)).heap.size ≤ j := fun j hj => by
  have e : g5 = j := Option.some.inj hj
  rcases H5.out.2.2 with h | h
  · exact .inl (by rw [← e]; exact h)
  · exact .inr (by rw [← e, h]; exact Nat.le_refl _)
 have hrow5 : w5.ownsRow B 3 1 (.slice (some ⟨g5, 0, none⟩) (q.q.length + 1) cap5) (q.q ++ [k]).length (ints (asInts (q.q ++ [k]))) := by
  rw [asInts_snoc, List.length_append]
  exact H5.out.1
 have hfin := HA4.out.setR (r' := q.q ++ [k]) H5.out.2.1 hrow5 hnew5
 have hDf := HA.out.2.1
 have hg_ : D g := (hDf g).2 (.inl rfl)
 have hgt_ : D gt := (hDf gt).2 (.inr (.inl rfl))
 have hgm_ : D gm := (hDf gm).2 (.inr (.inr (.inl rfl)))
 have e1 : But D w V := (But.ofBelow HA.out.2.2).trans (.ofBelow HV.out.2)
 have e2 : But D V V2 := by rw [← HV2.out]; exact (butF V gt k _).mono fun j hj => by rw [hj]; exact hgt_
 have e3 : But D V2 W3 := by
  have := HV3.out.2
  rw [HV2.out] at this
  exact (But.ofBelow (below_drewN (Below.refl _ _) 1)).trans (this.mono fun j hj => by rw [hj]; exact hgm_)
 have e4 : But D W3 (w5.setCell ⟨g, 5, none⟩ (.slice (some ⟨g5, 0, none⟩) (q.q.length + 1) cap5)) := ((But.ofBelow ((Below.refl _ _).alloc (Nat.le_refl _) _)).trans (H5.out.2.1.mono fun j hj => (hDf j).2 (.inr (.inr (.inr hj))))).trans ((butF _ _ _ _).mono fun j hj => by rw [hj]; exact hg_)
 have hall := ((e1.trans e2).trans e3).trans e4
 refine ⟨rfl, HH.out.leaves hDf hall (by rw [HN.out.2.1] at hfin; exact hfin) (fun j hj => ?_)⟩
 rcases hnew5 j hj with h | h
 · exact .inl h
 ·
  exact .inr (by
   have := ((e1.trans e2).trans e3).size
   simp at h
   omega)
end
end Go.Proofs.YtibhkijaafdkoaaGreatDoor

namespace Go.Proofs.YtibhkijaafdkoaaGreatDoor
open Go.RowKit
def ruleW (g : Nat) : Value := .agg #[.func (.func 162) #[.pointer (some ⟨g, 0, none⟩)] #[], .func (.func 163) #[.pointer (some ⟨g, 0, none⟩)] #[], .func (.func 164) #[.pointer (some ⟨g, 0, none⟩)] #[]]
section
variable {B : Nat} {W0 : World} {g gt gm : Nat} {pa : Option Addr} {pcap : Nat} {qa : Option Addr} {qcap : Nat} {ps : List Pk} {ws : List Int} {D : Nat → Prop} {q : FQ} {w : World} {pv qv : Value} {n : Nat}
set_option maxHeartbeats 1000000 in
theorem fairRuleRest (h : HeldW B W0 g gt gm n pv qv w D q) :
  Calls Tryz.prog 220 #[ruleW g] w fun e w' => e = .returned (.int .i64 (q.q.length : Int)) ∧ QueLeft (HeldW B W0 g gt gm n pv qv) w w' D ((fairQ ps ws).asked q) := by
 have HP : Hid (∀ w', HeldW B W0 g gt gm n pv qv w' D q → Calls Tryz.prog 164 #[.pointer (some ⟨g, 0, none⟩)] w' fun e w'' => e = .returned (.int .i64 (q.q.length : Int)) ∧ QueLeft (HeldW B W0 g gt gm n pv qv) w' w'' D ((fairQ ps ws).asked q)) := fun w' h' => fairRest h'
 have HH : Hid (HeldW B W0 g gt gm n pv qv w D q) := h
 clear h
 unfold ruleW
 go_enter Tryz.func220, Tryz.ntmps220
 go_wp2_with fail
 refine (HP.out _ (HH.out.alloc _)).mono ?_
 rintro e w1 ⟨rfl, ho⟩
 have HO : Hid (QueLeft (HeldW B W0 g gt gm n pv qv) w w1 D ((fairQ ps ws).asked q)) := ho.after ((Below.refl _ _).alloc (Nat.le_refl _) _)
 clear ho
 go_wp2_with fail
 go_ret
 exact ⟨rfl, HO.out⟩
set_option maxHeartbeats 1000000 in
theorem fairRulePick (h : HeldW B W0 g gt gm n pv qv w D q) (h0 : 0 < q.q.length) (hn : q.q.length ≤ 300) (hnd : q.q.Nodup) (hq : ∀ k, k ∈ q.q → k < n) :
  Calls Tryz.prog 219 #[ruleW g] w fun e w' => e = .returned (.int .i64 ((fairQ ps ws).pick q : Nat)) ∧ QueLeft (HeldW B W0 g gt gm n pv qv) w w' D ((fairQ ps ws).left q) := by
 have HP : Hid (∀ w', HeldW B W0 g gt gm n pv qv w' D q → Calls Tryz.prog 163 #[.pointer (some ⟨g, 0, none⟩)] w' fun e w'' => e = .returned (.int .i64 ((fairQ ps ws).pick q : Nat)) ∧ QueLeft (HeldW B W0 g gt gm n pv qv) w' w'' D ((fairQ ps ws).left q)) := fun w' h' => fairPick h' h0 hn hnd hq
 have HH : Hid (HeldW B W0 g gt gm n pv qv w D q) := h
 clear h hq h0 hnd
 unfold ruleW
 go_enter Tryz.func219, Tryz.ntmps219
 go_wp2_with fail
 refine (HP.out _ (HH.out.alloc _)).mono ?_
 rintro e w1 ⟨rfl, ho⟩
 have HO : Hid (QueLeft (HeldW B W0 g gt gm n pv qv) w w1 D ((fairQ ps ws).left q)) := ho.after ((Below.refl _ _).alloc (Nat.le_refl _) _)
 clear ho
 go_wp2_with fail
 go_ret
 exact ⟨rfl, HO.out⟩
set_option maxHeartbeats 1000000 in
theorem fairRuleCome (E : FairEnv B W0 pa qa ps ws) (h : HeldW B W0 g gt gm ps.length (.slice pa ps.length pcap) (.slice qa ws.length qcap) w D q) (hn : q.q.length ≤ 300) (hv : 0 ≤ q.v ∧ q.v ≤ 100000000) (hl : ∀ f, 0 ≤ q.last f ∧ q.last f ≤ 100000000) {k : Nat} {p : Pk} (hp : ps[k]? = some p) :
  Calls Tryz.prog 218 #[ruleW g, .int .i64 (k : Int)] w fun e w' => e = .returned (.tuple #[]) ∧ QueLeft (HeldW B W0 g gt gm ps.length (.slice pa ps.length pcap) (.slice qa ws.length qcap)) w w' D ((fairQ ps ws).come q k) := by
 have HP : Hid (∀ w', HeldW B W0 g gt gm ps.length (.slice pa ps.length pcap) (.slice qa ws.length qcap) w' D q → Calls Tryz.prog 162 #[.pointer (some ⟨g, 0, none⟩), .int .i64 (k : Int)] w' fun e w'' => e = .returned (.tuple #[]) ∧ QueLeft (HeldW B W0 g gt gm ps.length (.slice pa ps.length pcap) (.slice qa ws.length qcap)) w' w'' D ((fairQ ps ws).come q k)) := fun w' h' => fairCome E h' hn hv hl hp
 have HH : Hid (HeldW B W0 g gt gm ps.length (.slice pa ps.length pcap) (.slice qa ws.length qcap) w D q) := h
 clear h hp hl hv
 unfold ruleW
 go_enter Tryz.func218, Tryz.ntmps218
 go_wp2_with fail
 refine (HP.out _ (HH.out.alloc _)).mono ?_
 rintro e w1 ⟨rfl, ho⟩
 have HO : Hid (QueLeft (HeldW B W0 g gt gm ps.length (.slice pa ps.length pcap) (.slice qa ws.length qcap)) w w1 D ((fairQ ps ws).come q k)) := ho.after ((Below.refl _ _).alloc (Nat.le_refl _) _)
 clear ho
 go_wp2_with fail
 go_end0
 exact ⟨rfl, HO.out⟩
end
def SentTags (per : Int) (ps : List Pk) (ws : List Int) (B g gt : Nat) (w : World) (v : Value) (w' : World) : Prop :=
 ∃ l f, OwnS w' w.heap.size v l ∧ FairSent per ps ws l ((List.range ps.length).map f) ∧ Below B w w' ∧ NumsAt w' gt ps.length f ∧ w'.cell? ⟨g, 2, none⟩ = some (.slice (some ⟨gt, 0, none⟩) ps.length ps.length)
theorem asked_tag (ps : List Pk) (ws : List Int) (q : FQ) : ((fairQ ps ws).asked q).tag = q.tag := by
 unfold Que.asked
 split <;> rfl
theorem fairSend_ok (a : Option Addr) (cap : Nat) (ps : List Pk) (per : Int) (na : Option Addr) (ncap : Nat) (ws : List Int) (B : Nat) (W0 : World) (g gt gm : Nat) (D0 : Nat → Prop) (w : World) (E : FairEnv B W0 a na ps ws) (h1 : 1 ≤ per) (h2 : per ≤ 1000) (h0 : HeldW B W0 g gt gm ps.length (.slice a ps.length cap) (.slice na ws.length ncap) w D0 fair0) :
  Calls Tryz.prog 59 #[.slice a ps.length cap, .int .i64 per, .iface 164 (ruleW g)] w fun e w' => ∃ v, e = .returned v ∧ SentTags per ps ws B g gt w v w' := by
 have hw := E.ws.ok
 have hlaw := fair_law (per := per) hw E.ok h1
 have hlen : ∀ s, Reaches (fairQ ps ws) per ps fair0 s → s.q.q.length ≤ 300 ∧ s.next ≤ 300 := fun s hr => by
  have hc := hr.count hlaw
  have hn := hr.next_le
  have := E.ok.few
  have : (fairQ ps ws).rest s.q = s.q.q.length := rfl
  omega
 refine (send_held (fairQ ps ws) (HeldW B W0 g gt gm ps.length (.slice a ps.length cap) (.slice na ws.length ncap)) per ps fair0 B _ _ _ (fairMem B W0 g gt gm _ _ _) hlaw E.ok h1 h2 ?_ ?_ ?_ a cap w (E.pk.bel E.pB h0.env) h0.le E.pB D0 h0).mono ?_
 ·
  intro w D s p hr hp hh
  obtain ⟨l1, l2⟩ := hlen s hr
  obtain ⟨t1, t2, -⟩ := fair_tags hw E.ok hr
  exact fairRuleCome E hh l1 (by omega) (fun f => by have := t2 f; omega) hp
 ·
  intro w D s hr h0' hh
  obtain ⟨H, r⟩ := fair_run hw E.ok h1 hr
  exact fairRulePick hh h0' (hlen s hr).1 r.state.nodup (fun k hk => by have := (r.only k hk).1; have := r.le; omega)
 ·
  intro w D s hr hh
  exact fairRuleRest hh
 ·
  rintro e w' ⟨s, v, rfl, hr, hn, hrest, hown, hb, D', hh⟩
  obtain ⟨rv, hA, -⟩ := hh.parts
  have hg := hA.given
  rw [asked_tag] at hg
  exact ⟨v, rfl, s.out, s.q.tag, hown, ⟨s, hr, hn, hrest, rfl, rfl⟩, hb, hg, hA.cells.c2⟩
set_option maxHeartbeats 1000000 in
theorem fairQueue_any (g : Nat) (w : World) : Calls Tryz.prog 137 #[.pointer (some ⟨g, 0, none⟩)] w fun e w' => e = .returned (.iface 164 (ruleW g)) ∧ Below w.heap.size w w' := by
 unfold ruleW
 go_enter Tryz.func137, Tryz.ntmps137
 go_wp2_with fail
 go_ret
 exact ⟨rfl, Below.refl _ _⟩
theorem fair_new (w : World) (pv qv : Value) (pl : Nat) (ti tt : TypeId) : FairAt w.heap.size (w.heap.size + 1 + 1) w.heap.size (w.heap.size + 1) pl pv qv (((w.alloc (.cells (madeCells #[.int .i64 0] pl) ti)).alloc (.map #[] 0)).alloc (.cells #[pv, qv, .slice (some ⟨w.heap.size, 0, none⟩) pl pl, .map (some (w.heap.size + 1)), .int .i64 0, .slice none 0 0] tt)) (.slice none 0 0) fair0 ∧ Below w.heap.size w (((w.alloc (.cells (madeCells #[.int .i64 0] pl) ti)).alloc (.map #[] 0)).alloc (.cells #[pv, qv, .slice (some ⟨w.heap.size, 0, none⟩) pl pl, .map (some (w.heap.size + 1)), .int .i64 0, .slice none 0 0] tt)) := by
 obtain ⟨w1, hw1⟩ : ∃ w1, w.alloc (.cells (madeCells #[.int .i64 0] pl) ti) = w1 := ⟨_, rfl⟩
 obtain ⟨w2, hw2⟩ : ∃ w2, w1.alloc (.map #[] 0) = w2 := ⟨_, rfl⟩
 have s1 : w1.heap.size = w.heap.size + 1 := by rw [← hw1]; simp
 have s2 : w2.heap.size = w.heap.size + 1 + 1 := by rw [← hw2]; simp [s1]
 have b1 : Below w.heap.size w w1 := by rw [← hw1]; exact (Below.refl _ _).alloc (Nat.le_refl _) _
 have b2 : Below w1.heap.size w1 w2 := by rw [← hw2]; exact (Below.refl _ _).alloc (Nat.le_refl _) _
 have t1 : NumsAt w1 w.heap.size pl (fun _ => 0) := by rw [← hw1]; exact nums_made w pl ti
 have t2 : Tells Tryz.prog 3 3 w2 (w.heap.size + 1) (fun _ => 0) := by rw [← hw2, ← s1]; exact tells_made w1 _ _ _
 rw [hw1, hw2]
 obtain ⟨cs, hcs⟩ : ∃ cs : Array Value, cs = #[pv, qv, .slice (some ⟨w.heap.size, 0, none⟩) pl pl, .map (some (w.heap.size + 1)), .int .i64 0, .slice none 0 0] := ⟨_, rfl⟩
 rw [← hcs]
 have hc : ∀ i, (w2.alloc (.cells cs tt)).cell? ⟨w.heap.size + 1 + 1, i, none⟩ = cs[i]? := fun i => by rw [← s2]; exact World.cell?_alloc_at _ _ _ _ rfl
 have b3 : Below w2.heap.size w2 (w2.alloc (.cells cs tt)) := (Below.refl _ _).alloc (Nat.le_refl _) _
 have b13 : Below w1.heap.size w1 (w2.alloc (.cells cs tt)) := b2.trans (b3.mono b2.size)
 refine ⟨⟨⟨by rw [hc, hcs]; rfl, by rw [hc, hcs]; rfl, by rw [hc, hcs]; rfl, by rw [hc, hcs]; rfl, by rw [hc, hcs]; rfl, by rw [hc, hcs]; rfl, fun i => by rw [← s2]; exact World.frozen?_alloc_new w2 _ _ i⟩, t1.of_block (b13.block _ t1.lt) b13.size, t2.but (S := fun _ => False) (.ofBelow b3) id, World.ownsRow_nil _ _ _ _, by omega, ⟨(fun e => by cases e), (fun e => by cases e), fun e => by cases e⟩, by omega⟩, b1.trans (b13.mono b1.size)⟩
set_option maxHeartbeats 1000000 in
theorem newTags_any (pa : Option Addr) (pl pcap : Nat) (qa : Option Addr) (ql qcap : Nat) (w : World) (hpl : pl ≤ 1000) :
  Calls Tryz.prog 136 #[.slice pa pl pcap, .slice qa ql qcap] w fun e w' => ∃ g gt gm, e = .returned (.pointer (some ⟨g, 0, none⟩)) ∧ HeldW w.heap.size w g gt gm pl (.slice pa pl pcap) (.slice qa ql qcap) w' (fairFoot g gt gm (.slice none 0 0)) fair0 ∧ Below w.heap.size w w' := by
 have hmi : ∀ w' : World, (Instr.makeSlice 23 (.int .i64 pl) (.int .i64 pl)).run Tryz.prog w' = .ok (.slice (some ⟨w'.heap.size, 0, none⟩) pl pl) (w'.alloc (.cells (madeCells #[.int .i64 0] pl) 3)) := fun w' => by
  obtain ⟨i0, hi, hz0, hz1, hz2⟩ := info_parts Tryz.infoInt
  have := run_make (P := Tryz.prog) w' 23 3 i0 (.int .i64 0) Tryz.underlying23 hi hz0 .i64 .i64 pl pl (by omega) (by omega) (by rw [hz2]; omega) (by omega)
  simpa [hz1, Value.cells] using this
 have hmm := @run_makeMap Tryz.prog
 go_enter Tryz.func136, Tryz.ntmps136
 go_wp2_with fail
 go_ret
 obtain ⟨h1, h2⟩ := fair_new w (.slice pa pl pcap) (.slice qa ql qcap) pl 3 232
 exact ⟨_, _, _, rfl, ⟨h2, _, h1, fun _ => Iff.rfl⟩, h2⟩
end Go.Proofs.YtibhkijaafdkoaaGreatDoor

namespace Go.Proofs.YtibhkijaafdkoaaGreatDoor
open Go.RowKit
set_option maxHeartbeats 1000000 in
theorem weight_yes (x : Int) (w : World) (h : isWt x) : Calls Tryz.prog 161 #[.int .i64 x] w fun e w' => e = .returned (.bool true) ∧ w' = w := by
 obtain ⟨h1, h2⟩ := h
 have h3 : (12 % x == 0) = true := by simpa using h2
 clear h2
 go_enter Tryz.func161, Tryz.ntmps161
 go_wp2
 go_ret
 exact ⟨rfl, rfl⟩
set_option maxHeartbeats 1000000 in
theorem weight_no (x : Int) (w : World) (h : ¬ isWt x) : Calls Tryz.prog 161 #[.int .i64 x] w fun e w' => e = .returned (.bool false) ∧ w' = w := by
 by_cases h1 : 1 ≤ x
 ·
  have h4 : (12 % x == 0) = false := by simpa using fun h2 => h ⟨h1, h2⟩
  clear h
  go_enter Tryz.func161, Tryz.ntmps161
  go_wp2
  go_ret
  exact ⟨rfl, rfl⟩
 ·
  clear h
  go_enter Tryz.func161, Tryz.ntmps161
  go_wp2
  go_ret
  exact ⟨rfl, rfl⟩
set_option maxHeartbeats 2000000 in
theorem checkWeights_to (a : Option Addr) (cap : Nat) (ns : List Int) (w : World) (ad : Nat → Addr) (hl : LiesN w a ns) (h8 : ns.length = 8) (j : Nat) (hj : j ≤ 8) (hg : ∀ (i : Nat) y, i < j → ns[i]? = some y → isWt y) (R : Value)
  (h : (j = 8 ∧ R = .nilIface) ∨ (R = .iface 271 (.pointer (some (ad 1))) ∧ w.cell? ⟨3, 0, none⟩ = some (.iface 271 (.pointer (some (ad 1)))) ∧ ∃ x, ns[j]? = some x ∧ ¬ isWt x)) :
  Calls Tryz.prog 57 #[.slice a 8 cap, .func (.func 161) #[] #[]] w fun e w' => e = .returned R ∧ w' = w := by
 have HG : Hid (∀ (i : Nat) y, i < j → ns[i]? = some y → isWt y) := hg
 have HR : Hid ((j = 8 ∧ R = .nilIface) ∨ (R = .iface 271 (.pointer (some (ad 1))) ∧ w.cell? ⟨3, 0, none⟩ = some (.iface 271 (.pointer (some (ad 1)))) ∧ ∃ x, ns[j]? = some x ∧ ¬ isWt x)) := h
 obtain ⟨b, off, rfl, -, hcell⟩ := hl.place (by omega)
 have HC : Hid (∀ (i : Nat) x, ns[i]? = some x → w.cell? ⟨b, off + i, none⟩ = some (.int .i64 x)) := hcell
 have H8 : Hid (ns.length = 8) := h8
 clear hg h hl hcell h8
 go_enter Tryz.func57, Tryz.ntmps57
 go_wp2_with fail
 go_loopw [13] (fun i wr => ∃ k : Nat, k ≤ j ∧ i = .int .i64 k ∧ wr = w) (fun i _ => 8 - (intOf i).toNat)
 case atStart => exact ⟨0, Nat.zero_le _, rfl, rfl⟩
 case round =>
  obtain ⟨k, hk, rfl, rfl⟩ := hrel
  by_cases hkj : k < j
  ·
   obtain ⟨x, hx, -⟩ := get_some ns k (by rw [H8.out]; omega)
   have hok := HG.out k x hkj hx
   have c1 := HC.out k x hx
   clear hx
   go_wp2_with fail
   refine (weight_yes x _ hok).mono ?_
   rintro e w1 ⟨rfl, rfl⟩
   go_wp2_with fail
   go_roundw
   case rel => exact ⟨k + 1, by omega, by go_num, trivial⟩
   case measure => simp [intOf]; omega
  ·
   obtain rfl : k = j := by omega
   rcases HR.out with ⟨rfl, rfl⟩ | ⟨rfl, he, x, hx, hbad⟩
   ·
    go_wp2_with fail
    go_ret
    exact ⟨rfl, rfl⟩
   ·
    have c1 := HC.out k x hx
    have hk8 : k < 8 := by
     rw [← H8.out]
     rcases Nat.lt_or_ge k ns.length with h' | h'
     · exact h'
     · simp [List.getElem?_eq_none h'] at hx
    clear hx
    go_wp2_with fail
    refine (weight_no x _ hbad).mono ?_
    rintro e w1 ⟨rfl, rfl⟩
    go_wp2_with fail
    go_ret
    exact ⟨rfl, rfl⟩
theorem checkWeights_ok (a : Option Addr) (cap : Nat) (ns : List Int) (w : World) (hl : LiesN w a ns) (ho : WtsAll ns) :
  Calls Tryz.prog 57 #[.slice a ns.length cap, .func (.func 161) #[] #[]] w fun e w' => e = .returned .nilIface ∧ w' = w := by
 rw [ho.len]
 exact checkWeights_to a cap ns w (fun _ => ⟨0, 0, none⟩) hl ho.len 8 (Nat.le_refl _) (fun i y _ hy => ho.each i y hy) _ (.inl ⟨rfl, rfl⟩)
theorem checkWeights_bad (a : Option Addr) (cap : Nat) (ns : List Int) (w : World) (ad : Nat → Addr) (he : NumErrs w ad) (hl : LiesN w a ns) (c : Nat) (h : WtsFault ns c) (hc : 0 < c) :
  Calls Tryz.prog 57 #[.slice a ns.length cap, .func (.func 161) #[] #[]] w fun e w' => e = .returned (sentOf ad c) ∧ w' = w := by
 rcases h with ⟨rfl, h8⟩ | ⟨rfl, j, h8, ⟨x, hx, hbad⟩, hg⟩ | ⟨rfl, -⟩
 · exact checkNumbers_shape a ns.length cap _ w ad h8 he.2
 ·
  rw [h8]
  exact checkWeights_to a cap ns w ad hl h8 j (by have := lt_of_get hx; omega) hg _ (.inr ⟨rfl, he.1, x, hx, hbad⟩)
 · omega
end Go.Proofs.YtibhkijaafdkoaaGreatDoor

namespace Go.Proofs.YtibhkijaafdkoaaGreatDoor
open Go.RowKit
set_option maxHeartbeats 1000000 in
theorem fairCheck_ok (a : Option Addr) (cap : Nat) (ps : List Pk) (per : Int) (na : Option Addr) (ncap : Nat) (ws : List Int) (w : World) (hl : LiesP w a ps) (hn : LiesN w na ws) (ho : OkPks ps) (h1 : 1 ≤ per) (h2 : per ≤ 1000) (hk : WtsAll ws) :
  Calls Tryz.prog 135 #[.slice a ps.length cap, .int .i64 per, .slice na ws.length ncap] w fun e w' => e = .returned .nilIface ∧ Below w.heap.size w w' := by
 have HCheck : Hid (Calls Tryz.prog 52 #[.slice a ps.length cap, .int .i64 per] w fun e w' => e = .returned .nilIface ∧ Below w.heap.size w w') := linkCheck_ok a cap ps per w hl ho h1 h2
 have HUp : Hid (∀ W, Below w.heap.size w W → Calls Tryz.prog 57 #[.slice na ws.length ncap, .func (.func 161) #[] #[]] W fun e w' => e = .returned .nilIface ∧ w' = W) := fun W hb => checkWeights_ok na ncap ws W (hn.below hb) hk
 clear hl hn ho hk
 generalize ps.length = n at *
 generalize ws.length = m at *
 go_enter Tryz.func135, Tryz.ntmps135
 go_wp2_with fail
 refine HCheck.out.mono ?_
 rintro e w1 ⟨rfl, hb⟩
 have HB1 : Hid (Below w.heap.size w w1) := hb
 clear hb
 go_wp2_with fail
 refine (HUp.out _ HB1.out).mono ?_
 rintro e w2 ⟨rfl, rfl⟩
 go_wp2_with fail
 go_ret
 exact ⟨rfl, HB1.out⟩
set_option maxHeartbeats 1000000 in
theorem fairCheck_err1 {R : TypeId → Value → World → Prop} (a : Option Addr) (n cap : Nat) (per : Int) (na : Option Addr) (m ncap : Nat) (w : World) (h : Calls Tryz.prog 52 #[.slice a n cap, .int .i64 per] w fun e w' => ∃ ty v, e = .returned (.iface ty v) ∧ R ty v w') :
  Calls Tryz.prog 135 #[.slice a n cap, .int .i64 per, .slice na m ncap] w fun e w' => ∃ ty v, e = .returned (.iface ty v) ∧ R ty v w' := by
 have HC : Hid (Calls Tryz.prog 52 #[.slice a n cap, .int .i64 per] w fun e w' => ∃ ty v, e = .returned (.iface ty v) ∧ R ty v w') := h
 clear h
 go_enter Tryz.func135, Tryz.ntmps135
 go_wp2_with fail
 refine HC.out.mono ?_
 rintro e w1 ⟨ty, v, rfl, hR⟩
 have HR : Hid (R ty v w1) := hR
 clear hR
 go_wp2_with fail
 go_ret
 exact ⟨ty, v, rfl, HR.out⟩
set_option maxHeartbeats 1000000 in
theorem fairCheck_err2 {R : TypeId → Value → World → Prop} (a : Option Addr) (n cap : Nat) (per : Int) (na : Option Addr) (m ncap : Nat) (w : World) (h : Calls Tryz.prog 52 #[.slice a n cap, .int .i64 per] w fun e w' => e = .returned .nilIface ∧ Below w.heap.size w w')
  (h2 : ∀ W, Below w.heap.size w W → Calls Tryz.prog 57 #[.slice na m ncap, .func (.func 161) #[] #[]] W fun e w' => ∃ ty v, e = .returned (.iface ty v) ∧ R ty v w') :
  Calls Tryz.prog 135 #[.slice a n cap, .int .i64 per, .slice na m ncap] w fun e w' => ∃ ty v, e = .returned (.iface ty v) ∧ R ty v w' := by
 have HC : Hid (Calls Tryz.prog 52 #[.slice a n cap, .int .i64 per] w fun e w' => e = .returned .nilIface ∧ Below w.heap.size w w') := h
 have HU : Hid (∀ W, Below w.heap.size w W → Calls Tryz.prog 57 #[.slice na m ncap, .func (.func 161) #[] #[]] W fun e w' => ∃ ty v, e = .returned (.iface ty v) ∧ R ty v w') := h2
 clear h h2
 go_enter Tryz.func135, Tryz.ntmps135
 go_wp2_with fail
 refine HC.out.mono ?_
 rintro e w1 ⟨rfl, hb⟩
 have HB : Hid (Below w.heap.size w w1) := hb
 clear hb
 go_wp2_with fail
 refine (HU.out _ HB.out).mono ?_
 rintro e w2 ⟨ty, v, rfl, hR⟩
 have HR : Hid (R ty v w2) := hR
 clear hR
 go_wp2_with fail
 go_ret
 exact ⟨ty, v, rfl, HR.out⟩
theorem fairSend_from (a : Option Addr) (cap : Nat) (ps : List Pk) (per : Int) (na : Option Addr) (ncap : Nat) (ws : List Int) (w : World) (hl : LiesP w a ps) (hn : LiesN w na ws) (ho : OkPks ps) (h1 : 1 ≤ per) (h2 : per ≤ 1000) (hk : WtsAll ws) (W W3 W4 : World) (g gt gm : Nat) (D : Nat → Prop) (hb : Below w.heap.size w W) (h0 : HeldW W.heap.size W g gt gm ps.length (.slice a ps.length cap) (.slice na ws.length ncap) W3 D fair0) (hb3 : Below W.heap.size W W3) (hb4 : Below W3.heap.size W3 W4) :
  Calls Tryz.prog 59 #[.slice a ps.length cap, .int .i64 per, .iface 164 (ruleW g)] W4 fun e w' => ∃ v, e = .returned v ∧ SentTags per ps ws w.heap.size g gt w v w' := by
 have hlW := hl.below hb
 have hnW := hn.below hb
 have hs3 : W.heap.size ≤ W3.heap.size := hb3.size
 refine (fairSend_ok a cap ps per na ncap ws W.heap.size W g gt gm D W4 ⟨hlW, hnW, hlW.at_lt, fun ad had => ?_, ho, hk⟩ h1 h2 (h0.later hb4)).mono ?_
 ·
  obtain ⟨b, off, e, hlt, -⟩ := hnW.place (by rw [hk.len]; omega)
  rw [e] at had
  cases had
  exact hlt
 ·
  rintro e w' ⟨v, rfl, l, f, g1, g2, g3, g4, g5⟩
  have hbb : Below w.heap.size w W4 := (hb.trans (hb3.mono hb.size)).trans (hb4.mono (Nat.le_trans hb.size hs3))
  exact ⟨v, rfl, l, f, ownsRow_mono g1 hbb.size, g2, hbb.trans (g3.mono hb.size), g4, g5⟩
set_option maxRecDepth 100000 in
set_option maxHeartbeats 2000000 in
theorem fairRun_ok (a : Option Addr) (cap : Nat) (ps : List Pk) (per : Int) (na : Option Addr) (ncap : Nat) (ws : List Int) (w : World) (hl : LiesP w a ps) (hn : LiesN w na ws) (ho : OkPks ps) (h1 : 1 ≤ per) (h2 : per ≤ 1000) (hk : WtsAll ws) :
  Calls Tryz.prog 88 #[.slice a ps.length cap, .int .i64 per, .slice na ws.length ncap] w fun e w' => ∃ v, e = .returned (.tuple #[v, .nilIface]) ∧ ∃ g gt, SentTags per ps ws w.heap.size g gt w v w' := by
 have HCheck : Hid (Calls Tryz.prog 135 #[.slice a ps.length cap, .int .i64 per, .slice na ws.length ncap] w fun e w' => e = .returned .nilIface ∧ Below w.heap.size w w') := fairCheck_ok a cap ps per na ncap ws w hl hn ho h1 h2 hk
 have HNew : Hid (∀ W, Calls Tryz.prog 136 #[.slice a ps.length cap, .slice na ws.length ncap] W fun e w' => ∃ g gt gm, e = .returned (.pointer (some ⟨g, 0, none⟩)) ∧ HeldW W.heap.size W g gt gm ps.length (.slice a ps.length cap) (.slice na ws.length ncap) w' (fairFoot g gt gm (.slice none 0 0)) fair0 ∧ Below W.heap.size W w') := fun W => newTags_any a ps.length cap na ws.length ncap W (by have := ho.few; omega)
 have HSend : Hid (∀ W W3 W4 g gt gm D, Below w.heap.size w W → HeldW W.heap.size W g gt gm ps.length (.slice a ps.length cap) (.slice na ws.length ncap) W3 D fair0 → Below W.heap.size W W3 → Below W3.heap.size W3 W4 →
   Calls Tryz.prog 59 #[.slice a ps.length cap, .int .i64 per, .iface 164 (ruleW g)] W4 fun e w' => ∃ v, e = .returned v ∧ SentTags per ps ws w.heap.size g gt w v w') := fun W W3 W4 g gt gm D hb h0 hb3 hb4 => fairSend_from a cap ps per na ncap ws w hl hn ho h1 h2 hk W W3 W4 g gt gm D hb h0 hb3 hb4
 clear hl hn ho hk
 generalize hpl : ps.length = n at *
 generalize hnl : ws.length = m at *
 clear hpl hnl
 go_enter Tryz.func88, Tryz.ntmps88
 go_wp2_with fail
 refine HCheck.out.mono ?_
 rintro e w1 ⟨rfl, hb⟩
 have HB1 : Hid (Below w.heap.size w w1) := hb
 clear hb
 go_wp2_with fail
 refine (HNew.out _).mono ?_
 rintro e w3 ⟨g, gt, gm, rfl, hh, hb3⟩
 have HS : Hid (∀ W4, Below w3.heap.size w3 W4 → Calls Tryz.prog 59 #[.slice a n cap, .int .i64 per, .iface 164 (ruleW g)] W4 fun e w' => ∃ v, e = .returned v ∧ SentTags per ps ws w.heap.size g gt w v w') := fun W4 hb4 => HSend.out w1 w3 W4 g gt gm _ HB1.out hh hb3 hb4
 clear hh hb3
 go_wp2_with fail
 refine (fairQueue_any g _).mono ?_
 rintro e w4 ⟨rfl, hb4⟩
 have HC4 := HS.out w4 hb4
 have HS4 : Hid (Calls Tryz.prog 59 #[.slice a n cap, .int .i64 per, .iface 164 (ruleW g)] w4 fun e w' => ∃ v, e = .returned v ∧ SentTags per ps ws w.heap.size g gt w v w') := HC4
 clear HC4 hb4
 go_wp2_with fail
 refine HS4.out.mono ?_
 rintro e w5 ⟨v, rfl, hs⟩
 have HE : Hid (SentTags per ps ws w.heap.size g gt w v w5) := hs
 clear hs
 go_wp2_with fail
 go_ret2
 exact ⟨v, rfl, g, gt, HE.out⟩
set_option maxHeartbeats 1000000 in
theorem fairRun_err {R : TypeId → Value → World → Prop} (a : Option Addr) (n cap : Nat) (per : Int) (na : Option Addr) (m ncap : Nat) (w : World) (h : Calls Tryz.prog 135 #[.slice a n cap, .int .i64 per, .slice na m ncap] w fun e w' => ∃ ty v, e = .returned (.iface ty v) ∧ R ty v w') :
  Calls Tryz.prog 88 #[.slice a n cap, .int .i64 per, .slice na m ncap] w fun e w' => ∃ ty v, e = .returned (.tuple #[.slice none 0 0, .iface ty v]) ∧ R ty v w' := by
 have HC : Hid (Calls Tryz.prog 135 #[.slice a n cap, .int .i64 per, .slice na m ncap] w fun e w' => ∃ ty v, e = .returned (.iface ty v) ∧ R ty v w') := h
 clear h
 go_enter Tryz.func88, Tryz.ntmps88
 go_wp2_with fail
 refine HC.out.mono ?_
 rintro e w1 ⟨ty, v, rfl, hR⟩
 have HR : Hid (R ty v w1) := hR
 clear hR
 go_wp2_with fail
 go_ret2
 exact ⟨ty, v, rfl, HR.out⟩
end Go.Proofs.YtibhkijaafdkoaaGreatDoor
