/- Own facts, put together: no statement of its own. -/
import Derived.Test.YtipdclphpkgceaaGreatDoorA24
import Derived.Deep.AppendLies
set_option maxHeartbeats 8000000
set_option maxRecDepth 100000

namespace Go.Proofs.YtipdclphpkgceaaGreatDoor
open Go.RowKit
theorem MS (B g k pb off pcap L:Nat) (qv:Value) (vq:Nat → Value) (F:Nat → Nat → Prop) (rv:Value) (d:Drr) (n:Nat) (w:World) (h:Ao B g (.slice (some ⟨pb,off,none⟩) L pcap) qv w vq F rv d (n+1)) (y:Int) (hcp:∀ W,Below B w W → W.cell? ⟨pb,off+k * 3+1,none⟩=some (.int .i64 y)) (hy0:0 ≤ y) (hkl:k < L) (f:Nat) (r:List Nat) (hs:d.srv=some f) (hf:f < 8) (hc0:0 ≤ d.cr f) (hc1:d.cr f ≤ 1000000) (hy:y ≤ d.cr f) (hn:n ≤ 1000) (hr3:r.length ≤ 300) (hB:B ≤ w.heap.size) (qb qo cap:Nat) (hv:vq f=.slice (some ⟨qb,qo,none⟩) (r.length+1) cap) (hmx:cap ≤ maxLen) (ck:w.cell? ⟨qb,qo,none⟩=some (.int .i64 (k:Int))) (h1:1 < cap) (hsl:Bc w B (.slice (some ⟨qb,qo+1,none⟩) r.length (cap - 1)) (F f) r) (hr:r ≠ []) :
  Calls Tryz.prog 224 #[.pointer (some ⟨g,0,none⟩)] w fun e w'=>e=.returned (.int .i64 (k:Int)) ∧ Bl B g (.slice (some ⟨pb,off,none⟩) L pcap) qv w w' F rv { d with qs:=Au d.qs f r,cr:=Au d.cr f (d.cr f - y) } n:=by
 have HT:Hid (Ao B g (.slice (some ⟨pb,off,none⟩) L pcap) qv w vq F rv d (n+1)):=h
 have cs:w.cell? ⟨g,19,none⟩=some (.int .i64 (f:Int)):=by have:=h.cells.cs;rw [hs] at this;exact this
 have cq:=h.cells.cq f hf
 rw [hv] at cq
 have fq:=h.cells.free (2+f)
 obtain ⟨m,hm⟩:∃ m,r.length=m:=⟨_,rfl⟩
 have HM:Hid (r.length=m):=hm
 obtain ⟨c,hcr⟩:∃ c,d.cr f=c:=⟨_,rfl⟩
 have HCr:Hid (d.cr f=c):=hcr
 rw [hcr] at hc0 hc1 hy
 rw [hm] at cq hr3 hsl
 have HFoot:Hid (∀ k,AC g F rv k → B ≤ k):=fun k hk=>(h.foot k hk).1
 have HBB:Hid (B ≤ w.heap.size):=hB
 have HCp:Hid (∀ W,Below B w W → W.cell? ⟨pb,off+k * 3+1,none⟩=some (.int .i64 y)):=hcp
 have hfi:(f:Int) < 8:=by omega
 have hki:(k:Int) < (L:Int):=by omega
 have hm0:0 < m:=by rw [← hm];exact List.length_pos_iff.2 hr
 have hmd:((m:Int) == 0)=false:=by simp;omega
 unfold maxLen at hmx
 have HT1:Hid (Ao B g (.slice (some ⟨pb,off,none⟩) L pcap) qv (w.setCell ⟨g,2+f,none⟩ (.slice (some ⟨qb,qo+1,none⟩) m (cap - 1))).drew (Au vq f (.slice (some ⟨qb,qo+1,none⟩) m (cap - 1))) (Au F f (F f)) rv { d with qs:=Au d.qs f r } (n+1)):=(h.setQ hf (But.refl _ _) hsl (fun _ hk=>.inl hk)).later (Below.refl _ _).drew
 have HBt:Hid (But (AC g F rv) w (w.setCell ⟨g,2+f,none⟩ (.slice (some ⟨qb,qo+1,none⟩) m (cap - 1))).drew):=((Eu _ _ _ _).mono fun j hj=>.inl hj).drew
 clear h hs hv hm hcr hB hcp
 go_enter Tryz.func224,Tryz.ntmps224
 go_wp2_with fail
 go_region
 obtain ⟨V,hV⟩:∃ V,(w.setCell ⟨g,2+f,none⟩ (.slice (some ⟨qb,qo+1,none⟩) m (cap - 1))).drew=V:=⟨_,rfl⟩
 rw [hV] at HT1 HBt ⊢
 have HBel:Hid (Below B w V):=HBt.out.below HBB.out (fun k hk=>HFoot.out k hk)
 have v0:=HT1.out.cells.c0
 have v2:V.cell? ⟨g,10+f,none⟩=some (.int .i64 c):=by rw [← HCr.out];exact HT1.out.cells.cc f hf
 have v4:=HCp.out V HBel.out
 have v5:=HT1.out.cells.free (10+f)
 have hwr:IntKind.i64.wrap (c - y)=c - y:=IntWalk.i64_in _ (by omega)
 have HT2:Hid (Ao B g (.slice (some ⟨pb,off,none⟩) L pcap) qv (V.setCell ⟨g,10+f,none⟩ (.int .i64 (c - y))).drew (Au vq f (.slice (some ⟨qb,qo+1,none⟩) m (cap - 1))) (Au F f (F f)) rv { d with qs:=Au d.qs f r,cr:=Au d.cr f (c - y) } (n+1)):=(HT1.out.setC hf (c - y)).later (Below.refl _ _).drew
 have HBt2:Hid (But (AC g F rv) w (V.setCell ⟨g,10+f,none⟩ (.int .i64 (c - y))).drew):=(HBt.out.trans ((Eu _ _ _ _).mono fun j hj=>.inl hj)).drew
 clear hV cs cq fq ck
 go_wp2_with fail
 go_region
 obtain ⟨U,hU⟩:∃ U,(V.setCell ⟨g,10+f,none⟩ (.int .i64 (c - y))).drew=U:=⟨_,rfl⟩
 rw [hU] at HT2 HBt2 ⊢
 have u1:U.cell? ⟨g,20,none⟩=some (.int .i64 (((n+1:Nat)):Int)):=HT2.out.cells.cn
 have u2:=HT2.out.cells.free 20
 have HT3:Hid (Ao B g (.slice (some ⟨pb,off,none⟩) L pcap) qv (U.setCell ⟨g,20,none⟩ (.int .i64 (n:Int))) (Au vq f (.slice (some ⟨qb,qo+1,none⟩) m (cap - 1))) (Au F f (F f)) rv { d with qs:=Au d.qs f r,cr:=Au d.cr f (c - y) } n):=HT2.out.setN n rfl
 have u3:(U.setCell ⟨g,20,none⟩ (.int .i64 (n:Int))).cell? ⟨g,2+f,none⟩=some (.slice (some ⟨qb,qo+1,none⟩) m (cap - 1)):=by have:=HT3.out.cells.cq f hf;rwa [Aq] at this
 have hn1:(((n+1:Nat)):Int) - 1=(n:Int):=by omega
 rw [show (((n+1:Nat)):Int)=(n:Int)+1 by omega] at u1
 clear hU v0 v2 v4 v5
 go_wp2_with fail
 go_ret
 rw [HCr.out]
 refine ⟨rfl,⟨_,_,_,HT3.out,fun j hj=>GM hf (fun _ hk=>.inl hk) hj⟩,?_⟩
 exact HBt2.out.trans ((Eu _ _ _ _).mono fun j hj=>.inl hj)
theorem NM (B g k pb off pcap L:Nat) (qv:Value) (vq:Nat → Value) (F:Nat → Nat → Prop) (rv:Value) (d:Drr) (n:Nat) (w:World) (h:Ao B g (.slice (some ⟨pb,off,none⟩) L pcap) qv w vq F rv d (n+1)) (y:Int) (hcp:∀ W,Below B w W → W.cell? ⟨pb,off+k * 3+1,none⟩=some (.int .i64 y)) (hy0:0 ≤ y) (hkl:k < L) (f:Nat) (hs:d.srv=some f) (hf:f < 8) (hc0:0 ≤ d.cr f) (hc1:d.cr f ≤ 1000000) (hy:y ≤ d.cr f) (hn:n ≤ 1000) (hr3:([]:List Nat).length ≤ 300) (hB:B ≤ w.heap.size) (qb qo cap:Nat) (hv:vq f=.slice (some ⟨qb,qo,none⟩) (([]:List Nat).length+1) cap) (hmx:cap ≤ maxLen) (ck:w.cell? ⟨qb,qo,none⟩=some (.int .i64 (k:Int))) (h1:1 < cap) (hsl:Bc w B (.slice (some ⟨qb,qo+1,none⟩) ([]:List Nat).length (cap - 1)) (F f) []) :
  Calls Tryz.prog 224 #[.pointer (some ⟨g,0,none⟩)] w fun e w'=>e=.returned (.int .i64 (k:Int)) ∧ Bl B g (.slice (some ⟨pb,off,none⟩) L pcap) qv w w' F rv { d with qs:=Au d.qs f [],cr:=Au d.cr f 0,srv:=none } n:=by
 have HT:Hid (Ao B g (.slice (some ⟨pb,off,none⟩) L pcap) qv w vq F rv d (n+1)):=h
 have cs:w.cell? ⟨g,19,none⟩=some (.int .i64 (f:Int)):=by have:=h.cells.cs;rw [hs] at this;exact this
 have cq:=h.cells.cq f hf
 rw [hv] at cq
 have fq:=h.cells.free (2+f)
 obtain ⟨m,hm⟩:∃ m,([]:List Nat).length=m:=⟨_,rfl⟩
 have HM:Hid (([]:List Nat).length=m):=hm
 obtain ⟨c,hcr⟩:∃ c,d.cr f=c:=⟨_,rfl⟩
 have HCr:Hid (d.cr f=c):=hcr
 rw [hcr] at hc0 hc1 hy
 rw [hm] at cq hr3 hsl
 have HFoot:Hid (∀ k,AC g F rv k → B ≤ k):=fun k hk=>(h.foot k hk).1
 have HBB:Hid (B ≤ w.heap.size):=hB
 have HCp:Hid (∀ W,Below B w W → W.cell? ⟨pb,off+k * 3+1,none⟩=some (.int .i64 y)):=hcp
 have hfi:(f:Int) < 8:=by omega
 have hki:(k:Int) < (L:Int):=by omega
 have hm0:m=0:=by rw [← hm];rfl
 subst hm0
 unfold maxLen at hmx
 have HT1:Hid (Ao B g (.slice (some ⟨pb,off,none⟩) L pcap) qv (w.setCell ⟨g,2+f,none⟩ (.slice (some ⟨qb,qo+1,none⟩) 0 (cap - 1))).drew (Au vq f (.slice (some ⟨qb,qo+1,none⟩) 0 (cap - 1))) (Au F f (F f)) rv { d with qs:=Au d.qs f [] } (n+1)):=(h.setQ hf (But.refl _ _) hsl (fun _ hk=>.inl hk)).later (Below.refl _ _).drew
 have HBt:Hid (But (AC g F rv) w (w.setCell ⟨g,2+f,none⟩ (.slice (some ⟨qb,qo+1,none⟩) 0 (cap - 1))).drew):=((Eu _ _ _ _).mono fun j hj=>.inl hj).drew
 have HEnd:Hid (({ d with qs:=Au d.qs f [],cr:=Au d.cr f 0,srv:=none }:Drr)={ d with qs:=Au d.qs f [],cr:=Au (Au d.cr f (c - y)) f 0,srv:=none }):=by
  show _=_
  rw [Pp]
 clear h hs hv hm hcr hB hcp
 go_enter Tryz.func224,Tryz.ntmps224
 go_wp2_with fail
 go_region
 obtain ⟨V,hV⟩:∃ V,(w.setCell ⟨g,2+f,none⟩ (.slice (some ⟨qb,qo+1,none⟩) 0 (cap - 1))).drew=V:=⟨_,rfl⟩
 rw [hV] at HT1 HBt ⊢
 have HBel:Hid (Below B w V):=HBt.out.below HBB.out (fun k hk=>HFoot.out k hk)
 have v0:=HT1.out.cells.c0
 have v2:V.cell? ⟨g,10+f,none⟩=some (.int .i64 c):=by rw [← HCr.out];exact HT1.out.cells.cc f hf
 have v4:=HCp.out V HBel.out
 have v5:=HT1.out.cells.free (10+f)
 have hwr:IntKind.i64.wrap (c - y)=c - y:=IntWalk.i64_in _ (by omega)
 have HT2:Hid (Ao B g (.slice (some ⟨pb,off,none⟩) L pcap) qv (V.setCell ⟨g,10+f,none⟩ (.int .i64 (c - y))).drew (Au vq f (.slice (some ⟨qb,qo+1,none⟩) 0 (cap - 1))) (Au F f (F f)) rv { d with qs:=Au d.qs f [],cr:=Au d.cr f (c - y) } (n+1)):=(HT1.out.setC hf (c - y)).later (Below.refl _ _).drew
 have HBt2:Hid (But (AC g F rv) w (V.setCell ⟨g,10+f,none⟩ (.int .i64 (c - y))).drew):=(HBt.out.trans ((Eu _ _ _ _).mono fun j hj=>.inl hj)).drew
 clear hV cs cq fq ck
 go_wp2_with fail
 go_region
 obtain ⟨U,hU⟩:∃ U,(V.setCell ⟨g,10+f,none⟩ (.int .i64 (c - y))).drew=U:=⟨_,rfl⟩
 rw [hU] at HT2 HBt2 ⊢
 have u1:U.cell? ⟨g,20,none⟩=some (.int .i64 (((n+1:Nat)):Int)):=HT2.out.cells.cn
 have u2:=HT2.out.cells.free 20
 have HT3:Hid (Ao B g (.slice (some ⟨pb,off,none⟩) L pcap) qv (U.setCell ⟨g,20,none⟩ (.int .i64 (n:Int))) (Au vq f (.slice (some ⟨qb,qo+1,none⟩) 0 (cap - 1))) (Au F f (F f)) rv { d with qs:=Au d.qs f [],cr:=Au d.cr f (c - y) } n):=HT2.out.setN n rfl
 have u3:(U.setCell ⟨g,20,none⟩ (.int .i64 (n:Int))).cell? ⟨g,2+f,none⟩=some (.slice (some ⟨qb,qo+1,none⟩) 0 (cap - 1)):=by have:=HT3.out.cells.cq f hf;rwa [Aq] at this
 have HT4:Hid (Ao B g (.slice (some ⟨pb,off,none⟩) L pcap) qv ((U.setCell ⟨g,20,none⟩ (.int .i64 (n:Int))).setCell ⟨g,10+f,none⟩ (.int .i64 0)) (Au vq f (.slice (some ⟨qb,qo+1,none⟩) 0 (cap - 1))) (Au F f (F f)) rv { d with qs:=Au d.qs f [],cr:=Au (Au d.cr f (c - y)) f 0 } n):=HT3.out.setC hf 0
 have u4:=HT3.out.cells.cc f hf
 have u5:=HT3.out.cells.free (10+f)
 have u6:=HT4.out.cells.cs
 have u7:=HT4.out.cells.free 19
 have hn1:(((n+1:Nat)):Int) - 1=(n:Int):=by omega
 rw [show (((n+1:Nat)):Int)=(n:Int)+1 by omega] at u1
 clear hU v0 v2 v4 v5
 go_wp2_with fail
 go_ret
 rw [HEnd.out]
 refine ⟨rfl,⟨_,_,_,HT4.out.setS none rfl,fun j hj=>GM hf (fun _ hk=>.inl hk) hj⟩,?_⟩
 exact ((HBt2.out.trans ((Eu _ _ _ _).mono fun j hj=>.inl hj)).trans ((Eu _ _ _ _).mono fun j hj=>.inl hj)).trans ((Eu _ _ _ _).mono fun j hj=>.inl hj)
theorem Ox (B g k pb off pcap L:Nat) (qv:Value) (vq:Nat → Value) (F:Nat → Nat → Prop) (rv:Value) (d:Drr) (n:Nat) (w:World) (h:Ao B g (.slice (some ⟨pb,off,none⟩) L pcap) qv w vq F rv d (n+1)) (y:Int) (hcp:∀ W,Below B w W → W.cell? ⟨pb,off+k * 3+1,none⟩=some (.int .i64 y)) (hy0:0 ≤ y) (hkl:k < L) (f:Nat) (hs:d.srv=some f) (hf:f < 8) (hc0:0 ≤ d.cr f) (hc1:d.cr f ≤ 1000000) (hy:y ≤ d.cr f) (hn:n ≤ 1000) (hr3:([]:List Nat).length ≤ 300) (hB:B ≤ w.heap.size) (qb qo cap:Nat) (hv:vq f=.slice (some ⟨qb,qo,none⟩) (([]:List Nat).length+1) cap) (hcap:([]:List Nat).length+1 ≤ cap) (hmx:cap ≤ maxLen) (ck:w.cell? ⟨qb,qo,none⟩=some (.int .i64 (k:Int))) (h1:cap=1) (hsl:Bc w B (.slice (some ⟨qb,qo,none⟩) 0 0) (F f) []) :
  Calls Tryz.prog 224 #[.pointer (some ⟨g,0,none⟩)] w fun e w'=>e=.returned (.int .i64 (k:Int)) ∧ Bl B g (.slice (some ⟨pb,off,none⟩) L pcap) qv w w' F rv { d with qs:=Au d.qs f [],cr:=Au d.cr f 0,srv:=none } n:=by
 have HT:Hid (Ao B g (.slice (some ⟨pb,off,none⟩) L pcap) qv w vq F rv d (n+1)):=h
 have cs:w.cell? ⟨g,19,none⟩=some (.int .i64 (f:Int)):=by have:=h.cells.cs;rw [hs] at this;exact this
 have cq:=h.cells.cq f hf
 rw [hv] at cq
 have fq:=h.cells.free (2+f)
 obtain ⟨m,hm⟩:∃ m,([]:List Nat).length=m:=⟨_,rfl⟩
 have HM:Hid (([]:List Nat).length=m):=hm
 obtain ⟨c,hcr⟩:∃ c,d.cr f=c:=⟨_,rfl⟩
 have HCr:Hid (d.cr f=c):=hcr
 rw [hcr] at hc0 hc1 hy
 rw [hm] at cq hcap hr3
 have HFoot:Hid (∀ k,AC g F rv k → B ≤ k):=fun k hk=>(h.foot k hk).1
 have HBB:Hid (B ≤ w.heap.size):=hB
 have HCp:Hid (∀ W,Below B w W → W.cell? ⟨pb,off+k * 3+1,none⟩=some (.int .i64 y)):=hcp
 have hfi:(f:Int) < 8:=by omega
 have hki:(k:Int) < (L:Int):=by omega
 obtain rfl:m=0:=by omega
 subst h1
 unfold maxLen at hmx
 have HT1:Hid (Ao B g (.slice (some ⟨pb,off,none⟩) L pcap) qv (w.setCell ⟨g,2+f,none⟩ (.slice (some ⟨qb,qo,none⟩) 0 0)).drew (Au vq f (.slice (some ⟨qb,qo,none⟩) 0 0)) (Au F f (F f)) rv { d with qs:=Au d.qs f [] } (n+1)):=(h.setQ hf (But.refl _ _) hsl (fun _ hk=>.inl hk)).later (Below.refl _ _).drew
 have HBt:Hid (But (AC g F rv) w (w.setCell ⟨g,2+f,none⟩ (.slice (some ⟨qb,qo,none⟩) 0 0)).drew):=((Eu _ _ _ _).mono fun j hj=>.inl hj).drew
 have HEnd:Hid (({ d with qs:=Au d.qs f [],cr:=Au d.cr f 0,srv:=none }:Drr)={ d with qs:=Au d.qs f [],cr:=Au (Au d.cr f (c - y)) f 0,srv:=none }):=by
  show _=_
  rw [Pp]
 clear h hs hv hm hcr hB hcp
 go_enter Tryz.func224,Tryz.ntmps224
 go_wp2_with fail
 go_region
 obtain ⟨V,hV⟩:∃ V,(w.setCell ⟨g,2+f,none⟩ (.slice (some ⟨qb,qo,none⟩) 0 0)).drew=V:=⟨_,rfl⟩
 rw [hV] at HT1 HBt ⊢
 have HBel:Hid (Below B w V):=HBt.out.below HBB.out (fun k hk=>HFoot.out k hk)
 have v0:=HT1.out.cells.c0
 have v2:V.cell? ⟨g,10+f,none⟩=some (.int .i64 c):=by rw [← HCr.out];exact HT1.out.cells.cc f hf
 have v4:=HCp.out V HBel.out
 have v5:=HT1.out.cells.free (10+f)
 have hwr:IntKind.i64.wrap (c - y)=c - y:=IntWalk.i64_in _ (by omega)
 have HT2:Hid (Ao B g (.slice (some ⟨pb,off,none⟩) L pcap) qv (V.setCell ⟨g,10+f,none⟩ (.int .i64 (c - y))).drew (Au vq f (.slice (some ⟨qb,qo,none⟩) 0 0)) (Au F f (F f)) rv { d with qs:=Au d.qs f [],cr:=Au d.cr f (c - y) } (n+1)):=(HT1.out.setC hf (c - y)).later (Below.refl _ _).drew
 have HBt2:Hid (But (AC g F rv) w (V.setCell ⟨g,10+f,none⟩ (.int .i64 (c - y))).drew):=(HBt.out.trans ((Eu _ _ _ _).mono fun j hj=>.inl hj)).drew
 clear hV cs cq fq ck
 go_wp2_with fail
 go_region
 obtain ⟨U,hU⟩:∃ U,(V.setCell ⟨g,10+f,none⟩ (.int .i64 (c - y))).drew=U:=⟨_,rfl⟩
 rw [hU] at HT2 HBt2 ⊢
 have u1:U.cell? ⟨g,20,none⟩=some (.int .i64 (((n+1:Nat)):Int)):=HT2.out.cells.cn
 have u2:=HT2.out.cells.free 20
 have HT3:Hid (Ao B g (.slice (some ⟨pb,off,none⟩) L pcap) qv (U.setCell ⟨g,20,none⟩ (.int .i64 (n:Int))) (Au vq f (.slice (some ⟨qb,qo,none⟩) 0 0)) (Au F f (F f)) rv { d with qs:=Au d.qs f [],cr:=Au d.cr f (c - y) } n):=HT2.out.setN n rfl
 have u3:(U.setCell ⟨g,20,none⟩ (.int .i64 (n:Int))).cell? ⟨g,2+f,none⟩=some (.slice (some ⟨qb,qo,none⟩) 0 0):=by have:=HT3.out.cells.cq f hf;rwa [Aq] at this
 have HT4:Hid (Ao B g (.slice (some ⟨pb,off,none⟩) L pcap) qv ((U.setCell ⟨g,20,none⟩ (.int .i64 (n:Int))).setCell ⟨g,10+f,none⟩ (.int .i64 0)) (Au vq f (.slice (some ⟨qb,qo,none⟩) 0 0)) (Au F f (F f)) rv { d with qs:=Au d.qs f [],cr:=Au (Au d.cr f (c - y)) f 0 } n):=HT3.out.setC hf 0
 have u4:=HT3.out.cells.cc f hf
 have u5:=HT3.out.cells.free (10+f)
 have u6:=HT4.out.cells.cs
 have u7:=HT4.out.cells.free 19
 have hn1:(((n+1:Nat)):Int) - 1=(n:Int):=by omega
 rw [show (((n+1:Nat)):Int)=(n:Int)+1 by omega] at u1
 clear hU v0 v2 v4 v5
 go_wp2_with fail
 go_ret
 rw [HEnd.out]
 refine ⟨rfl,⟨_,_,_,HT4.out.setS none rfl,fun j hj=>GM hf (fun _ hk=>.inl hk) hj⟩,?_⟩
 exact ((HBt2.out.trans ((Eu _ _ _ _).mono fun j hj=>.inl hj)).trans ((Eu _ _ _ _).mono fun j hj=>.inl hj)).trans ((Eu _ _ _ _).mono fun j hj=>.inl hj)
theorem O5 (B g:Nat) (pa:Option Addr) (pcap:Nat) (qv:Value) (ps:List Pk) (vq:Nat → Value) (F:Nat → Nat → Prop) (rv:Value) (d:Drr) (n:Nat) (w:World) (h:Ao B g (.slice pa ps.length pcap) qv w vq F rv d (n+1)) (hl:AO w pa ps) (hpB:∀ ad,pa=some ad → 0 < ps.length → ad.block < B) (ho:Aj ps) (f k:Nat) (r:List Nat) (p:Pk) (hs:d.srv=some f) (hf:f < 8) (hk:d.qs f=k :: r) (hp:ps[k]? = some p) (hc1:d.cr f ≤ 1000000) (hy:p.size ≤ d.cr f) (hn:n ≤ 1000) (hr3:(d.qs f).length ≤ 300) (hB:B ≤ w.heap.size) :
  Calls Tryz.prog 224 #[.pointer (some ⟨g,0,none⟩)] w fun e w'=>e=.returned (.int .i64 (k:Int)) ∧ Bl B g (.slice pa ps.length pcap) qv w w' F rv (d.sent (Bd ps) f k r) n:=by
 have hkl:=Ad hp
 obtain ⟨pb,off,rfl,hlt,hc⟩:=hl.place (by omega)
 have hblt:pb < B:=hpB ⟨pb,off,none⟩ rfl (by omega)
 have hcp:∀ W,Below B w W → W.cell? ⟨pb,off+k * 3+1,none⟩=some (.int .i64 p.size):=fun W hb=>by
  rw [hb.cell (p:=⟨pb,off+k * 3+1,none⟩) hblt];exact (hc k p hp).2.1
 obtain ⟨-,-,z1,-,-,-⟩:=Bb (ho.each _ p hp).1
 have hsl:=h.queue f hf
 rw [hk] at hsl
 obtain ⟨qb,qo,cap,hv,hcap,hmx,ck,-,s1,s2⟩:=hsl.first
 rw [hk,List.length_cons] at hr3
 have hsz:=Df hp
 by_cases hr:r=[]
 ·
  subst hr
  have e:d.sent (Bd ps) f k []={ d with qs:=Au d.qs f [],cr:=Au d.cr f 0,srv:=none }:=if_pos rfl
  rw [e]
  by_cases hc1':1 < cap
  · exact NM B g k pb off pcap ps.length qv vq F rv d n w h p.size hcp (by omega) hkl f hs hf (by omega) hc1 hy hn (by simp) hB qb qo cap hv hmx ck hc1' (s1 hc1')
  ·
   obtain ⟨-,s3⟩:=s2 (by omega)
   exact Ox B g k pb off pcap ps.length qv vq F rv d n w h p.size hcp (by omega) hkl f hs hf (by omega) hc1 hy hn (by simp) hB qb qo cap hv hcap hmx ck (by omega) s3
 ·
  have e:d.sent (Bd ps) f k r={ d with qs:=Au d.qs f r,cr:=Au d.cr f (d.cr f - p.size) }:=by rw [← hsz];exact if_neg hr
  rw [e]
  have hrl:0 < r.length:=List.length_pos_iff.2 hr
  exact MS B g k pb off pcap ps.length qv vq F rv d n w h p.size hcp (by omega) hkl f r hs hf (by omega) hc1 hy hn (by omega) hB qb qo cap hv hmx ck (by omega) (s1 (by omega)) hr
theorem Bl.foot {B g:Nat} {pv qv:Value} {w w':World} {F:Nat → Nat → Prop} {rv:Value} {d:Drr} {n:Nat} (h:Bl B g pv qv w w' F rv d n) (hB:B ≤ w.heap.size) (hF:∀ k,AC g F rv k → B ≤ k):Below B w w':=h.but.below hB hF
theorem Bl.step {B g:Nat} {pv qv:Value} {w w1 w2:World} {F F1:Nat → Nat → Prop} {rv rv1:Value} {d2:Drr} {n2:Nat} (hbut:But (AC g F rv) w w1) (hfoot:∀ k,AC g F1 rv1 k → AC g F rv k ∨ w.heap.size ≤ k) (h:Bl B g pv qv w1 w2 F1 rv1 d2 n2):Bl B g pv qv w w2 F rv d2 n2:=by
 obtain ⟨vq2,F2,rv2,k1,k2⟩:=h.at_
 refine ⟨⟨vq2,F2,rv2,k1,fun k hk=>?_⟩,?_⟩
 ·
  rcases k2 k hk with h' | h'
  · exact hfoot k h'
  · have:=hbut.size;exact .inr (by omega)
 ·
  refine ⟨h.but.os.trans hbut.os,h.but.tape.trans hbut.tape,h.but.output.trans hbut.output,Nat.le_trans hbut.size h.but.size,fun j hj hn=>?_⟩
  rw [h.but.block j (Nat.lt_of_lt_of_le hj hbut.size) (fun hD=>?_)]
  · exact hbut.block j hj hn
  ·
   rcases hfoot j hD with h' | h'
   · exact hn h'
   · omega
theorem MP {fl:Nat → Nat} {sz qu:Nat → Int} {M:Int} {d:Drr} (h:Cy fl sz qu M d) (hfew:∀ f,8 ≤ f → d.qs f=[]):d.row.length ≤ 8 ∧ ∀ f,f ∈ d.line → f < 8:=by
 have h8:∀ f,f ∈ d.line → f < 8:=fun f hf=>by
  rcases Nat.lt_or_ge f 8 with h' | h'
  · exact h'
  · exact absurd (hfew f h') ((h.active f).1 hf)
 have h1:=Vm (fun _=>1) 1 8 d.line h.nodup h8 (fun _=>Nat.le_refl _)
 have h2:(d.line.map fun _=>1).sum=d.line.length:=by
  generalize d.line=l
  induction l with
  | nil=>rfl
  | cons a r ih=>simp only [List.map_cons,List.sum_cons,List.length_cons,ih];omega
 have h3:d.row.length ≤ d.line.length:=by
  unfold Drr.line
  cases d.srv <;> simp
 exact ⟨by omega,h8⟩
structure UZ (B g:Nat) (pv qv:Value) (ps:List Pk) (ns:List Int) (w wr:World) (F:Nat → Nat → Prop) (rv:Value) (n:Nat) (Q:Nat → List Nat) (x:Nat × Drr) (fu:Nat) (d:Drr):Prop where
 ok:Cy (Ae ps) (Bd ps) (BN ns) 1500 d
 qs:d.qs=Q
 go:Drr.go (Bd ps) (BN ns) fu d=some x
 end_:Bl B g pv qv w wr F rv d (n+1)
theorem PN {w w':World} {B:Nat} {a:Option Addr} {xs:List Int} (h:AV w a xs) (ha:∀ ad,a=some ad → ad.block < B) (hb:Below B w w'):AV w' a xs:=by
 rcases h with rfl | ⟨b,off,rfl,hlt,hc⟩
 · exact .inl rfl
 ·
  have hB:b < B:=ha ⟨b,off,none⟩ rfl
  refine .inr ⟨b,off,rfl,Nat.lt_of_lt_of_le hlt hb.size,fun i x hi=>?_⟩
  rw [hb.cell (p:=⟨b,off+i,none⟩) hB]
  exact hc i x hi
theorem WY (B g:Nat) (pa:Option Addr) (pcap:Nat) (qa:Option Addr) (qcap:Nat) (ps:List Pk) (ns:List Int) (vq:Nat → Value) (F:Nat → Nat → Prop) (rv:Value) (d0:Drr) (n:Nat) (w:World) (h:Ao B g (.slice pa ps.length pcap) (.slice qa ns.length qcap) w vq F rv d0 (n+1)) (hl:AO w pa ps) (hpB:∀ ad,pa=some ad → 0 < ps.length → ad.block < B) (hq:AV w qa ns) (hqB:∀ ad,qa=some ad → ad.block < B) (ho:Aj ps) (hns:E5 1 3000 ns) (hok:Cy (Ae ps) (Bd ps) (BN ns) 1500 d0) (hfew:∀ f,8 ≤ f → d0.qs f=[]) (hq3:∀ f,(d0.qs f).length ≤ 300 ∧ ∀ k,k ∈ d0.qs f → k < ps.length) (hn:n ≤ 1000) (hB:B ≤ w.heap.size) (fu:Nat) (k:Nat) (e:Drr) (hgo:Drr.go (Bd ps) (BN ns) fu d0=some (k,e)) :
  Calls Tryz.prog 205 #[.pointer (some ⟨g,0,none⟩)] w fun e' w'=>e'=.returned (.int .i64 (k:Int)) ∧ Bl B g (.slice pa ps.length pcap) (.slice qa ns.length qcap) w w' F rv e n:=by
 obtain ⟨i0,hi,hz0,hz1,hz2⟩:=info_parts Tryz.infoInt
 have hqu:∀ f,1 ≤ BN ns f:=fun f=>(H9 hns.each (by omega) f).1
 have HS0:Hid (UZ B g (.slice pa ps.length pcap) (.slice qa ns.length qcap) ps ns w w F rv n d0.qs (k,e) fu d0):=⟨hok,rfl,hgo,⟨vq,F,rv,h,fun k hk=>.inl hk⟩,But.refl _ _⟩
 have HB:Hid (B ≤ w.heap.size ∧ ∀ k,AC g F rv k → B ≤ k):=⟨hB,fun k hk=>(h.foot k hk).1⟩
 have HL:Hid (∀ W,Below B w W → AO W pa ps ∧ AV W qa ns):=fun W hb=>⟨hl.bel hpB hb,PN hq hqB hb⟩
 have HQ:Hid (Aj ps ∧ E5 1 3000 ns ∧ (∀ f,1 ≤ BN ns f) ∧ (∀ f,8 ≤ f → d0.qs f=[]) ∧ (∀ f,(d0.qs f).length ≤ 300 ∧ ∀ k,k ∈ d0.qs f → k < ps.length) ∧ (∀ ad,pa=some ad → 0 < ps.length → ad.block < B) ∧ (∀ ad,qa=some ad → ad.block < B)):=⟨ho,hns,hqu,hfew,hq3,hpB,hqB⟩
 clear h hl hpB hq hqB ho hns hok hfew hq3 hB hgo hqu
 go_enter Tryz.func205,Tryz.ntmps205
 go_wp2_with fail
 go_loopg [2] fu (fun gk r2 wr=>r2=.int .i64 0 ∧ ∃ d,UZ B g (.slice pa ps.length pcap) (.slice qa ns.length qcap) ps ns w wr F rv n d0.qs (k,e) gk d)
 case atStart=>exact ⟨rfl,d0,HS0.out⟩
 case round=>
  obtain ⟨rfl,d,hat⟩:=hrel
  have HA:Hid (UZ B g (.slice pa ps.length pcap) (.slice qa ns.length qcap) ps ns w wr F rv n d0.qs (k,e) gk d):=hat
  obtain ⟨vq1,F1,rv1,hT1,hF1⟩:=hat.end_.at_
  have HT1:Hid (Ao B g (.slice pa ps.length pcap) (.slice qa ns.length qcap) wr vq1 F1 rv1 d (n+1)):=hT1
  have HF1:Hid (∀ k,AC g F1 rv1 k → AC g F rv k ∨ w.heap.size ≤ k):=hF1
  have HBr:Hid (Below B w wr):=hat.end_.foot HB.out.1 HB.out.2
  have c19:=hT1.cells.cs
  have hgo:=hat.go
  have HW:Hid (B ≤ wr.heap.size):=Nat.le_trans HB.out.1 HBr.out.size
  have hfew':∀ f,8 ≤ f → d.qs f=[]:=fun f hf=>by rw [hat.qs];exact HQ.out.2.2.2.1 f hf
  have hrow:=MP hat.ok hfew'
  clear hat hT1 hF1 hfew'
  cases gk with
  | zero=>simp [Drr.go] at hgo
  | succ fu1=>
   cases hs:d.srv with
   | none=>
    rw [Drr.go,hs] at hgo
    simp only at hgo
    cases hr:d.row with
    | nil=>rw [hr] at hgo;cases hgo
    | cons f r=>
     rw [hr] at hgo
     simp only at hgo
     rw [hs] at c19
     have c19':wr.cell? ⟨g,19,none⟩=some (.int .i64 (-1)):=c19
     have hf8:f < 8:=hrow.2 f (by unfold Drr.line;rw [hs];simp only;rw [hr];exact List.mem_cons_self ..)
     have hcr:=HA.out.ok.cr_in HQ.out.2.2.1 f
     have hqf:=(H9 HQ.out.2.1.each (by omega) f).2
     have HSv:Hid (Calls Tryz.prog 222 #[.pointer (some ⟨g,0,none⟩)] wr fun e w'=>e=.returned (.tuple #[]) ∧ Bl B g (.slice pa ps.length pcap) (.slice qa ns.length qcap) wr w' F1 rv1 (d.turn (BN ns) f r) (n+1)):=U8 B g _ qa qcap ns vq1 F1 rv1 d (n+1) wr HT1.out (HL.out wr HBr.out).2 HQ.out.2.1 f r hr hf8 (HA.out.ok.low f) (by omega) hrow.1 HW.out HQ.out.2.2.2.2.2.2
     have HOk:Hid (Cy (Ae ps) (Bd ps) (BN ns) 1500 (d.turn (BN ns) f r) ∧ (d.turn (BN ns) f r).qs=d0.qs ∧ Drr.go (Bd ps) (BN ns) fu1 (d.turn (BN ns) f r)=some (k,e) ∧ (d.turn (BN ns) f r).srv=some f):=⟨HA.out.ok.turn HQ.out.2.2.1 hs hr,HA.out.qs,hgo,rfl⟩
     obtain ⟨dX,hdX⟩:∃ dX,d.turn (BN ns) f r=dX:=⟨_,rfl⟩
     rw [hdX] at HSv HOk
     clear hgo c19 hs hr hrow hcr hqf hdX
     go_wp2_with fail
     refine HSv.out.mono ?_
     rintro e1 X ⟨rfl,hE⟩
     have HE:Hid (Bl B g (.slice pa ps.length pcap) (.slice qa ns.length qcap) w X F rv dX (n+1)):=Bl.step HA.out.end_.but HF1.out hE
     have HFu:Hid (fu1 ≤ fu1+1):=Nat.le_succ _
     clear hE c19'
     obtain ⟨vqX,FX,rvX,hTX,hFX⟩:=HE.out.at_
     have HX:Hid (Ao B g (.slice pa ps.length pcap) (.slice qa ns.length qcap) X vqX FX rvX dX (n+1)):=hTX
     have HFX:Hid (∀ k,AC g FX rvX k → AC g F rv k ∨ w.heap.size ≤ k):=hFX
     have HBX:Hid (Below B w X):=HE.out.foot HB.out.1 HB.out.2
     clear hTX hFX
     have hrowX:=MP HOk.out.1 (fun f hf=>by rw [HOk.out.2.1];exact HQ.out.2.2.2.1 f hf)
     have hlX:dX.line=f :: dX.row:=by unfold Drr.line;rw [HOk.out.2.2.2]
     have hneX:=(HOk.out.1.active f).1 (by rw [hlX];exact List.mem_cons_self ..)
     obtain ⟨k1,r1,hk1⟩:∃ k1 r1,dX.qs f=k1 :: r1:=by
      cases hq:dX.qs f with
      | nil=>exact absurd hq hneX
      | cons a b=>exact ⟨a,b,rfl⟩
     have HK1:Hid (dX.qs f=k1 :: r1):=hk1
     have hk1l:k1 < ps.length:=(HQ.out.2.2.2.2.1 f).2 k1 (by rw [← HOk.out.2.1,hk1];exact List.mem_cons_self ..)
     obtain ⟨p1,hp1,-⟩:=Ai ps k1 hk1l
     have HP1:Hid (ps[k1]? = some p1):=hp1
     have hcrX:=HOk.out.1.cr_in HQ.out.2.2.1 f
     have hqX:=(H9 HQ.out.2.1.each (by omega) f).2
     have HCrX:Hid (dX.cr f ≤ 1000000):=by show dX.cr f ≤ 1000000;omega
     have HRl:Hid (dX.row.length ≤ 8):=hrowX.1
     obtain ⟨b,hb⟩:∃ b,decide (p1.size ≤ dX.cr f)=b:=⟨_,rfl⟩
     have HCan:Hid (Calls Tryz.prog 223 #[.pointer (some ⟨g,0,none⟩)] X fun e w'=>e=.returned (.bool b) ∧ ∃ m,w'=X.drewN m):=Sa B g pa pcap _ ps vqX FX rvX dX (n+1) X HX.out (HL.out X HBX.out).1 HQ.out.1.few f k1 r1 p1 HOk.out.2.2.2 hf8 hk1 hp1 b hb
     have HBd:Hid (decide (p1.size ≤ dX.cr f)=b):=hb
     clear hrowX hlX hneX hk1 hp1 hcrX hqX hb
     go_wp2_with fail
     refine HCan.out.mono ?_
     rintro e2 Y ⟨rfl,m,hY⟩
     have hbY:Below X.heap.size X Y:=by rw [hY];exact below_drewN (Below.refl _ _) _
     have HY:Hid (Ao B g (.slice pa ps.length pcap) (.slice qa ns.length qcap) Y vqX FX rvX dX (n+1)):=HX.out.later hbY
     have HBY:Hid (Below B w Y ∧ B ≤ Y.heap.size):=⟨HBX.out.trans (hbY.mono (Nat.le_trans HB.out.1 HBX.out.size)),Nat.le_trans (Nat.le_trans HB.out.1 HBX.out.size) hbY.size⟩
     have HBut:Hid (But (AC g F rv) w Y):=HE.out.but.trans (.ofBelow hbY)
     clear hY hbY
     cases b with
     | true=>
      have hfit:p1.size ≤ dX.cr f:=of_decide_eq_true HBd.out
      have hxx:(k1,dX.sent (Bd ps) f k1 r1)=(k,e):=by
       have hg:=HOk.out.2.2.1
       cases fu1 with
       | zero=>simp [Drr.go] at hg
       | succ fu2=>
        rw [Drr.go,HOk.out.2.2.2] at hg
        simp only [HK1.out,if_pos (show Bd ps k1 ≤ dX.cr f by rw [Df HP1.out];exact hfit)] at hg
        exact Option.some.inj hg
      obtain ⟨rfl,rfl⟩:=Prod.mk.inj hxx
      have HTk:Hid (Calls Tryz.prog 224 #[.pointer (some ⟨g,0,none⟩)] Y fun e w'=>e=.returned (.int .i64 (k1:Int)) ∧ Bl B g (.slice pa ps.length pcap) (.slice qa ns.length qcap) Y w' FX rvX (dX.sent (Bd ps) f k1 r1) n):=O5 B g pa pcap _ ps vqX FX rvX dX n Y HY.out (HL.out Y HBY.out.1).1 HQ.out.2.2.2.2.2.1 HQ.out.1 f k1 r1 p1 HOk.out.2.2.2 hf8 HK1.out HP1.out HCrX.out hfit hn (by rw [HOk.out.2.1];exact (HQ.out.2.2.2.2.1 f).1) HBY.out.2
      clear hfit hxx
      go_wp2_with fail
      refine HTk.out.mono ?_
      rintro e3 Z ⟨rfl,hZ⟩
      have HZ:Hid (Bl B g (.slice pa ps.length pcap) (.slice qa ns.length qcap) w Z F rv (dX.sent (Bd ps) f k1 r1) n):=Bl.step HBut.out HFX.out hZ
      clear hZ
      go_wp2_with fail
      go_ret
      exact ⟨rfl,HZ.out⟩
     | false=>
      have hbig:¬ p1.size ≤ dX.cr f:=of_decide_eq_false HBd.out
      have HNx:Hid (∃ fu2,fu2 < (fu1+1) ∧ Cy (Ae ps) (Bd ps) (BN ns) 1500 (dX.back f) ∧ Drr.go (Bd ps) (BN ns) fu2 (dX.back f)=some (k,e)):=by
       have hg:=HOk.out.2.2.1
       have hok2:=HOk.out.1.back HOk.out.2.2.2 HK1.out (by rw [Df HP1.out];omega)
       cases fu1 with
       | zero=>simp [Drr.go] at hg
       | succ fu2=>
        rw [Drr.go,HOk.out.2.2.2] at hg
        simp only [HK1.out,if_neg (show ¬ Bd ps k1 ≤ dX.cr f by rw [Df HP1.out];exact hbig)] at hg
        exact ⟨fu2,by omega,hok2,hg⟩
      have c18:=HY.out.cells.cr_
      have c19:Y.cell? ⟨g,19,none⟩=some (.int .i64 (f:Int)):=by have:=HY.out.cells.cs;rw [HOk.out.2.2.2] at this;exact this
      have hb0:Below Y.heap.size Y (Y.drew.alloc (.cells #[.int .i64 (f:Int)] 3)):=(Below.refl _ _).drew.alloc (Nat.le_refl _) _
      have HTa:Hid (Ao B g (.slice pa ps.length pcap) (.slice qa ns.length qcap) (Y.drew.alloc (.cells #[.int .i64 (f:Int)] 3)) vqX FX rvX dX (n+1)):=HY.out.later hb0
      have HNew:Hid (∀ j u,(ints [(f:Int)])[j]? = some u → (Y.drew.alloc (.cells #[.int .i64 (f:Int)] 3)).cell? (Addr.add ⟨Y.heap.size,0,none⟩ j)=some u):=World.news_of_block (cs:=#[.int .i64 (f:Int)]) (t:=3) (heap_alloc_new Y.drew _)
      have HBs:Hid (B ≤ (Y.drew.alloc (.cells #[.int .i64 (f:Int)] 3)).heap.size):=Nat.le_trans HBY.out.2 hb0.size
      obtain ⟨rl,hrle⟩:∃ rl,dX.row.length=rl:=⟨_,rfl⟩
      have HRe:Hid (dX.row.length=rl):=hrle
      have hrl8:=HRl.out
      rw [hrle] at hrl8
      have c18a:(Y.alloc (.cells #[.int .i64 (f:Int)] 3)).cell? ⟨g,18,none⟩=some rvX:=cell_later ((Below.refl _ _).alloc (Nat.le_refl _) _) c18
      clear hb0 hrle hbig
      go_wp2_with fail
      go_region_law
       (first
        | (refine step_append_lies _ rfl _ _ 32 rfl B 3 i0 (.int .i64 0) 1 8 Tryz.underlying32 hi hz0 hz1 hz2 rfl (by decide) rvX rl (ints (Am dX.row)) rfl (by have:=HTa.out.row;rwa [HRe.out] at this) ⟨Y.heap.size,0,none⟩ 1 1 (ints [(f:Int)]) rfl rfl HNew.out (GZ _) (by decide) (by unfold maxLen;omega) (by omega) HBs.out _ rfl ?_
           intro g5 cap5 w5 ho5 hg5 hat5 hlt5
           have hbut:But (fun k=>rvX.ownBlock=some k) (Y.drew.alloc (.cells #[.int .i64 (f:Int)] 3)) w5:=⟨hg5.os,hg5.tape,hg5.output,hg5.size,fun k hk hn=>hg5.block k hk (fun e=>hn e.symm)⟩
           have HT5:=HTa.out.cells.but hbut (fun e=>HTa.out.rowg e)
           have y1:=HT5.cr_
           have y2:=HT5.free 18
           have H5:Hid (w5.ownsRow B 3 1 (.slice (some ⟨g5,0,none⟩) (rl+1) cap5) (rl+1) (ints (Am dX.row) ++ ints [(f:Int)]) ∧ But (fun k=>rvX.ownBlock=some k) (Y.drew.alloc (.cells #[.int .i64 (f:Int)] 3)) w5 ∧ (rvX.ownBlock=some g5 ∨ g5=(Y.drew.alloc (.cells #[.int .i64 (f:Int)] 3)).heap.size)):=⟨ho5,hbut,hat5⟩
           clear ho5 hg5 hat5 hlt5 hbut HT5)
        | fail)
      all_goals
       have HNw:Hid (∀ k,(Value.slice (some ⟨g5,0,none⟩) (rl+1) cap5).ownBlock=some k → rvX.ownBlock=some k ∨ (Y.drew.alloc (.cells #[.int .i64 (f:Int)] 3)).heap.size ≤ k):=fun j hj=>by
        have e:g5=j:=Option.some.inj hj
        rcases H5.out.2.2 with h' | h'
        · exact .inl (by rw [← e];exact h')
        · exact .inr (by rw [← e,h'];exact Nat.le_refl _)
       have HT6:Hid (Ao B g (.slice pa ps.length pcap) (.slice qa ns.length qcap) (w5.setCell ⟨g,18,none⟩ (.slice (some ⟨g5,0,none⟩) (rl+1) cap5)) vqX FX (.slice (some ⟨g5,0,none⟩) (rl+1) cap5) { dX with row:=dX.row ++ [f] } (n+1)):=HTa.out.setR H5.out.2.1 (by rw [List.length_append,Fz,HRe.out];exact H5.out.1) HNw.out
       have z1:=HT6.out.cells.cs
       have z2:=HT6.out.cells.free 19
       have HBt:Hid (But (AC g FX rvX) Y (w5.setCell ⟨g,18,none⟩ (.slice (some ⟨g5,0,none⟩) (rl+1) cap5))):=((But.ofBelow ((Below.refl _ _).drew.alloc (Nat.le_refl _) _)).trans (H5.out.2.1.mono fun j hj=>.inr (.inr hj))).trans ((Eu _ _ _ _).mono fun j hj=>.inl hj)
       clear y1 y2
       go_wp2_with fail
       obtain ⟨fu2,hfu2,hok2,hgo2⟩:=HNx.out
       go_roundg fu2
       case measure=>omega
       case rel=>
        refine ⟨rfl,dX.back f,hok2,HOk.out.2.1,hgo2,Bl.step HBut.out HFX.out ⟨⟨vqX,FX,_,HT6.out.setS none rfl,fun j hj=>?_⟩,HBt.out.trans ((Eu _ _ _ _).mono fun j hj=>.inl hj)⟩⟩
        rcases Jq HNw.out hj with h' | h'
        · exact .inl h'
        · exact .inr (Nat.le_trans (by simp) h')
   | some f=>
    rw [hs] at c19
    have c19':wr.cell? ⟨g,19,none⟩=some (.int .i64 (f:Int)):=c19
    have hf8:f < 8:=hrow.2 f (by unfold Drr.line;rw [hs];exact List.mem_cons_self ..)
    have hfm:((f:Int) == -1)=false:=by simp
    have HOk:Hid (Cy (Ae ps) (Bd ps) (BN ns) 1500 d ∧ d.qs=d0.qs ∧ Drr.go (Bd ps) (BN ns) (fu1+1) d=some (k,e) ∧ d.srv=some f):=⟨HA.out.ok,HA.out.qs,hgo,hs⟩
    obtain ⟨dX,hdX⟩:∃ dX,d=dX:=⟨_,rfl⟩
    obtain ⟨X,hX⟩:∃ X,wr=X:=⟨_,rfl⟩
    have HE:Hid (Bl B g (.slice pa ps.length pcap) (.slice qa ns.length qcap) w X F rv dX (n+1)):=by rw [← hX,← hdX];exact HA.out.end_
    rw [hdX] at HOk
    rw [hX] at c19' ⊢
    clear hgo c19 hs hrow hdX hX HA HT1 HF1 HBr HW
    obtain ⟨vqX,FX,rvX,hTX,hFX⟩:=HE.out.at_
    have HX:Hid (Ao B g (.slice pa ps.length pcap) (.slice qa ns.length qcap) X vqX FX rvX dX (n+1)):=hTX
    have HFX:Hid (∀ k,AC g FX rvX k → AC g F rv k ∨ w.heap.size ≤ k):=hFX
    have HBX:Hid (Below B w X):=HE.out.foot HB.out.1 HB.out.2
    clear hTX hFX
    have hrowX:=MP HOk.out.1 (fun f hf=>by rw [HOk.out.2.1];exact HQ.out.2.2.2.1 f hf)
    have hlX:dX.line=f :: dX.row:=by unfold Drr.line;rw [HOk.out.2.2.2]
    have hneX:=(HOk.out.1.active f).1 (by rw [hlX];exact List.mem_cons_self ..)
    obtain ⟨k1,r1,hk1⟩:∃ k1 r1,dX.qs f=k1 :: r1:=by
     cases hq:dX.qs f with
     | nil=>exact absurd hq hneX
     | cons a b=>exact ⟨a,b,rfl⟩
    have HK1:Hid (dX.qs f=k1 :: r1):=hk1
    have hk1l:k1 < ps.length:=(HQ.out.2.2.2.2.1 f).2 k1 (by rw [← HOk.out.2.1,hk1];exact List.mem_cons_self ..)
    obtain ⟨p1,hp1,-⟩:=Ai ps k1 hk1l
    have HP1:Hid (ps[k1]? = some p1):=hp1
    have hcrX:=HOk.out.1.cr_in HQ.out.2.2.1 f
    have hqX:=(H9 HQ.out.2.1.each (by omega) f).2
    have HCrX:Hid (dX.cr f ≤ 1000000):=by show dX.cr f ≤ 1000000;omega
    have HRl:Hid (dX.row.length ≤ 8):=hrowX.1
    obtain ⟨b,hb⟩:∃ b,decide (p1.size ≤ dX.cr f)=b:=⟨_,rfl⟩
    have HCan:Hid (Calls Tryz.prog 223 #[.pointer (some ⟨g,0,none⟩)] X fun e w'=>e=.returned (.bool b) ∧ ∃ m,w'=X.drewN m):=Sa B g pa pcap _ ps vqX FX rvX dX (n+1) X HX.out (HL.out X HBX.out).1 HQ.out.1.few f k1 r1 p1 HOk.out.2.2.2 hf8 hk1 hp1 b hb
    have HBd:Hid (decide (p1.size ≤ dX.cr f)=b):=hb
    clear hrowX hlX hneX hk1 hp1 hcrX hqX hb
    go_wp2_with fail
    refine HCan.out.mono ?_
    rintro e2 Y ⟨rfl,m,hY⟩
    have hbY:Below X.heap.size X Y:=by rw [hY];exact below_drewN (Below.refl _ _) _
    have HY:Hid (Ao B g (.slice pa ps.length pcap) (.slice qa ns.length qcap) Y vqX FX rvX dX (n+1)):=HX.out.later hbY
    have HBY:Hid (Below B w Y ∧ B ≤ Y.heap.size):=⟨HBX.out.trans (hbY.mono (Nat.le_trans HB.out.1 HBX.out.size)),Nat.le_trans (Nat.le_trans HB.out.1 HBX.out.size) hbY.size⟩
    have HBut:Hid (But (AC g F rv) w Y):=HE.out.but.trans (.ofBelow hbY)
    clear hY hbY
    cases b with
    | true=>
     have hfit:p1.size ≤ dX.cr f:=of_decide_eq_true HBd.out
     have hxx:(k1,dX.sent (Bd ps) f k1 r1)=(k,e):=by
      have hg:=HOk.out.2.2.1
      rw [Drr.go,HOk.out.2.2.2] at hg
      simp only [HK1.out,if_pos (show Bd ps k1 ≤ dX.cr f by rw [Df HP1.out];exact hfit)] at hg
      exact Option.some.inj hg
     obtain ⟨rfl,rfl⟩:=Prod.mk.inj hxx
     have HTk:Hid (Calls Tryz.prog 224 #[.pointer (some ⟨g,0,none⟩)] Y fun e w'=>e=.returned (.int .i64 (k1:Int)) ∧ Bl B g (.slice pa ps.length pcap) (.slice qa ns.length qcap) Y w' FX rvX (dX.sent (Bd ps) f k1 r1) n):=O5 B g pa pcap _ ps vqX FX rvX dX n Y HY.out (HL.out Y HBY.out.1).1 HQ.out.2.2.2.2.2.1 HQ.out.1 f k1 r1 p1 HOk.out.2.2.2 hf8 HK1.out HP1.out HCrX.out hfit hn (by rw [HOk.out.2.1];exact (HQ.out.2.2.2.2.1 f).1) HBY.out.2
     clear hfit hxx
     go_wp2_with fail
     refine HTk.out.mono ?_
     rintro e3 Z ⟨rfl,hZ⟩
     have HZ:Hid (Bl B g (.slice pa ps.length pcap) (.slice qa ns.length qcap) w Z F rv (dX.sent (Bd ps) f k1 r1) n):=Bl.step HBut.out HFX.out hZ
     clear hZ
     go_wp2_with fail
     go_ret
     exact ⟨rfl,HZ.out⟩
    | false=>
     have hbig:¬ p1.size ≤ dX.cr f:=of_decide_eq_false HBd.out
     have HNx:Hid (∃ fu2,fu2 < (fu1+1) ∧ Cy (Ae ps) (Bd ps) (BN ns) 1500 (dX.back f) ∧ Drr.go (Bd ps) (BN ns) fu2 (dX.back f)=some (k,e)):=by
      have hg:=HOk.out.2.2.1
      have hok2:=HOk.out.1.back HOk.out.2.2.2 HK1.out (by rw [Df HP1.out];omega)
      rw [Drr.go,HOk.out.2.2.2] at hg
      simp only [HK1.out,if_neg (show ¬ Bd ps k1 ≤ dX.cr f by rw [Df HP1.out];exact hbig)] at hg
      exact ⟨fu1,by omega,hok2,hg⟩
     have c18:=HY.out.cells.cr_
     have c19:Y.cell? ⟨g,19,none⟩=some (.int .i64 (f:Int)):=by have:=HY.out.cells.cs;rw [HOk.out.2.2.2] at this;exact this
     have hb0:Below Y.heap.size Y (Y.drew.alloc (.cells #[.int .i64 (f:Int)] 3)):=(Below.refl _ _).drew.alloc (Nat.le_refl _) _
     have HTa:Hid (Ao B g (.slice pa ps.length pcap) (.slice qa ns.length qcap) (Y.drew.alloc (.cells #[.int .i64 (f:Int)] 3)) vqX FX rvX dX (n+1)):=HY.out.later hb0
     have HNew:Hid (∀ j u,(ints [(f:Int)])[j]? = some u → (Y.drew.alloc (.cells #[.int .i64 (f:Int)] 3)).cell? (Addr.add ⟨Y.heap.size,0,none⟩ j)=some u):=World.news_of_block (cs:=#[.int .i64 (f:Int)]) (t:=3) (heap_alloc_new Y.drew _)
     have HBs:Hid (B ≤ (Y.drew.alloc (.cells #[.int .i64 (f:Int)] 3)).heap.size):=Nat.le_trans HBY.out.2 hb0.size
     obtain ⟨rl,hrle⟩:∃ rl,dX.row.length=rl:=⟨_,rfl⟩
     have HRe:Hid (dX.row.length=rl):=hrle
     have hrl8:=HRl.out
     rw [hrle] at hrl8
     have c18a:(Y.alloc (.cells #[.int .i64 (f:Int)] 3)).cell? ⟨g,18,none⟩=some rvX:=cell_later ((Below.refl _ _).alloc (Nat.le_refl _) _) c18
     clear hb0 hrle hbig
     go_wp2_with fail
     go_region_law
      (first
       | (refine step_append_lies _ rfl _ _ 32 rfl B 3 i0 (.int .i64 0) 1 8 Tryz.underlying32 hi hz0 hz1 hz2 rfl (by decide) rvX rl (ints (Am dX.row)) rfl (by have:=HTa.out.row;rwa [HRe.out] at this) ⟨Y.heap.size,0,none⟩ 1 1 (ints [(f:Int)]) rfl rfl HNew.out (GZ _) (by decide) (by unfold maxLen;omega) (by omega) HBs.out _ rfl ?_
          intro g5 cap5 w5 ho5 hg5 hat5 hlt5
          have hbut:But (fun k=>rvX.ownBlock=some k) (Y.drew.alloc (.cells #[.int .i64 (f:Int)] 3)) w5:=⟨hg5.os,hg5.tape,hg5.output,hg5.size,fun k hk hn=>hg5.block k hk (fun e=>hn e.symm)⟩
          have HT5:=HTa.out.cells.but hbut (fun e=>HTa.out.rowg e)
          have y1:=HT5.cr_
          have y2:=HT5.free 18
          have H5:Hid (w5.ownsRow B 3 1 (.slice (some ⟨g5,0,none⟩) (rl+1) cap5) (rl+1) (ints (Am dX.row) ++ ints [(f:Int)]) ∧ But (fun k=>rvX.ownBlock=some k) (Y.drew.alloc (.cells #[.int .i64 (f:Int)] 3)) w5 ∧ (rvX.ownBlock=some g5 ∨ g5=(Y.drew.alloc (.cells #[.int .i64 (f:Int)] 3)).heap.size)):=⟨ho5,hbut,hat5⟩
          clear ho5 hg5 hat5 hlt5 hbut HT5)
       | fail)
     all_goals
      have HNw:Hid (∀ k,(Value.slice (some ⟨g5,0,none⟩) (rl+1) cap5).ownBlock=some k → rvX.ownBlock=some k ∨ (Y.drew.alloc (.cells #[.int .i64 (f:Int)] 3)).heap.size ≤ k):=fun j hj=>by
       have e:g5=j:=Option.some.inj hj
       rcases H5.out.2.2 with h' | h'
       · exact .inl (by rw [← e];exact h')
       · exact .inr (by rw [← e,h'];exact Nat.le_refl _)
      have HT6:Hid (Ao B g (.slice pa ps.length pcap) (.slice qa ns.length qcap) (w5.setCell ⟨g,18,none⟩ (.slice (some ⟨g5,0,none⟩) (rl+1) cap5)) vqX FX (.slice (some ⟨g5,0,none⟩) (rl+1) cap5) { dX with row:=dX.row ++ [f] } (n+1)):=HTa.out.setR H5.out.2.1 (by rw [List.length_append,Fz,HRe.out];exact H5.out.1) HNw.out
      have z1:=HT6.out.cells.cs
      have z2:=HT6.out.cells.free 19
      have HBt:Hid (But (AC g FX rvX) Y (w5.setCell ⟨g,18,none⟩ (.slice (some ⟨g5,0,none⟩) (rl+1) cap5))):=((But.ofBelow ((Below.refl _ _).drew.alloc (Nat.le_refl _) _)).trans (H5.out.2.1.mono fun j hj=>.inr (.inr hj))).trans ((Eu _ _ _ _).mono fun j hj=>.inl hj)
      clear y1 y2
      go_wp2_with fail
      obtain ⟨fu2,hfu2,hok2,hgo2⟩:=HNx.out
      go_roundg fu2
      case measure=>omega
      case rel=>
       refine ⟨rfl,dX.back f,hok2,HOk.out.2.1,hgo2,Bl.step HBut.out HFX.out ⟨⟨vqX,FX,_,HT6.out.setS none rfl,fun j hj=>?_⟩,HBt.out.trans ((Eu _ _ _ _).mono fun j hj=>.inl hj)⟩⟩
       rcases Jq HNw.out hj with h' | h'
       · exact .inl h'
       · exact .inr (Nat.le_trans (by simp) h')
end Go.Proofs.YtipdclphpkgceaaGreatDoor
