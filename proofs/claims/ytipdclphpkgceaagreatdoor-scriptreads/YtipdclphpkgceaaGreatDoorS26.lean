/- Own facts, put together: no statement of its own. -/
import Derived.Deep.RegionLaw
import Derived.Test.YtipdclphpkgceaaGreatDoorS25
import Derived.Test.YtipdclphpkgceaaGreatDoorS07
import Derived.BigRegion
import Derived.Test.YtipdclphpkgceaaGreatDoorS08
set_option maxHeartbeats 4000000
set_option maxRecDepth 100000

namespace Go.Proofs.YtipdclphpkgceaaGreatDoor
open Go.RowKit
theorem step_append_slide {P:Program} {w:World} {ops:Array Oper} {o:Oper} {a:Act} {K:Act → World → Prop} {Q:Exit → Act → World → Prop} {E:Prop} (hgd:o.guard=none) (s x:Operand) (t:TypeId)
  (ho:o.op=.call { callee:=.builtin .append,args:=#[s,x],argTypes:=#[t,t] })
  (e:TypeId) (i:TypeInfo) (z:Value) (bytes:Nat) (ht:P.underlying t=some (.slice e)) (hi:P.info? e=some i) (hz:i.zero=some z) (hsize:i.size=1) (hby:i.bytes=bytes) (hzs:z.cells.size=1)
  (B:Nat) (v:Value) (F:Nat → Prop) (k:Nat) (xs:List Nat) (hs:a.eval s=v) (h:Slides w B v F xs) (hBw:B ≤ w.heap.size) (ad:Addr) (c:Nat) (hx:a.eval x=.slice (some ad) 1 c) (hk:w.cell? ad=some (.int .i64 (k:Int))) (h63:xs.length+1 ≤ maxLen) (hbytes:(xs.length+1) * bytes ≤ 140737488355328)
  (hK:∀ ao cap w',SlidesOn w w' B F ao (xs.length+1) cap (xs ++ [k]) → K (a.put o.dst (.slice ao (xs.length+1) cap)) w') :
  if Region.wanted o (yielded ops a.tmps)=true then Oper.wp P o a w K Q else E:=by
 have hw:Region.wanted o (yielded ops a.tmps)=true:=by simp [Region.wanted,hgd]
 rw [if_pos hw]
 obtain ⟨ao,cap,w',hrun,g1⟩:=run_append_slide (P:=P) w t o.type e i z bytes ht hi hz hsize hby hzs B v F k xs h hBw ad c hk h63 hbytes
 unfold Oper.wp
 simp [execOp,ho,resolve,invoke,builtin,hs,hx,hrun,Result.andThen]
 exact hK ao cap w' g1
theorem foot_setQ {g f N k:Nat} {F:Nat → Nat → Prop} {F':Nat → Prop} {rv:Value} (hf:f < 8) (h:∀ k,F' k → F f k ∨ N ≤ k) (hk:turnFoot g (put1 F f F') rv k):turnFoot g F rv k ∨ N ≤ k:=by
 rcases hk with rfl | ⟨j,hj,hk⟩ | hk
 · exact .inl (.inl rfl)
 ·
  by_cases e:j=f
  ·
   subst e
   rw [put1_same] at hk
   rcases h k hk with h' | h'
   · exact .inl (.inr (.inl ⟨j,hj,h'⟩))
   · exact .inr h'
  ·
   rw [put1_other _ _ e] at hk
   exact .inl (.inr (.inl ⟨j,hj,hk⟩))
 · exact .inl (.inr (.inr hk))
theorem foot_setR {g N k:Nat} {F:Nat → Nat → Prop} {rv v':Value} (h:∀ k,v'.ownBlock=some k → rv.ownBlock=some k ∨ N ≤ k) (hk:turnFoot g F v' k):turnFoot g F rv k ∨ N ≤ k:=by
 rcases hk with rfl | hk | hk
 · exact .inl (.inl rfl)
 · exact .inl (.inr (.inl hk))
 ·
  rcases h k hk with h' | h'
  · exact .inl (.inr (.inr h'))
  · exact .inr h'
theorem row_few {ps:List Pk} {ns:List Int} {M:Int} {q:TQ} (h:TQOk ps ns M q):q.d.row.length ≤ 8:=by
 have h8:∀ f,f ∈ q.d.line → f < 8:=fun f hf=>by
  rcases Nat.lt_or_ge f 8 with h' | h'
  · exact h'
  · exact absurd (h.few f h') ((h.state.active f).1 hf)
 have h1:=sum_le (fun _=>1) 1 8 q.d.line h.state.nodup h8 (fun _=>Nat.le_refl _)
 have h2:(q.d.line.map fun _=>1).sum=q.d.line.length:=by
  generalize q.d.line=l
  induction l with
  | nil=>rfl
  | cons a r ih=>simp only [List.map_cons,List.sum_cons,List.length_cons,ih];omega
 have h3:q.d.row.length ≤ q.d.line.length:=by
  unfold Drr.line
  cases q.d.srv <;> simp
 omega
structure ComeEnd (B g:Nat) (pv qv:Value) (w w':World) (F:Nat → Nat → Prop) (rv:Value) (d:Drr) (n:Nat):Prop where
 at_:∃ vq' F' rv',TurnsAt B g pv qv w' vq' F' rv' d n ∧ ∀ k,turnFoot g F' rv' k → turnFoot g F rv k ∨ w.heap.size ≤ k
 but:But (turnFoot g F rv) w w'
theorem ComeEnd.left {B:Nat} {W0:World} {g:Nat} {pv qv:Value} {w w':World} {D:Nat → Prop} {q q':TQ} {F:Nat → Nat → Prop} {rv:Value} (h:HeldT B W0 g pv qv w D q) (hD:∀ k,D k ↔ turnFoot g F rv k) (he:ComeEnd B g pv qv w w' F rv q'.d q'.n):QueLeft (HeldT B W0 g pv qv) w w' D q':=by
 obtain ⟨vq',F',rv',h1,h2⟩:=he.at_
 exact h.leaves hD (he.but.mono fun k hk=>(hD k).2 hk) h1 h2
theorem turnsCome_more (B g:Nat) (pa:Option Addr) (pcap:Nat) (qv:Value) (ps:List Pk) (vq:Nat → Value) (F:Nat → Nat → Prop) (rv:Value) (d:Drr) (n:Nat) (w:World) (h:TurnsAt B g (.slice pa ps.length pcap) qv w vq F rv d n) (hl:LiesP w pa ps) (hlen:ps.length ≤ 300) (k f:Nat) (p:Pk) (hp:ps[k]? = some p) (hpf:p.flow=(f:Int)) (hf:f < 8) (hq:d.qs f ≠ []) (hq3:(d.qs f).length ≤ 300) (hn:n ≤ 1000) (hB:B ≤ w.heap.size) :
  Calls Tryz.prog 204 #[.pointer (some ⟨g,0,none⟩),.int .i64 (k:Int)] w fun e w'=>e=.returned (.tuple #[]) ∧ ComeEnd B g (.slice pa ps.length pcap) qv w w' F rv { d with qs:=put1 d.qs f (d.qs f ++ [k]) } (n+1):=by
 obtain ⟨i0,hi,hz0,hz1,hz2⟩:=info_parts Tryz.infoInt
 have hkl:=lt_of_get hp
 obtain ⟨pb,off,rfl,hlt,hc⟩:=hl.place (by omega)
 have cp:=(hc k p hp).1
 rw [hpf] at cp
 have hfi:(f:Int) < 8:=by omega
 have HW:Hid (TurnsAt B g (.slice (some ⟨pb,off,none⟩) ps.length pcap) qv w vq F rv d n):=h
 have HBW:Hid (B ≤ w.heap.size):=hB
 have HBut:Hid (But (turnFoot g F rv) w w):=But.refl _ _
 have HSz:Hid (w.heap.size ≤ w.heap.size):=Nat.le_refl _
 have c0:=h.cells.c0
 have hm0:0 < (d.qs f).length:=List.length_pos_iff.2 hq
 obtain ⟨ao,cap,hv,hcap,hmx⟩:=(HW.out.queue f hf).form
 have cq:=HW.out.cells.cq f hf
 rw [hv] at cq
 have HVq:Hid (vq f=.slice ao (d.qs f).length cap):=hv
 obtain ⟨xs,hxs⟩:∃ xs,d.qs f=xs:=⟨_,rfl⟩
 rw [hxs] at cq hcap hq3 HVq
 have HXs0:Hid (d.qs f=xs):=hxs
 have hb0:Below w.heap.size w (w.drew.alloc (.cells #[.int .i64 (k:Int)] 3)):=(Below.refl _ _).drew.alloc (Nat.le_refl _) _
 have HTa:Hid (TurnsAt B g (.slice (some ⟨pb,off,none⟩) ps.length pcap) qv (w.drew.alloc (.cells #[.int .i64 (k:Int)] 3)) vq F rv d n):=HW.out.later hb0
 have HS:Hid (Slides (w.drew.alloc (.cells #[.int .i64 (k:Int)] 3)) B (.slice ao xs.length cap) (F f) xs):=by
  have h1:=HTa.out.queue f hf
  have e:(d:Drr).qs f=xs:=hxs
  rwa [HVq.out,e] at h1
 have HK:Hid ((w.drew.alloc (.cells #[.int .i64 (k:Int)] 3)).cell? ⟨w.heap.size,0,none⟩=some (.int .i64 (k:Int))):=(cell_of_row _ _ 0 _ _ _ (heap_alloc_new w.drew _)).trans rfl
 have HBs:Hid (B ≤ (w.drew.alloc (.cells #[.int .i64 (k:Int)] 3)).heap.size):=Nat.le_trans HBW.out hb0.size
 obtain ⟨m,hm⟩:∃ m,xs.length=m:=⟨_,rfl⟩
 have HM:Hid (xs.length=m):=hm
 rw [hm] at cq hcap hq3 HVq
 rw [HXs0.out,hm] at hm0
 have hmd:((m:Int) == 0)=false:=by simp;omega
 have hml:m ≤ maxLen:=Nat.le_trans hcap hmx
 unfold maxLen at hmx hml
 have HXs:Hid (d.qs f=xs):=hxs
 have cqa:(w.alloc (.cells #[.int .i64 (k:Int)] 3)).cell? ⟨g,2+f,none⟩=some (.slice ao m cap):=cell_later ((Below.refl _ _).alloc (Nat.le_refl _) _) cq
 clear hv hxs hm hb0
 clear h hl hc hp hpf hq hB
 go_enter Tryz.func204,Tryz.ntmps204
 go_wp2_with fail
 go_region_law
  (first
   | (refine step_append_slide rfl _ _ 32 rfl 3 i0 (.int .i64 0) 8 Tryz.underlying32 hi hz0 hz1 hz2 rfl B (.slice ao m cap) (F f) k xs rfl (by have:=HS.out;rwa [HM.out] at this) HBs.out ⟨w.heap.size,0,none⟩ 1 rfl HK.out (by rw [HM.out];unfold maxLen;omega) (by rw [HM.out];omega) ?_
      intro ao' cap' w2 hon
      rw [HM.out] at hon ⊢
      obtain ⟨F',g1,g2,g3⟩:=hon
      have HO:Hid (Slides w2 B (.slice ao' (m+1) cap') F' (xs ++ [k]) ∧ (∀ k,F' k → F f k ∨ w.heap.size+1 ≤ k) ∧ But (F f) (w.drew.alloc (.cells #[.int .i64 (k:Int)] 3)) w2):=⟨g1,(by simpa using g2),g3⟩
      have y1:w2.cell? ⟨g,2+f,none⟩=some (.slice ao m cap):=by
        have:=(HTa.out.cells.but g3 (HTa.out.apart f hf).1).cq f hf
        rwa [HVq.out] at this
      have y2:w2.frozen? ⟨g,2+f,none⟩=false:=(HTa.out.cells.but g3 (HTa.out.apart f hf).1).free _
      clear g1 g2 g3)
   | fail)
 all_goals
  have HT2:Hid (TurnsAt B g (.slice (some ⟨pb,off,none⟩) ps.length pcap) qv (w2.setCell ⟨g,2+f,none⟩ (.slice ao' (m+1) cap')) (put1 vq f (.slice ao' (m+1) cap')) (put1 F f F') rv { d with qs:=put1 d.qs f (xs ++ [k]) } n):=HTa.out.setQ hf HO.out.2.2 HO.out.1 (by simpa using HO.out.2.1)
  have z1:=HT2.out.cells.cn
  have z2:=HT2.out.cells.free 20
  clear y1 y2
  go_wp2_with fail
  go_end0
  refine ⟨rfl,⟨_,_,_,(by rw [HXs.out];exact HT2.out.setN (n+1) (by omega)),fun j hj=>?_⟩,?_⟩
  ·
   rcases foot_setQ hf (fun j hj=>HO.out.2.1 j hj) hj with h' | h'
   · exact .inl h'
   · exact .inr (by have:=HSz.out;omega)
  · exact (HBut.out.trans (((But.ofBelow ((Below.refl _ _).drew.alloc (Nat.le_refl _) _)).trans (HO.out.2.2.mono fun j hj=>.inr (.inl ⟨f,hf,hj⟩))).trans ((butG _ _ _ _).mono fun j hj=>.inl hj))).trans ((butG _ _ _ _).mono fun j hj=>.inl hj)
theorem turnsCome_first (B g:Nat) (pa:Option Addr) (pcap:Nat) (qv:Value) (ps:List Pk) (vq:Nat → Value) (F:Nat → Nat → Prop) (rv:Value) (d:Drr) (n:Nat) (w:World) (h:TurnsAt B g (.slice pa ps.length pcap) qv w vq F rv d n) (hl:LiesP w pa ps) (hlen:ps.length ≤ 300) (k f:Nat) (p:Pk) (hp:ps[k]? = some p) (hpf:p.flow=(f:Int)) (hf:f < 8) (hq:d.qs f=[]) (hrl:d.row.length ≤ 8) (hn:n ≤ 1000) (hB:B ≤ w.heap.size) :
  Calls Tryz.prog 204 #[.pointer (some ⟨g,0,none⟩),.int .i64 (k:Int)] w fun e w'=>e=.returned (.tuple #[]) ∧ ComeEnd B g (.slice pa ps.length pcap) qv w w' F rv { d with qs:=put1 d.qs f (d.qs f ++ [k]),row:=d.row ++ [f] } (n+1):=by
 obtain ⟨i0,hi,hz0,hz1,hz2⟩:=info_parts Tryz.infoInt
 have hkl:=lt_of_get hp
 obtain ⟨pb,off,rfl,hlt,hc⟩:=hl.place (by omega)
 have cp:=(hc k p hp).1
 rw [hpf] at cp
 have hfi:(f:Int) < 8:=by omega
 have hq3:(d.qs f).length ≤ 300:=by rw [hq];simp
 have HW0:Hid (TurnsAt B g (.slice (some ⟨pb,off,none⟩) ps.length pcap) qv w vq F rv d n):=h
 have c0:=h.cells.c0
 have c18:=h.cells.cr_
 have cq0:=h.cells.cq f hf
 obtain ⟨ao0,cap0,hv0,hcap0,hmx0⟩:=(h.queue f hf).form
 rw [hv0,hq] at cq0
 have cq0':w.cell? ⟨g,2+f,none⟩=some (.slice ao0 0 cap0):=cq0
 have hba:Below w.heap.size w (w.alloc (.cells #[.int .i64 (f:Int)] 3)):=(Below.refl _ _).alloc (Nat.le_refl _) _
 have HTw:Hid (TurnsAt B g (.slice (some ⟨pb,off,none⟩) ps.length pcap) qv (w.alloc (.cells #[.int .i64 (f:Int)] 3)) vq F rv d n):=h.later hba
 have HNew:Hid (∀ j u,(ints [(f:Int)])[j]? = some u → (w.alloc (.cells #[.int .i64 (f:Int)] 3)).cell? (Addr.add ⟨w.heap.size,0,none⟩ j)=some u):=World.news_of_block (cs:=#[.int .i64 (f:Int)]) (t:=3) (heap_alloc_new w _)
 have HBs0:Hid (B ≤ (w.alloc (.cells #[.int .i64 (f:Int)] 3)).heap.size ∧ (w.alloc (.cells #[.int .i64 (f:Int)] 3)).heap.size=w.heap.size+1):=⟨Nat.le_trans hB hba.size,by simp⟩
 obtain ⟨rl,hrle⟩:∃ rl,d.row.length=rl:=⟨_,rfl⟩
 have HRl:Hid (d.row.length=rl):=hrle
 rw [hrle] at hrl
 have HB0:Hid (B ≤ w.heap.size):=hB
 have HQ:Hid (d.qs f=[]):=hq
 unfold maxLen at hmx0
 clear h hl hc hp hpf hB hq cq0 hv0 hba hrle
 go_enter Tryz.func204,Tryz.ntmps204
 go_wp2_with (at_builtin;go_must (refine wpList_append_lies _ rfl _ _ 32 rfl B 3 i0 (.int .i64 0) 1 8 Tryz.underlying32 hi hz0 hz1 hz2 rfl (by decide) rv rl (ints (asInts d.row)) rfl (by have:=HTw.out.row;rwa [HRl.out] at this) ⟨w.heap.size,0,none⟩ 1 1 (ints [(f:Int)]) rfl rfl HNew.out (ints_one _) (by decide) (by unfold maxLen;omega) (by omega) HBs0.out.1 _ rfl ?_;intro g5 cap5 w5 ho5 hg5 hat5 hlt5;have hbut:But (fun k=>rv.ownBlock=some k) (w.alloc (.cells #[.int .i64 (f:Int)] 3)) w5:=⟨hg5.os,hg5.tape,hg5.output,hg5.size,fun k hk hn=>hg5.block k hk (fun e=>hn e.symm)⟩;have HT5:=HTw.out.cells.but hbut (fun e=>HTw.out.rowg e);have y1:=HT5.cr_;have y2:=HT5.free 18;have H5:Hid (w5.ownsRow B 3 1 (.slice (some ⟨g5,0,none⟩) (rl+1) cap5) (rl+1) (ints (asInts d.row) ++ ints [(f:Int)]) ∧ But (fun k=>rv.ownBlock=some k) (w.alloc (.cells #[.int .i64 (f:Int)] 3)) w5 ∧ (rv.ownBlock=some g5 ∨ g5=(w.alloc (.cells #[.int .i64 (f:Int)] 3)).heap.size)):=⟨ho5,hbut,hat5⟩;clear ho5 hg5 hat5 hlt5 hbut HT5))
 have HNw:Hid (∀ k,(Value.slice (some ⟨g5,0,none⟩) (rl+1) cap5).ownBlock=some k → rv.ownBlock=some k ∨ (w.alloc (.cells #[.int .i64 (f:Int)] 3)).heap.size ≤ k):=fun j hj=>by
  have e:g5=j:=Option.some.inj hj
  rcases H5.out.2.2 with h' | h'
  · exact .inl (by rw [← e];exact h')
  · exact .inr (by rw [← e,h'];exact Nat.le_refl _)
 have HWt:Hid (TurnsAt B g (.slice (some ⟨pb,off,none⟩) ps.length pcap) qv (w5.setCell ⟨g,18,none⟩ (.slice (some ⟨g5,0,none⟩) (rl+1) cap5)) vq F (.slice (some ⟨g5,0,none⟩) (rl+1) cap5) { d with row:=d.row ++ [f] } n):=HTw.out.setR H5.out.2.1 (by rw [List.length_append,asInts_snoc,HRl.out];exact H5.out.1) HNw.out
 have HBt:Hid (But (turnFoot g F rv) w (w5.setCell ⟨g,18,none⟩ (.slice (some ⟨g5,0,none⟩) (rl+1) cap5))):=((But.ofBelow ((Below.refl _ _).alloc (Nat.le_refl _) _)).trans (H5.out.2.1.mono fun j hj=>.inr (.inr hj))).trans ((butG _ _ _ _).mono fun j hj=>.inl hj)
 obtain ⟨V,hV⟩:∃ V,w5.setCell ⟨g,18,none⟩ (.slice (some ⟨g5,0,none⟩) (rl+1) cap5)=V:=⟨_,rfl⟩
 rw [hV] at HWt HBt ⊢
 have HW:Hid (TurnsAt B g (.slice (some ⟨pb,off,none⟩) ps.length pcap) qv V vq F (.slice (some ⟨g5,0,none⟩) (rl+1) cap5) { d with row:=d.row ++ [f] } n):=HWt.out
 have HBut:Hid (But (turnFoot g F (.slice (some ⟨g5,0,none⟩) (rl+1) cap5)) V V):=But.refl _ _
 have HSz:Hid (w.heap.size ≤ V.heap.size):=HBt.out.size
 have HBW:Hid (B ≤ V.heap.size):=Nat.le_trans HB0.out HSz.out
 clear hV y1 y2 c18 cq0'
 obtain ⟨ao,cap,hv,hcap,hmx⟩:=(HW.out.queue f hf).form
 simp only at hv hcap
 have cq:=HW.out.cells.cq f hf
 rw [hv] at cq
 have HVq:Hid (vq f=.slice ao (d.qs f).length cap):=hv
 obtain ⟨xs,hxs⟩:∃ xs,d.qs f=xs:=⟨_,rfl⟩
 rw [hxs] at cq hcap hq3 HVq
 have hb0:Below V.heap.size V (V.drew.alloc (.cells #[.int .i64 (k:Int)] 3)):=(Below.refl _ _).drew.alloc (Nat.le_refl _) _
 have HTa:Hid (TurnsAt B g (.slice (some ⟨pb,off,none⟩) ps.length pcap) qv (V.drew.alloc (.cells #[.int .i64 (k:Int)] 3)) vq F (.slice (some ⟨g5,0,none⟩) (rl+1) cap5) { d with row:=d.row ++ [f] } n):=HW.out.later hb0
 have HS:Hid (Slides (V.drew.alloc (.cells #[.int .i64 (k:Int)] 3)) B (.slice ao xs.length cap) (F f) xs):=by
  have h1:=HTa.out.queue f hf
  have e:({ d with row:=d.row ++ [f] }:Drr).qs f=xs:=hxs
  rwa [HVq.out,e] at h1
 have HK:Hid ((V.drew.alloc (.cells #[.int .i64 (k:Int)] 3)).cell? ⟨V.heap.size,0,none⟩=some (.int .i64 (k:Int))):=(cell_of_row _ _ 0 _ _ _ (heap_alloc_new V.drew _)).trans rfl
 have HBs:Hid (B ≤ (V.drew.alloc (.cells #[.int .i64 (k:Int)] 3)).heap.size):=Nat.le_trans HBW.out hb0.size
 obtain ⟨m,hm⟩:∃ m,xs.length=m:=⟨_,rfl⟩
 have HM:Hid (xs.length=m):=hm
 rw [hm] at cq hcap hq3 HVq
 have hml:m ≤ maxLen:=Nat.le_trans hcap hmx
 unfold maxLen at hmx hml
 have HXs:Hid (d.qs f=xs):=hxs
 have cqa:(V.alloc (.cells #[.int .i64 (k:Int)] 3)).cell? ⟨g,2+f,none⟩=some (.slice ao m cap):=cell_later ((Below.refl _ _).alloc (Nat.le_refl _) _) cq
 clear hv hxs hm hb0
 go_region_law
  (first
   | (refine step_append_slide rfl _ _ 32 rfl 3 i0 (.int .i64 0) 8 Tryz.underlying32 hi hz0 hz1 hz2 rfl B (.slice ao m cap) (F f) k xs rfl (by have:=HS.out;rwa [HM.out] at this) HBs.out ⟨V.heap.size,0,none⟩ 1 rfl HK.out (by rw [HM.out];unfold maxLen;omega) (by rw [HM.out];omega) ?_
      intro ao' cap' w2 hon
      rw [HM.out] at hon ⊢
      obtain ⟨F',g1,g2,g3⟩:=hon
      have HO:Hid (Slides w2 B (.slice ao' (m+1) cap') F' (xs ++ [k]) ∧ (∀ k,F' k → F f k ∨ V.heap.size+1 ≤ k) ∧ But (F f) (V.drew.alloc (.cells #[.int .i64 (k:Int)] 3)) w2):=⟨g1,(by simpa using g2),g3⟩
      have y1:w2.cell? ⟨g,2+f,none⟩=some (.slice ao m cap):=by
        have:=(HTa.out.cells.but g3 (HTa.out.apart f hf).1).cq f hf
        rwa [HVq.out] at this
      have y2:w2.frozen? ⟨g,2+f,none⟩=false:=(HTa.out.cells.but g3 (HTa.out.apart f hf).1).free _
      clear g1 g2 g3)
   | fail)
 all_goals
  have HT2:Hid (TurnsAt B g (.slice (some ⟨pb,off,none⟩) ps.length pcap) qv (w2.setCell ⟨g,2+f,none⟩ (.slice ao' (m+1) cap')) (put1 vq f (.slice ao' (m+1) cap')) (put1 F f F') (.slice (some ⟨g5,0,none⟩) (rl+1) cap5) { { d with row:=d.row ++ [f] } with qs:=put1 d.qs f (xs ++ [k]) } n):=HTa.out.setQ hf HO.out.2.2 HO.out.1 (by simpa using HO.out.2.1)
  have z1:=HT2.out.cells.cn
  have z2:=HT2.out.cells.free 20
  clear y1 y2
  go_wp2_with fail
  go_end0
  refine ⟨rfl,⟨_,_,_,(by rw [HXs.out];exact HT2.out.setN (n+1) (by omega)),fun j hj=>?_⟩,?_⟩
  ·
   rcases foot_setQ hf (fun j hj=>HO.out.2.1 j hj) hj with h' | h'
   ·
    exact (by
    rcases foot_setR HNw.out h' with h'' | h''
    · exact .inl h''
    · exact .inr (by have:=HBs0.out.2;omega))
   · exact .inr (by have:=HSz.out;omega)
  · exact (HBt.out.trans (((But.ofBelow ((Below.refl _ _).drew.alloc (Nat.le_refl _) _)).trans (HO.out.2.2.mono fun j hj=>.inr (.inl ⟨f,hf,hj⟩))).trans ((butG _ _ _ _).mono fun j hj=>.inl hj))).trans ((butG _ _ _ _).mono fun j hj=>.inl hj)
theorem put1_put1 {α:Type} (f:Nat → α) (k:Nat) (x y:α):put1 (put1 f k x) k y=put1 f k y:=by
 funext i
 unfold put1
 split <;> rfl
theorem turnsServe (B g:Nat) (pv:Value) (qa:Option Addr) (qcap:Nat) (ns:List Int) (vq:Nat → Value) (F:Nat → Nat → Prop) (rv:Value) (d:Drr) (n:Nat) (w:World) (h:TurnsAt B g pv (.slice qa ns.length qcap) w vq F rv d n) (hl:LiesN w qa ns) (hns:NumsOk 1 3000 ns) (f:Nat) (r:List Nat) (hr:d.row=f :: r) (hf:f < 8) (hc0:0 ≤ d.cr f) (hc1:d.cr f ≤ 1000000) (hrl:d.row.length ≤ 8) (hB:B ≤ w.heap.size) (hqB:∀ ad,qa=some ad → ad.block < B) :
  Calls Tryz.prog 222 #[.pointer (some ⟨g,0,none⟩)] w fun e w'=>e=.returned (.tuple #[]) ∧ ComeEnd B g pv (.slice qa ns.length qcap) w w' F rv (d.turn (quOf ns) f r) n:=by
 obtain ⟨qb,off,rfl,hlt,hcN⟩:=hl.place (by rw [hns.len];omega)
 obtain ⟨x,hx,-⟩:=get_some ns f (by rw [hns.len];exact hf)
 have hxr:=hns.each f x hx
 have HQ:Hid (quOf ns f=x):=quOf_get hx
 have cx:=hcN f x hx
 have hown:=h.row
 rw [hr] at hown hrl
 rw [← asInts_length] at hown
 obtain ⟨rb,cap,hrv,hlc,hcm,hcell⟩:=own_some hown (by rw [asInts_length];simp)
 subst hrv
 have crf:w.cell? ⟨rb,0,none⟩=some (.int .i64 (f:Int)):=hcell 0 _ rfl
 have c18:=h.cells.cr_
 have c19:=h.cells.cs
 have f19:=h.cells.free 19
 have HT1:Hid (TurnsAt B g pv (.slice (some ⟨qb,off,none⟩) ns.length qcap) (w.setCell ⟨g,19,none⟩ (.int .i64 (f:Int))) vq F (.slice (some ⟨rb,0,none⟩) (asInts (f :: r)).length cap) { d with srv:=some f } n):=h.setS (some f) rfl
 have hlen2:(asInts (f :: r)).length=r.length+1:=by rw [asInts_length];rfl
 have HDel:Hid (Calls Tryz.prog 221 #[.slice (some ⟨rb,0,none⟩) (r.length+1) cap,.int .i64 0,.int .i64 1] (w.setCell ⟨g,19,none⟩ (.int .i64 (f:Int))) fun e w'=>e=.returned (.slice (some ⟨rb,0,none⟩) r.length cap) ∧ w'.ownsRow B 3 1 (.slice (some ⟨rb,0,none⟩) r.length cap) r.length (ints (asInts r)) ∧ But (fun k=>k=rb) (w.setCell ⟨g,19,none⟩ (.int .i64 (f:Int))) w'):=by
  have h1:=HT1.out.row
  have e:({ d with srv:=some f }:Drr).row=f :: r:=hr
  rw [e] at h1
  have hd:=delete_one B rb cap 0 (asInts (f :: r)) (w.setCell ⟨g,19,none⟩ (.int .i64 (f:Int))) (by rw [hlen2] at h1 ⊢;exact h1) (by rw [hlen2];omega) hlc hcm
  rw [hlen2] at hd
  exact hd
 rw [hlen2] at c18 hlc
 rw [hlen2] at HT1
 obtain ⟨m,hm⟩:∃ m,r.length=m:=⟨_,rfl⟩
 have HM:Hid (r.length=m):=hm
 obtain ⟨c,hcr⟩:∃ c,d.cr f=c:=⟨_,rfl⟩
 have HCr:Hid (d.cr f=c):=hcr
 rw [hcr] at hc0 hc1
 rw [hm] at HDel HT1 c18 hlc
 have h8:=hns.len
 rw [h8] at HT1
 have hm8:m ≤ 8:=by rw [← hm];simp at hrl;omega
 have HFr:Hid (∀ W,Below B w W → W.cell? ⟨qb,off+f,none⟩=some (.int .i64 x)):=fun W hb=>by
  rw [hb.cell (p:=⟨qb,off+f,none⟩) (show qb < B from hqB ⟨qb,off,none⟩ rfl)];exact cx
 unfold maxLen at hcm
 have HBB:Hid (B ≤ w.heap.size):=hB
 have HLen:Hid ((asInts (f :: r)).length=m+1):=by rw [← hm];exact hlen2
 have HFoot:Hid (∀ k,turnFoot g F (.slice (some ⟨rb,0,none⟩) (m+1) cap) k → B ≤ k):=fun k hk=>(h.foot k hk).1
 clear h hl hcN hown hcell hx hr hm hcr hns hqB cx
 go_enter Tryz.func222,Tryz.ntmps222
 go_wp2_with fail
 refine HDel.out.mono ?_
 rintro e w2 ⟨rfl,hown2,hbut2⟩
 have HO:Hid (w2.ownsRow B 3 1 (.slice (some ⟨rb,0,none⟩) m cap) m (ints (asInts r)) ∧ But (fun k=>k=rb) (w.setCell ⟨g,19,none⟩ (.int .i64 (f:Int))) w2):=⟨hown2,hbut2⟩
 have hc2:=HT1.out.cells.but hbut2 (fun e=>HT1.out.rowg (by rw [e];rfl))
 have y1:=hc2.cr_
 have y2:=hc2.free 18
 clear hown2 hbut2 hc2
 go_wp2_with fail
 have HT2:Hid (TurnsAt B g pv (.slice (some ⟨qb,off,none⟩) 8 qcap) (w2.setCell ⟨g,18,none⟩ (.slice (some ⟨rb,0,none⟩) m cap)) vq F (.slice (some ⟨rb,0,none⟩) m cap) { d with srv:=some f,row:=r } n):=HT1.out.setR (HO.out.2.mono fun k hk=>by rw [hk];rfl) (by rw [HM.out];exact HO.out.1) (fun k hk=>.inl hk)
 have HBt:Hid (But (turnFoot g F (.slice (some ⟨rb,0,none⟩) (m+1) cap)) w (w2.setCell ⟨g,18,none⟩ (.slice (some ⟨rb,0,none⟩) m cap))):=(((butG _ _ _ _).mono fun j hj=>.inl hj).trans (HO.out.2.mono fun j hj=>.inr (.inr (by rw [hj];rfl)))).trans ((butG _ _ _ _).mono fun j hj=>.inl hj)
 have HBel:Hid (Below B w (w2.setCell ⟨g,18,none⟩ (.slice (some ⟨rb,0,none⟩) m cap))):=HBt.out.below HBB.out (fun k hk=>HFoot.out k hk)
 obtain ⟨V,hV⟩:∃ V,w2.setCell ⟨g,18,none⟩ (.slice (some ⟨rb,0,none⟩) m cap)=V:=⟨_,rfl⟩
 rw [hV] at HT2 HBt HBel ⊢
 have v1:V.cell? ⟨g,1,none⟩=some (.slice (some ⟨qb,off,none⟩) 8 qcap):=HT2.out.cells.c1
 have v2:V.cell? ⟨g,10+f,none⟩=some (.int .i64 c):=by rw [← HCr.out];exact HT2.out.cells.cc f hf
 have v3:V.cell? ⟨g,19,none⟩=some (.int .i64 (f:Int)):=HT2.out.cells.cs
 have v4:=HFr.out V HBel.out
 have v5:=HT2.out.cells.free (10+f)
 have hfi:(f:Int) < 8:=by omega
 have hwr:IntKind.i64.wrap (c+x)=c+x:=IntWalk.i64_in _ (by omega)
 clear hV y1 y2 c18 c19 f19 crf
 go_region
 all_goals
  go_wp2_with fail
  go_end0
  have e:d.turn (quOf ns) f r={ d with srv:=some f,row:=r,cr:=put1 d.cr f (c+x) }:=by unfold Drr.turn;rw [HCr.out,HQ.out]
  rw [e,h8,HLen.out]
  refine ⟨rfl,⟨_,_,_,(HT2.out.setC hf (c+x)).later (Below.refl _ _).drew,fun j hj=>?_⟩,?_⟩
  · exact foot_setR (fun k hk=>.inl hk) hj
  · exact (HBt.out.trans ((butG _ _ _ _).mono fun j hj=>.inl hj)).drew
theorem turnsTake_more (B g k pb off pcap L:Nat) (qv:Value) (vq:Nat → Value) (F:Nat → Nat → Prop) (rv:Value) (d:Drr) (n:Nat) (w:World) (h:TurnsAt B g (.slice (some ⟨pb,off,none⟩) L pcap) qv w vq F rv d (n+1)) (y:Int) (hcp:∀ W,Below B w W → W.cell? ⟨pb,off+k * 3+1,none⟩=some (.int .i64 y)) (hy0:0 ≤ y) (hkl:k < L) (f:Nat) (r:List Nat) (hs:d.srv=some f) (hf:f < 8) (hc0:0 ≤ d.cr f) (hc1:d.cr f ≤ 1000000) (hy:y ≤ d.cr f) (hn:n ≤ 1000) (hr3:r.length ≤ 300) (hB:B ≤ w.heap.size) (qb qo cap:Nat) (hv:vq f=.slice (some ⟨qb,qo,none⟩) (r.length+1) cap) (hmx:cap ≤ maxLen) (ck:w.cell? ⟨qb,qo,none⟩=some (.int .i64 (k:Int))) (h1:1 < cap) (hsl:Slides w B (.slice (some ⟨qb,qo+1,none⟩) r.length (cap - 1)) (F f) r) (hr:r ≠ []) :
  Calls Tryz.prog 224 #[.pointer (some ⟨g,0,none⟩)] w fun e w'=>e=.returned (.int .i64 (k:Int)) ∧ ComeEnd B g (.slice (some ⟨pb,off,none⟩) L pcap) qv w w' F rv { d with qs:=put1 d.qs f r,cr:=put1 d.cr f (d.cr f - y) } n:=by
 have HT:Hid (TurnsAt B g (.slice (some ⟨pb,off,none⟩) L pcap) qv w vq F rv d (n+1)):=h
 have cs:w.cell? ⟨g,19,none⟩=some (.int .i64 (f:Int)):=by have:=h.cells.cs;rw [hs] at this;exact this
 have cq:=h.cells.cq f hf
 rw [hv] at cq
 have fq:=h.cells.free (2+f)
 obtain ⟨m,hm⟩:∃ m,r.length=m:=⟨_,rfl⟩
 have HM:Hid (r.length=m):=hm
 obtain ⟨c,hcr⟩:∃ c,d.cr f=c:=⟨_,rfl⟩
 have HCr:Hid (d.cr f=c):=hcr
 rw [hcr] at hc0 hc1 hy
 rw [hm] at cq hr3 hsl
 have HFoot:Hid (∀ k,turnFoot g F rv k → B ≤ k):=fun k hk=>(h.foot k hk).1
 have HBB:Hid (B ≤ w.heap.size):=hB
 have HCp:Hid (∀ W,Below B w W → W.cell? ⟨pb,off+k * 3+1,none⟩=some (.int .i64 y)):=hcp
 have hfi:(f:Int) < 8:=by omega
 have hki:(k:Int) < (L:Int):=by omega
 have hm0:0 < m:=by rw [← hm];exact List.length_pos_iff.2 hr
 have hmd:((m:Int) == 0)=false:=by simp;omega
 unfold maxLen at hmx
 have HT1:Hid (TurnsAt B g (.slice (some ⟨pb,off,none⟩) L pcap) qv (w.setCell ⟨g,2+f,none⟩ (.slice (some ⟨qb,qo+1,none⟩) m (cap - 1))).drew (put1 vq f (.slice (some ⟨qb,qo+1,none⟩) m (cap - 1))) (put1 F f (F f)) rv { d with qs:=put1 d.qs f r } (n+1)):=(h.setQ hf (But.refl _ _) hsl (fun _ hk=>.inl hk)).later (Below.refl _ _).drew
 have HBt:Hid (But (turnFoot g F rv) w (w.setCell ⟨g,2+f,none⟩ (.slice (some ⟨qb,qo+1,none⟩) m (cap - 1))).drew):=((butG _ _ _ _).mono fun j hj=>.inl hj).drew
 clear h hs hv hm hcr hB hcp
 go_enter Tryz.func224,Tryz.ntmps224
 go_wp2_with fail
 go_region
 obtain ⟨V,hV⟩:∃ V,(w.setCell ⟨g,2+f,none⟩ (.slice (some ⟨qb,qo+1,none⟩) m (cap - 1))).drew=V:=⟨_,rfl⟩
 rw [hV] at HT1 HBt ⊢
 have HBel:Hid (Below B w V):=HBt.out.below HBB.out (fun k hk=>HFoot.out k hk)
 have v0:=HT1.out.cells.c0
 have v2:V.cell? ⟨g,10+f,none⟩=some (.int .i64 c):=by rw [← HCr.out];exact HT1.out.cells.cc f hf
 have v4:=HCp.out V HBel.out
 have v5:=HT1.out.cells.free (10+f)
 have hwr:IntKind.i64.wrap (c - y)=c - y:=IntWalk.i64_in _ (by omega)
 have HT2:Hid (TurnsAt B g (.slice (some ⟨pb,off,none⟩) L pcap) qv (V.setCell ⟨g,10+f,none⟩ (.int .i64 (c - y))).drew (put1 vq f (.slice (some ⟨qb,qo+1,none⟩) m (cap - 1))) (put1 F f (F f)) rv { d with qs:=put1 d.qs f r,cr:=put1 d.cr f (c - y) } (n+1)):=(HT1.out.setC hf (c - y)).later (Below.refl _ _).drew
 have HBt2:Hid (But (turnFoot g F rv) w (V.setCell ⟨g,10+f,none⟩ (.int .i64 (c - y))).drew):=(HBt.out.trans ((butG _ _ _ _).mono fun j hj=>.inl hj)).drew
 clear hV cs cq fq ck
 go_wp2_with fail
 go_region
 obtain ⟨U,hU⟩:∃ U,(V.setCell ⟨g,10+f,none⟩ (.int .i64 (c - y))).drew=U:=⟨_,rfl⟩
 rw [hU] at HT2 HBt2 ⊢
 have u1:U.cell? ⟨g,20,none⟩=some (.int .i64 (((n+1:Nat)):Int)):=HT2.out.cells.cn
 have u2:=HT2.out.cells.free 20
 have HT3:Hid (TurnsAt B g (.slice (some ⟨pb,off,none⟩) L pcap) qv (U.setCell ⟨g,20,none⟩ (.int .i64 (n:Int))) (put1 vq f (.slice (some ⟨qb,qo+1,none⟩) m (cap - 1))) (put1 F f (F f)) rv { d with qs:=put1 d.qs f r,cr:=put1 d.cr f (c - y) } n):=HT2.out.setN n rfl
 have u3:(U.setCell ⟨g,20,none⟩ (.int .i64 (n:Int))).cell? ⟨g,2+f,none⟩=some (.slice (some ⟨qb,qo+1,none⟩) m (cap - 1)):=by have:=HT3.out.cells.cq f hf;rwa [put1_same] at this
 have hn1:(((n+1:Nat)):Int) - 1=(n:Int):=by omega
 rw [show (((n+1:Nat)):Int)=(n:Int)+1 by omega] at u1
 clear hU v0 v2 v4 v5
 go_wp2_with fail
 go_ret
 rw [HCr.out]
 refine ⟨rfl,⟨_,_,_,HT3.out,fun j hj=>foot_setQ hf (fun _ hk=>.inl hk) hj⟩,?_⟩
 exact HBt2.out.trans ((butG _ _ _ _).mono fun j hj=>.inl hj)
theorem turnsTake_last (B g k pb off pcap L:Nat) (qv:Value) (vq:Nat → Value) (F:Nat → Nat → Prop) (rv:Value) (d:Drr) (n:Nat) (w:World) (h:TurnsAt B g (.slice (some ⟨pb,off,none⟩) L pcap) qv w vq F rv d (n+1)) (y:Int) (hcp:∀ W,Below B w W → W.cell? ⟨pb,off+k * 3+1,none⟩=some (.int .i64 y)) (hy0:0 ≤ y) (hkl:k < L) (f:Nat) (hs:d.srv=some f) (hf:f < 8) (hc0:0 ≤ d.cr f) (hc1:d.cr f ≤ 1000000) (hy:y ≤ d.cr f) (hn:n ≤ 1000) (hr3:([]:List Nat).length ≤ 300) (hB:B ≤ w.heap.size) (qb qo cap:Nat) (hv:vq f=.slice (some ⟨qb,qo,none⟩) (([]:List Nat).length+1) cap) (hmx:cap ≤ maxLen) (ck:w.cell? ⟨qb,qo,none⟩=some (.int .i64 (k:Int))) (h1:1 < cap) (hsl:Slides w B (.slice (some ⟨qb,qo+1,none⟩) ([]:List Nat).length (cap - 1)) (F f) []) :
  Calls Tryz.prog 224 #[.pointer (some ⟨g,0,none⟩)] w fun e w'=>e=.returned (.int .i64 (k:Int)) ∧ ComeEnd B g (.slice (some ⟨pb,off,none⟩) L pcap) qv w w' F rv { d with qs:=put1 d.qs f [],cr:=put1 d.cr f 0,srv:=none } n:=by
 have HT:Hid (TurnsAt B g (.slice (some ⟨pb,off,none⟩) L pcap) qv w vq F rv d (n+1)):=h
 have cs:w.cell? ⟨g,19,none⟩=some (.int .i64 (f:Int)):=by have:=h.cells.cs;rw [hs] at this;exact this
 have cq:=h.cells.cq f hf
 rw [hv] at cq
 have fq:=h.cells.free (2+f)
 obtain ⟨m,hm⟩:∃ m,([]:List Nat).length=m:=⟨_,rfl⟩
 have HM:Hid (([]:List Nat).length=m):=hm
 obtain ⟨c,hcr⟩:∃ c,d.cr f=c:=⟨_,rfl⟩
 have HCr:Hid (d.cr f=c):=hcr
 rw [hcr] at hc0 hc1 hy
 rw [hm] at cq hr3 hsl
 have HFoot:Hid (∀ k,turnFoot g F rv k → B ≤ k):=fun k hk=>(h.foot k hk).1
 have HBB:Hid (B ≤ w.heap.size):=hB
 have HCp:Hid (∀ W,Below B w W → W.cell? ⟨pb,off+k * 3+1,none⟩=some (.int .i64 y)):=hcp
 have hfi:(f:Int) < 8:=by omega
 have hki:(k:Int) < (L:Int):=by omega
 have hm0:m=0:=by rw [← hm];rfl
 subst hm0
 unfold maxLen at hmx
 have HT1:Hid (TurnsAt B g (.slice (some ⟨pb,off,none⟩) L pcap) qv (w.setCell ⟨g,2+f,none⟩ (.slice (some ⟨qb,qo+1,none⟩) 0 (cap - 1))).drew (put1 vq f (.slice (some ⟨qb,qo+1,none⟩) 0 (cap - 1))) (put1 F f (F f)) rv { d with qs:=put1 d.qs f [] } (n+1)):=(h.setQ hf (But.refl _ _) hsl (fun _ hk=>.inl hk)).later (Below.refl _ _).drew
 have HBt:Hid (But (turnFoot g F rv) w (w.setCell ⟨g,2+f,none⟩ (.slice (some ⟨qb,qo+1,none⟩) 0 (cap - 1))).drew):=((butG _ _ _ _).mono fun j hj=>.inl hj).drew
 have HEnd:Hid (({ d with qs:=put1 d.qs f [],cr:=put1 d.cr f 0,srv:=none }:Drr)={ d with qs:=put1 d.qs f [],cr:=put1 (put1 d.cr f (c - y)) f 0,srv:=none }):=by
  show _=_
  rw [put1_put1]
 clear h hs hv hm hcr hB hcp
 go_enter Tryz.func224,Tryz.ntmps224
 go_wp2_with fail
 go_region
 obtain ⟨V,hV⟩:∃ V,(w.setCell ⟨g,2+f,none⟩ (.slice (some ⟨qb,qo+1,none⟩) 0 (cap - 1))).drew=V:=⟨_,rfl⟩
 rw [hV] at HT1 HBt ⊢
 have HBel:Hid (Below B w V):=HBt.out.below HBB.out (fun k hk=>HFoot.out k hk)
 have v0:=HT1.out.cells.c0
 have v2:V.cell? ⟨g,10+f,none⟩=some (.int .i64 c):=by rw [← HCr.out];exact HT1.out.cells.cc f hf
 have v4:=HCp.out V HBel.out
 have v5:=HT1.out.cells.free (10+f)
 have hwr:IntKind.i64.wrap (c - y)=c - y:=IntWalk.i64_in _ (by omega)
 have HT2:Hid (TurnsAt B g (.slice (some ⟨pb,off,none⟩) L pcap) qv (V.setCell ⟨g,10+f,none⟩ (.int .i64 (c - y))).drew (put1 vq f (.slice (some ⟨qb,qo+1,none⟩) 0 (cap - 1))) (put1 F f (F f)) rv { d with qs:=put1 d.qs f [],cr:=put1 d.cr f (c - y) } (n+1)):=(HT1.out.setC hf (c - y)).later (Below.refl _ _).drew
 have HBt2:Hid (But (turnFoot g F rv) w (V.setCell ⟨g,10+f,none⟩ (.int .i64 (c - y))).drew):=(HBt.out.trans ((butG _ _ _ _).mono fun j hj=>.inl hj)).drew
 clear hV cs cq fq ck
 go_wp2_with fail
 go_region
 obtain ⟨U,hU⟩:∃ U,(V.setCell ⟨g,10+f,none⟩ (.int .i64 (c - y))).drew=U:=⟨_,rfl⟩
 rw [hU] at HT2 HBt2 ⊢
 have u1:U.cell? ⟨g,20,none⟩=some (.int .i64 (((n+1:Nat)):Int)):=HT2.out.cells.cn
 have u2:=HT2.out.cells.free 20
 have HT3:Hid (TurnsAt B g (.slice (some ⟨pb,off,none⟩) L pcap) qv (U.setCell ⟨g,20,none⟩ (.int .i64 (n:Int))) (put1 vq f (.slice (some ⟨qb,qo+1,none⟩) 0 (cap - 1))) (put1 F f (F f)) rv { d with qs:=put1 d.qs f [],cr:=put1 d.cr f (c - y) } n):=HT2.out.setN n rfl
 have u3:(U.setCell ⟨g,20,none⟩ (.int .i64 (n:Int))).cell? ⟨g,2+f,none⟩=some (.slice (some ⟨qb,qo+1,none⟩) 0 (cap - 1)):=by have:=HT3.out.cells.cq f hf;rwa [put1_same] at this
 have HT4:Hid (TurnsAt B g (.slice (some ⟨pb,off,none⟩) L pcap) qv ((U.setCell ⟨g,20,none⟩ (.int .i64 (n:Int))).setCell ⟨g,10+f,none⟩ (.int .i64 0)) (put1 vq f (.slice (some ⟨qb,qo+1,none⟩) 0 (cap - 1))) (put1 F f (F f)) rv { d with qs:=put1 d.qs f [],cr:=put1 (put1 d.cr f (c - y)) f 0 } n):=HT3.out.setC hf 0
 have u4:=HT3.out.cells.cc f hf
 have u5:=HT3.out.cells.free (10+f)
 have u6:=HT4.out.cells.cs
 have u7:=HT4.out.cells.free 19
 have hn1:(((n+1:Nat)):Int) - 1=(n:Int):=by omega
 rw [show (((n+1:Nat)):Int)=(n:Int)+1 by omega] at u1
 clear hU v0 v2 v4 v5
 go_wp2_with fail
 go_ret
 rw [HEnd.out]
 refine ⟨rfl,⟨_,_,_,HT4.out.setS none rfl,fun j hj=>foot_setQ hf (fun _ hk=>.inl hk) hj⟩,?_⟩
 exact ((HBt2.out.trans ((butG _ _ _ _).mono fun j hj=>.inl hj)).trans ((butG _ _ _ _).mono fun j hj=>.inl hj)).trans ((butG _ _ _ _).mono fun j hj=>.inl hj)
theorem turnsTake_one (B g k pb off pcap L:Nat) (qv:Value) (vq:Nat → Value) (F:Nat → Nat → Prop) (rv:Value) (d:Drr) (n:Nat) (w:World) (h:TurnsAt B g (.slice (some ⟨pb,off,none⟩) L pcap) qv w vq F rv d (n+1)) (y:Int) (hcp:∀ W,Below B w W → W.cell? ⟨pb,off+k * 3+1,none⟩=some (.int .i64 y)) (hy0:0 ≤ y) (hkl:k < L) (f:Nat) (hs:d.srv=some f) (hf:f < 8) (hc0:0 ≤ d.cr f) (hc1:d.cr f ≤ 1000000) (hy:y ≤ d.cr f) (hn:n ≤ 1000) (hr3:([]:List Nat).length ≤ 300) (hB:B ≤ w.heap.size) (qb qo cap:Nat) (hv:vq f=.slice (some ⟨qb,qo,none⟩) (([]:List Nat).length+1) cap) (hcap:([]:List Nat).length+1 ≤ cap) (hmx:cap ≤ maxLen) (ck:w.cell? ⟨qb,qo,none⟩=some (.int .i64 (k:Int))) (h1:cap=1) (hsl:Slides w B (.slice (some ⟨qb,qo,none⟩) 0 0) (F f) []) :
  Calls Tryz.prog 224 #[.pointer (some ⟨g,0,none⟩)] w fun e w'=>e=.returned (.int .i64 (k:Int)) ∧ ComeEnd B g (.slice (some ⟨pb,off,none⟩) L pcap) qv w w' F rv { d with qs:=put1 d.qs f [],cr:=put1 d.cr f 0,srv:=none } n:=by
 have HT:Hid (TurnsAt B g (.slice (some ⟨pb,off,none⟩) L pcap) qv w vq F rv d (n+1)):=h
 have cs:w.cell? ⟨g,19,none⟩=some (.int .i64 (f:Int)):=by have:=h.cells.cs;rw [hs] at this;exact this
 have cq:=h.cells.cq f hf
 rw [hv] at cq
 have fq:=h.cells.free (2+f)
 obtain ⟨m,hm⟩:∃ m,([]:List Nat).length=m:=⟨_,rfl⟩
 have HM:Hid (([]:List Nat).length=m):=hm
 obtain ⟨c,hcr⟩:∃ c,d.cr f=c:=⟨_,rfl⟩
 have HCr:Hid (d.cr f=c):=hcr
 rw [hcr] at hc0 hc1 hy
 rw [hm] at cq hcap hr3
 have HFoot:Hid (∀ k,turnFoot g F rv k → B ≤ k):=fun k hk=>(h.foot k hk).1
 have HBB:Hid (B ≤ w.heap.size):=hB
 have HCp:Hid (∀ W,Below B w W → W.cell? ⟨pb,off+k * 3+1,none⟩=some (.int .i64 y)):=hcp
 have hfi:(f:Int) < 8:=by omega
 have hki:(k:Int) < (L:Int):=by omega
 obtain rfl:m=0:=by omega
 subst h1
 unfold maxLen at hmx
 have HT1:Hid (TurnsAt B g (.slice (some ⟨pb,off,none⟩) L pcap) qv (w.setCell ⟨g,2+f,none⟩ (.slice (some ⟨qb,qo,none⟩) 0 0)).drew (put1 vq f (.slice (some ⟨qb,qo,none⟩) 0 0)) (put1 F f (F f)) rv { d with qs:=put1 d.qs f [] } (n+1)):=(h.setQ hf (But.refl _ _) hsl (fun _ hk=>.inl hk)).later (Below.refl _ _).drew
 have HBt:Hid (But (turnFoot g F rv) w (w.setCell ⟨g,2+f,none⟩ (.slice (some ⟨qb,qo,none⟩) 0 0)).drew):=((butG _ _ _ _).mono fun j hj=>.inl hj).drew
 have HEnd:Hid (({ d with qs:=put1 d.qs f [],cr:=put1 d.cr f 0,srv:=none }:Drr)={ d with qs:=put1 d.qs f [],cr:=put1 (put1 d.cr f (c - y)) f 0,srv:=none }):=by
  show _=_
  rw [put1_put1]
 clear h hs hv hm hcr hB hcp
 go_enter Tryz.func224,Tryz.ntmps224
 go_wp2_with fail
 go_region
 obtain ⟨V,hV⟩:∃ V,(w.setCell ⟨g,2+f,none⟩ (.slice (some ⟨qb,qo,none⟩) 0 0)).drew=V:=⟨_,rfl⟩
 rw [hV] at HT1 HBt ⊢
 have HBel:Hid (Below B w V):=HBt.out.below HBB.out (fun k hk=>HFoot.out k hk)
 have v0:=HT1.out.cells.c0
 have v2:V.cell? ⟨g,10+f,none⟩=some (.int .i64 c):=by rw [← HCr.out];exact HT1.out.cells.cc f hf
 have v4:=HCp.out V HBel.out
 have v5:=HT1.out.cells.free (10+f)
 have hwr:IntKind.i64.wrap (c - y)=c - y:=IntWalk.i64_in _ (by omega)
 have HT2:Hid (TurnsAt B g (.slice (some ⟨pb,off,none⟩) L pcap) qv (V.setCell ⟨g,10+f,none⟩ (.int .i64 (c - y))).drew (put1 vq f (.slice (some ⟨qb,qo,none⟩) 0 0)) (put1 F f (F f)) rv { d with qs:=put1 d.qs f [],cr:=put1 d.cr f (c - y) } (n+1)):=(HT1.out.setC hf (c - y)).later (Below.refl _ _).drew
 have HBt2:Hid (But (turnFoot g F rv) w (V.setCell ⟨g,10+f,none⟩ (.int .i64 (c - y))).drew):=(HBt.out.trans ((butG _ _ _ _).mono fun j hj=>.inl hj)).drew
 clear hV cs cq fq ck
 go_wp2_with fail
 go_region
 obtain ⟨U,hU⟩:∃ U,(V.setCell ⟨g,10+f,none⟩ (.int .i64 (c - y))).drew=U:=⟨_,rfl⟩
 rw [hU] at HT2 HBt2 ⊢
 have u1:U.cell? ⟨g,20,none⟩=some (.int .i64 (((n+1:Nat)):Int)):=HT2.out.cells.cn
 have u2:=HT2.out.cells.free 20
 have HT3:Hid (TurnsAt B g (.slice (some ⟨pb,off,none⟩) L pcap) qv (U.setCell ⟨g,20,none⟩ (.int .i64 (n:Int))) (put1 vq f (.slice (some ⟨qb,qo,none⟩) 0 0)) (put1 F f (F f)) rv { d with qs:=put1 d.qs f [],cr:=put1 d.cr f (c - y) } n):=HT2.out.setN n rfl
 have u3:(U.setCell ⟨g,20,none⟩ (.int .i64 (n:Int))).cell? ⟨g,2+f,none⟩=some (.slice (some ⟨qb,qo,none⟩) 0 0):=by have:=HT3.out.cells.cq f hf;rwa [put1_same] at this
 have HT4:Hid (TurnsAt B g (.slice (some ⟨pb,off,none⟩) L pcap) qv ((U.setCell ⟨g,20,none⟩ (.int .i64 (n:Int))).setCell ⟨g,10+f,none⟩ (.int .i64 0)) (put1 vq f (.slice (some ⟨qb,qo,none⟩) 0 0)) (put1 F f (F f)) rv { d with qs:=put1 d.qs f [],cr:=put1 (put1 d.cr f (c - y)) f 0 } n):=HT3.out.setC hf 0
 have u4:=HT3.out.cells.cc f hf
 have u5:=HT3.out.cells.free (10+f)
 have u6:=HT4.out.cells.cs
 have u7:=HT4.out.cells.free 19
 have hn1:(((n+1:Nat)):Int) - 1=(n:Int):=by omega
 rw [show (((n+1:Nat)):Int)=(n:Int)+1 by omega] at u1
 clear hU v0 v2 v4 v5
 go_wp2_with fail
 go_ret
 rw [HEnd.out]
 refine ⟨rfl,⟨_,_,_,HT4.out.setS none rfl,fun j hj=>foot_setQ hf (fun _ hk=>.inl hk) hj⟩,?_⟩
 exact ((HBt2.out.trans ((butG _ _ _ _).mono fun j hj=>.inl hj)).trans ((butG _ _ _ _).mono fun j hj=>.inl hj)).trans ((butG _ _ _ _).mono fun j hj=>.inl hj)
end Go.Proofs.YtipdclphpkgceaaGreatDoor
