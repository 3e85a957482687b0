/- Own facts, put together: no statement of its own. -/
import Derived.Test.YtipdclphpkgceaaGreatDoorA36
set_option maxHeartbeats 4000000
set_option maxRecDepth 100000

namespace Go.Proofs.YtipdclphpkgceaaGreatDoor
open Go.RowKit
theorem Jv (qs:List Pk) (l:List Sn):(Ef qs l).length=l.length:=by simp [Ef]
theorem XL (qs:List Pk) (l:List Sn) (h:1 ≤ l.length):Go.Lib.maxOf (Ef qs l)=FT qs l:=by
 unfold FT
 cases e:Ef qs l with
 | nil=>have:=Jv qs l;rw [e] at this;simp at this;omega
 | cons z zs=>show List.foldl max (max z z) zs=List.foldl max z zs;rw [Int.max_self]
section
variable (w0:World) (ad:Nat → Addr) (N g cb:Nat) (hS:Site w0 ad N g cb) (s:Scr) (w:World) (hw:Below w0.heap.size w0 w) (hp:Aw w N g cb s) (ho:Bo s)
theorem QQ (w0:World) (ad:Nat → Addr) (N g cb:Nat) (hS:Site w0 ad N g cb) (s:Scr) (w:World) (hw:Below w0.heap.size w0 w) (hp:Aw w N g cb s) (ho:Bo s) (c n:Int) (hc:Qj s c n) :
  Calls Tryz.prog 47 #[.pointer (some ⟨g,0,none⟩)] w fun e w'=>Cx c n w e w':=by
 obtain ⟨p,hr,hq⟩:=hc
 obtain ⟨qs,l,hqs,hn⟩:∃ qs l,(c=0 → CV (Af s.cs) (kindOf s.kb) s.per s.ns s.ps qs l) ∧ (c=0 → n=FT qs l):=by
  by_cases h0:c=0
  ·
   obtain ⟨qs,l,h,h'⟩:=hq h0
   exact ⟨qs,l,fun _=>h,fun _=>h'⟩
  · exact ⟨[],[],fun h=>absurd h h0,fun h=>absurd h h0⟩
 obtain ⟨na,nc,pv,hpi⟩:=hp
 have HR:Hid (∀ W,Below w.heap.size w W → Calls Tryz.prog 81 #[.agg #[.slice (some ⟨cb,0,none⟩) 8 8,Ah s.kb,.int .i64 s.per,.slice na s.ns.length nc],pv] W fun e w'=>Q0 c qs l W e w'):=fun W hW=>Le w0 ad N g cb hS s W (hw.trans (hW.mono hw.size)) ho na nc pv (hpi.below hW) c p qs l hr hqs
 have HD:Hid (c=0 → ∀ W qa qcap la lcap,Below w.heap.size w W → CE W qa qcap qs → GL W la lcap l → l.length ≤ 300 ∧ Calls Tryz.prog 84 #[.slice qa qs.length qcap,.slice la l.length lcap] W fun e w'=>∃ D,e=.returned (.tuple #[.slice (some ⟨D,0,none⟩) l.length l.length,.nilIface]) ∧ (∀ (i:Nat) z,(Ef qs l)[i]? = some z → w'.cell? ⟨D,i,none⟩=some (.int .i64 z)) ∧ Below W.heap.size W w'):=fun h0 W qa qcap la lcap hW h1 h2=>by
  obtain ⟨k1,k2,k3⟩:=(hqs h0).ok ho.pks ho.gate.curves.ok
  obtain ⟨m1,-,m3⟩:=k3.may ho.gate.nums k1 ho.gate.per.1
  refine ⟨by rw [m3,k2];exact ho.pks.few,(Vz qa qcap qs s.per la lcap l W ad (hS.env.below (hw.trans (hW.mono hw.size))).errs h1.pks h2.sent k1 ho.gate.per.1 ho.gate.per.2 m1 m3).mono ?_⟩
  rintro e w' ⟨D,rfl,hD,hb⟩
  refine ⟨D,rfl,fun i z hz=>?_,hb⟩
  unfold Ef at hz
  rw [List.getElem?_map] at hz
  obtain ⟨x,hx,rfl⟩:=Option.map_eq_some_iff.1 hz
  exact hD i x hx
 have y0:=hpi.c0
 have y1:=hpi.c1
 have y2:=hpi.c2
 have y3:=hpi.c3
 have y4:=hpi.c4
 have HSb:Hid (∀ W,Below w.heap.size w W → W.cell? ⟨g,0,none⟩=some (.slice (some ⟨cb,0,none⟩) 8 8) ∧ W.cell? ⟨g,1,none⟩=some (Ah s.kb) ∧ W.cell? ⟨g,2,none⟩=some (.int .i64 s.per) ∧ W.cell? ⟨g,3,none⟩=some (.slice na s.ns.length nc) ∧ W.cell? ⟨g,4,none⟩=some pv):=fun W hW=>⟨cell_later hW y0,cell_later hW y1,cell_later hW y2,cell_later hW y3,cell_later hW y4⟩
 have HN:Hid (c=0 → n=FT qs l):=hn
 obtain ⟨kb,hkb⟩:∃ kb,s.kb=kb:=⟨_,rfl⟩
 obtain ⟨per,hper⟩:∃ per,s.per=per:=⟨_,rfl⟩
 obtain ⟨r,hr'⟩:∃ r,s.ns.length=r:=⟨_,rfl⟩
 rw [hkb] at HSb HR
 rw [hper] at HSb HR
 rw [hr'] at HSb HR
 have HB:Hid (Below w.heap.size w w.drew):=below_drewN (Below.refl _ _) 1
 have hS:=HSb.out _ HB.out
 clear hr hq hqs hn hpi y0 y1 y2 y3 y4 hkb hper hr' hw ho
 go_enter Tryz.func47,Tryz.ntmps47
 go_wp2_with fail
 go_region_held3 (fun w'=>w'.cell? ⟨g,0,none⟩=some (.slice (some ⟨cb,0,none⟩) 8 8) ∧ w'.cell? ⟨g,1,none⟩=some (Ah kb) ∧ w'.cell? ⟨g,2,none⟩=some (.int .i64 per) ∧ w'.cell? ⟨g,3,none⟩=some (.slice na r nc) ∧ w'.cell? ⟨g,4,none⟩=some pv)
  (first | exact hS)
  (first
  | (go_at_call 81;refine (HR.out _ HB.out).mono ?_;rintro e w6 ⟨qa,qn,qcap,la,m,lcap,E,q,rfl,q1,q2,q3⟩;have HE:Hid (AR w6 E c q ∧ (c=0 → qn=qs.length ∧ m=l.length ∧ CE w6 qa qcap qs ∧ GL w6 la lcap l) ∧ Below w.heap.size w w6):=⟨q1,q2,HB.out.trans (q3.mono HB.out.size)⟩;have hS:=HSb.out w6 (HB.out.trans (q3.mono HB.out.size));clear q1 q2 q3))
 all_goals
  clear hS HSb HR HB
  by_cases h0:c=0
  ·
   obtain rfl:=HE.out.1.none_ h0
   obtain ⟨e1,e2,e3,e4⟩:=HE.out.2.1 h0
   rcases Nat.eq_zero_or_pos m with hm | hm
   ·
    have HEn:Hid (Cx c n w (.returned (.tuple #[.int .i64 0,.nilIface])) w6):=by
     refine ⟨0,.nilIface,q,rfl,HE.out.1,fun h=>?_,HE.out.2.2⟩
     rw [HN.out h,List.length_eq_zero_iff.1 (e2.symm.trans hm)]
     rfl
    subst hm
    clear e1 e2 e3 e4 h0
    go_wp2_with fail
    go_ret2
    exact HEn.out
   ·
    obtain ⟨hlen,hcall⟩:=HD.out h0 w6 qa qcap la lcap HE.out.2.2 e3 e4
    rw [← e1,← e2] at hcall
    have HCl:Hid (Calls Tryz.prog 84 #[.slice qa qn qcap,.slice la m lcap] w6 fun e w'=>∃ D,e=.returned (.tuple #[.slice (some ⟨D,0,none⟩) m m,.nilIface]) ∧ (∀ (i:Nat) z,(Ef qs l)[i]? = some z → w'.cell? ⟨D,i,none⟩=some (.int .i64 z)) ∧ Below w6.heap.size w6 w'):=hcall
    have HM:Hid (∀ W D,(∀ (i:Nat) z,(Ef qs l)[i]? = some z → W.cell? ⟨D,i,none⟩=some (.int .i64 z)) → Below w.heap.size w W → Calls Tryz.prog 85 #[.slice (some ⟨D,0,none⟩) m m] W fun e w'=>e=.returned (.int .i64 n) ∧ w'=W):=fun W D hc hW=>by
     have hl:(Ef qs l).length=m:=by rw [Jv,e2]
     have:=ak D (Ef qs l) W (by omega) (by omega) hc
     rw [hl,XL qs l (by omega),← HN.out h0] at this
     exact this
    have HEn:Hid (∀ W,Below w.heap.size w W → Cx c n w (.returned (.tuple #[.int .i64 n,.nilIface])) W):=fun W hW=>⟨n,.nilIface,-1,rfl,by rw [h0];exact CG _,fun _=>rfl,hW⟩
    have dm:((m:Int) == 0)=false:=by simp;omega
    clear e1 e2 e3 e4 h0 hlen hcall
    go_wp2_with fail
    refine HCl.out.mono ?_
    rintro e w7 ⟨D,rfl,hD,hb7⟩
    have hb:=HE.out.2.2.trans (hb7.mono HE.out.2.2.size)
    have HMx:Hid (Calls Tryz.prog 85 #[.slice (some ⟨D,0,none⟩) m m] w7 fun e w'=>e=.returned (.int .i64 n) ∧ w'=w7):=HM.out w7 D hD hb
    have HEe:=(show Hid (Cx c n w (.returned (.tuple #[.int .i64 n,.nilIface])) w7) from HEn.out w7 hb)
    clear hD hb7 hb
    go_wp2_with fail
    refine HMx.out.mono ?_
    rintro e w8 ⟨rfl,rfl⟩
    go_wp2_with fail
    go_ret2
    exact HEe.out
  ·
   obtain ⟨ty,v,rfl⟩:=HE.out.1.some_ h0
   have HEn:Hid (Cx c n w (.returned (.tuple #[.int .i64 0,.iface ty v])) w6):=⟨0,_,q,rfl,HE.out.1,fun h=>absurd h h0,HE.out.2.2⟩
   clear h0
   go_wp2_with fail
   go_ret2
   exact HEn.out
end
def AQ (N g cb:Nat) (s s1:Scr) (c:Int) (o:List UInt8) (w:World) (e:Ending) (w':World):Prop:=
 ∃ x E p,e=.returned (.tuple #[Ah x,E]) ∧ AR w' E c p ∧ (c=0 → x=o) ∧ But (K3 N g cb) w w' ∧ ((c=0 ∧ Aw w' N g cb s1) ∨ (c ≠ 0 ∧ Aw w' N g cb s))
theorem CL {N g cb:Nat} {s:Scr} {c:Int} {o:List UInt8} {w w':World} {x:List UInt8} {E:Value} {p:Int} (hp:Aw w N g cb s) (hE:AR w' E c p) (hx:c=0 → x=o) (hb:Below w.heap.size w w'):AQ N g cb s s c o w (.returned (.tuple #[Ah x,E])) w':=by
 refine ⟨x,E,p,rfl,hE,hx,.ofBelow hb,?_⟩
 by_cases h:c=0
 · exact .inl ⟨h,hp.below hb⟩
 · exact .inr ⟨h,hp.below hb⟩
structure aC (ks:ByteArray) (lit:List UInt8) (b:Bool):Prop where
 t:(ks.toList == lit)=b
 u:(ks.toList == ByteArray.toList ⟨lit.toArray⟩)=b
theorem Ak (name lit:List UInt8) (ks:ByteArray) (hk:⟨name.toArray⟩=ks) (b:Bool) (h:decide (name=lit)=b):aC ks lit b:=by
 have key:((⟨name.toArray⟩:ByteArray).toList == lit)=b:=by
  rw [ByteArray.toList_mk,← h]
  by_cases e:name=lit
  · rw [decide_eq_true e,e];simp
  · rw [decide_eq_false e];simpa using e
 subst hk
 exact ⟨key,by rw [ByteArray.toList_mk (l:=lit)];exact key⟩
section
variable (w0:World) (ad:Nat → Addr) (N g cb:Nat) (hS:Site w0 ad N g cb) (s:Scr) (w:World) (hw:Below w0.heap.size w0 w) (hp:Aw w N g cb s) (ho:Bo s)
theorem Og (w0:World) (ad:Nat → Addr) (N g cb:Nat) (hS:Site w0 ad N g cb) (s:Scr) (w:World) (hw:Below w0.heap.size w0 w) (hp:Aw w N g cb s) (ho:Bo s) (name:List UInt8) (wb:Nat) (ws:List (List UInt8)) (hl:Bp w (some ⟨wb,0,none⟩) ws) (hs:DU ws) (h1:1 ≤ ws.length) (c:Int) (o:List UInt8) (s1:Scr) (hname:name=EJ) (hc:Mh s ws c s1) (hco:c=0 → o=AU) :
  Calls Tryz.prog 40 #[.pointer (some ⟨g,0,none⟩),Ah name,.slice (some ⟨wb,0,none⟩) ws.length ws.length] w fun e w'=>AQ N g cb s s1 c o w e w':=by
 have HC:Hid (Calls Tryz.prog 73 #[.pointer (some ⟨g,0,none⟩),.slice (some ⟨wb,0,none⟩) ws.length ws.length] w fun e w'=>Bh N g cb s s1 c w e w'):=Tq w0 ad N g cb hS s w hw hp ho wb ws hl hs h1 c s1 hc
 have HO:Hid (c=0 → o=AU):=hco
 obtain ⟨ks,hks⟩:∃ ks:ByteArray,⟨name.toArray⟩=ks:=⟨_,rfl⟩
 have hname':name=[99,117,114,118,101]:=hname
 have n0:=Ak name [99,117,114,118,101] ks hks true (by rw [hname'];decide)
 obtain ⟨t0,u0⟩:=n0
 show Calls Tryz.prog 40 #[.pointer (some ⟨g,0,none⟩),.string ⟨name.toArray⟩,.slice (some ⟨wb,0,none⟩) ws.length ws.length] w fun e w'=>AQ N g cb s s1 c o w e w'
 rw [hks]
 obtain ⟨m,hm⟩:∃ m,ws.length=m:=⟨_,rfl⟩
 rw [hm] at HC ⊢
 clear hS hw hp ho hl hs hc hco hname hname' hks hm h1
 go_enter Tryz.func40,Tryz.ntmps40
 go_wp2_with fail
 refine HC.out.mono ?_
 rintro e w1 ⟨E,p,rfl,hE,hb,hend⟩
 by_cases h0:c=0
 ·
  obtain rfl:=hE.none_ h0
  have HE:Hid (AQ N g cb s s1 c o w (.returned (.tuple #[Ah AU,.nilIface])) w1):=⟨AU,_,p,rfl,hE,fun h=>(HO.out h).symm,hb,hend⟩
  have HSd:Hid (Calls Tryz.prog 42 #[.nilIface] w1 fun e w'=>e=.returned (.tuple #[Ah AU,.nilIface]) ∧ w'=w1):=FB w1
  clear hE hb hend h0
  go_wp2_with fail
  refine HSd.out.mono ?_
  rintro e w2 ⟨rfl,rfl⟩
  go_wp2_with fail
  go_ret2
  exact HE.out
 ·
  obtain ⟨ty,v,rfl⟩:=hE.some_ h0
  have HE:Hid (AQ N g cb s s1 c o w (.returned (.tuple #[Ah [],.iface ty v])) w1):=⟨[],_,p,rfl,hE,fun h=>absurd h h0,hb,hend⟩
  have HSd:Hid (Calls Tryz.prog 42 #[.iface ty v] w1 fun e w'=>e=.returned (.tuple #[Ah [],.iface ty v]) ∧ w'=w1):=Gm ty v w1
  clear hE hb hend h0
  go_wp2_with fail
  refine HSd.out.mono ?_
  rintro e w2 ⟨rfl,rfl⟩
  go_wp2_with fail
  go_ret2
  exact HE.out
theorem O3 (w0:World) (ad:Nat → Addr) (N g cb:Nat) (hS:Site w0 ad N g cb) (s:Scr) (w:World) (hw:Below w0.heap.size w0 w) (hp:Aw w N g cb s) (ho:Bo s) (name:List UInt8) (wb:Nat) (ws:List (List UInt8)) (hl:Bp w (some ⟨wb,0,none⟩) ws) (hs:DU ws) (c:Int) (o:List UInt8) (s1:Scr) (hname:name=Jz) (hc:QU s ws c s1) (hco:c=0 → o=AU) :
  Calls Tryz.prog 40 #[.pointer (some ⟨g,0,none⟩),Ah name,.slice (some ⟨wb,0,none⟩) ws.length ws.length] w fun e w'=>AQ N g cb s s1 c o w e w':=by
 have HC:Hid (Calls Tryz.prog 74 #[.pointer (some ⟨g,0,none⟩),.slice (some ⟨wb,0,none⟩) ws.length ws.length] w fun e w'=>Bh N g cb s s1 c w e w'):=Vj w0 ad N g cb hS s w hw hp ho wb ws hl hs c s1 hc
 have HO:Hid (c=0 → o=AU):=hco
 obtain ⟨ks,hks⟩:∃ ks:ByteArray,⟨name.toArray⟩=ks:=⟨_,rfl⟩
 have hname':name=[108,105,110,107]:=hname
 have n0:=Ak name [99,117,114,118,101] ks hks false (by rw [hname'];decide)
 have n1:=Ak name [108,105,110,107] ks hks true (by rw [hname'];decide)
 obtain ⟨t0,u0⟩:=n0
 obtain ⟨t1,u1⟩:=n1
 show Calls Tryz.prog 40 #[.pointer (some ⟨g,0,none⟩),.string ⟨name.toArray⟩,.slice (some ⟨wb,0,none⟩) ws.length ws.length] w fun e w'=>AQ N g cb s s1 c o w e w'
 rw [hks]
 obtain ⟨m,hm⟩:∃ m,ws.length=m:=⟨_,rfl⟩
 rw [hm] at HC ⊢
 clear hS hw hp ho hl hs hc hco hname hname' hks hm
 go_enter Tryz.func40,Tryz.ntmps40
 go_wp2_with fail
 refine HC.out.mono ?_
 rintro e w1 ⟨E,p,rfl,hE,hb,hend⟩
 by_cases h0:c=0
 ·
  obtain rfl:=hE.none_ h0
  have HE:Hid (AQ N g cb s s1 c o w (.returned (.tuple #[Ah AU,.nilIface])) w1):=⟨AU,_,p,rfl,hE,fun h=>(HO.out h).symm,hb,hend⟩
  have HSd:Hid (Calls Tryz.prog 42 #[.nilIface] w1 fun e w'=>e=.returned (.tuple #[Ah AU,.nilIface]) ∧ w'=w1):=FB w1
  clear hE hb hend h0
  go_wp2_with fail
  refine HSd.out.mono ?_
  rintro e w2 ⟨rfl,rfl⟩
  go_wp2_with fail
  go_ret2
  exact HE.out
 ·
  obtain ⟨ty,v,rfl⟩:=hE.some_ h0
  have HE:Hid (AQ N g cb s s1 c o w (.returned (.tuple #[Ah [],.iface ty v])) w1):=⟨[],_,p,rfl,hE,fun h=>absurd h h0,hb,hend⟩
  have HSd:Hid (Calls Tryz.prog 42 #[.iface ty v] w1 fun e w'=>e=.returned (.tuple #[Ah [],.iface ty v]) ∧ w'=w1):=Gm ty v w1
  clear hE hb hend h0
  go_wp2_with fail
  refine HSd.out.mono ?_
  rintro e w2 ⟨rfl,rfl⟩
  go_wp2_with fail
  go_ret2
  exact HE.out
theorem KV (w0:World) (ad:Nat → Addr) (N g cb:Nat) (hS:Site w0 ad N g cb) (s:Scr) (w:World) (hw:Below w0.heap.size w0 w) (hp:Aw w N g cb s) (ho:Bo s) (name:List UInt8) (wb:Nat) (ws:List (List UInt8)) (hl:Bp w (some ⟨wb,0,none⟩) ws) (hs:DU ws) (c:Int) (o:List UInt8) (s1:Scr) (hname:name=FZ) (hc:Jg s ws c s1) (hco:c=0 → o=AU) :
  Calls Tryz.prog 40 #[.pointer (some ⟨g,0,none⟩),Ah name,.slice (some ⟨wb,0,none⟩) ws.length ws.length] w fun e w'=>AQ N g cb s s1 c o w e w':=by
 have HC:Hid (Calls Tryz.prog 75 #[.pointer (some ⟨g,0,none⟩),.slice (some ⟨wb,0,none⟩) ws.length ws.length] w fun e w'=>Bh N g cb s s1 c w e w'):=OP w0 ad N g cb hS s w hw hp ho wb ws hl hs c s1 hc
 have HO:Hid (c=0 → o=AU):=hco
 obtain ⟨ks,hks⟩:∃ ks:ByteArray,⟨name.toArray⟩=ks:=⟨_,rfl⟩
 have hname':name=[110,117,109,98,101,114,115]:=hname
 have n0:=Ak name [99,117,114,118,101] ks hks false (by rw [hname'];decide)
 have n1:=Ak name [108,105,110,107] ks hks false (by rw [hname'];decide)
 have n2:=Ak name [110,117,109,98,101,114,115] ks hks true (by rw [hname'];decide)
 obtain ⟨t0,u0⟩:=n0
 obtain ⟨t1,u1⟩:=n1
 obtain ⟨t2,u2⟩:=n2
 show Calls Tryz.prog 40 #[.pointer (some ⟨g,0,none⟩),.string ⟨name.toArray⟩,.slice (some ⟨wb,0,none⟩) ws.length ws.length] w fun e w'=>AQ N g cb s s1 c o w e w'
 rw [hks]
 obtain ⟨m,hm⟩:∃ m,ws.length=m:=⟨_,rfl⟩
 rw [hm] at HC ⊢
 clear hS hw hp ho hl hs hc hco hname hname' hks hm
 go_enter Tryz.func40,Tryz.ntmps40
 go_wp2_with fail
 refine HC.out.mono ?_
 rintro e w1 ⟨E,p,rfl,hE,hb,hend⟩
 by_cases h0:c=0
 ·
  obtain rfl:=hE.none_ h0
  have HE:Hid (AQ N g cb s s1 c o w (.returned (.tuple #[Ah AU,.nilIface])) w1):=⟨AU,_,p,rfl,hE,fun h=>(HO.out h).symm,hb,hend⟩
  have HSd:Hid (Calls Tryz.prog 42 #[.nilIface] w1 fun e w'=>e=.returned (.tuple #[Ah AU,.nilIface]) ∧ w'=w1):=FB w1
  clear hE hb hend h0
  go_wp2_with fail
  refine HSd.out.mono ?_
  rintro e w2 ⟨rfl,rfl⟩
  go_wp2_with fail
  go_ret2
  exact HE.out
 ·
  obtain ⟨ty,v,rfl⟩:=hE.some_ h0
  have HE:Hid (AQ N g cb s s1 c o w (.returned (.tuple #[Ah [],.iface ty v])) w1):=⟨[],_,p,rfl,hE,fun h=>absurd h h0,hb,hend⟩
  have HSd:Hid (Calls Tryz.prog 42 #[.iface ty v] w1 fun e w'=>e=.returned (.tuple #[Ah [],.iface ty v]) ∧ w'=w1):=Gm ty v w1
  clear hE hb hend h0
  go_wp2_with fail
  refine HSd.out.mono ?_
  rintro e w2 ⟨rfl,rfl⟩
  go_wp2_with fail
  go_ret2
  exact HE.out
theorem Mc (w0:World) (ad:Nat → Addr) (N g cb:Nat) (hS:Site w0 ad N g cb) (s:Scr) (w:World) (hw:Below w0.heap.size w0 w) (hp:Aw w N g cb s) (ho:Bo s) (name:List UInt8) (wb:Nat) (ws:List (List UInt8)) (hl:Bp w (some ⟨wb,0,none⟩) ws) (hs:DU ws) (c:Int) (o:List UInt8) (s1:Scr) (hname:name=CQ) (hc:Kv s ws c s1) (hco:c=0 → o=AU) :
  Calls Tryz.prog 40 #[.pointer (some ⟨g,0,none⟩),Ah name,.slice (some ⟨wb,0,none⟩) ws.length ws.length] w fun e w'=>AQ N g cb s s1 c o w e w':=by
 have HC:Hid (Calls Tryz.prog 76 #[.pointer (some ⟨g,0,none⟩),.slice (some ⟨wb,0,none⟩) ws.length ws.length] w fun e w'=>Bh N g cb s s1 c w e w'):=Qx w0 ad N g cb hS s w hw hp ho wb ws hl hs c s1 hc
 have HO:Hid (c=0 → o=AU):=hco
 obtain ⟨ks,hks⟩:∃ ks:ByteArray,⟨name.toArray⟩=ks:=⟨_,rfl⟩
 have hname':name=[112,97,99,107,101,116]:=hname
 have n0:=Ak name [99,117,114,118,101] ks hks false (by rw [hname'];decide)
 have n1:=Ak name [108,105,110,107] ks hks false (by rw [hname'];decide)
 have n2:=Ak name [110,117,109,98,101,114,115] ks hks false (by rw [hname'];decide)
 have n3:=Ak name [112,97,99,107,101,116] ks hks true (by rw [hname'];decide)
 obtain ⟨t0,u0⟩:=n0
 obtain ⟨t1,u1⟩:=n1
 obtain ⟨t2,u2⟩:=n2
 obtain ⟨t3,u3⟩:=n3
 show Calls Tryz.prog 40 #[.pointer (some ⟨g,0,none⟩),.string ⟨name.toArray⟩,.slice (some ⟨wb,0,none⟩) ws.length ws.length] w fun e w'=>AQ N g cb s s1 c o w e w'
 rw [hks]
 obtain ⟨m,hm⟩:∃ m,ws.length=m:=⟨_,rfl⟩
 rw [hm] at HC ⊢
 clear hS hw hp ho hl hs hc hco hname hname' hks hm
 go_enter Tryz.func40,Tryz.ntmps40
 go_wp2_with fail
 refine HC.out.mono ?_
 rintro e w1 ⟨E,p,rfl,hE,hb,hend⟩
 by_cases h0:c=0
 ·
  obtain rfl:=hE.none_ h0
  have HE:Hid (AQ N g cb s s1 c o w (.returned (.tuple #[Ah AU,.nilIface])) w1):=⟨AU,_,p,rfl,hE,fun h=>(HO.out h).symm,hb,hend⟩
  have HSd:Hid (Calls Tryz.prog 42 #[.nilIface] w1 fun e w'=>e=.returned (.tuple #[Ah AU,.nilIface]) ∧ w'=w1):=FB w1
  clear hE hb hend h0
  go_wp2_with fail
  refine HSd.out.mono ?_
  rintro e w2 ⟨rfl,rfl⟩
  go_wp2_with fail
  go_ret2
  exact HE.out
 ·
  obtain ⟨ty,v,rfl⟩:=hE.some_ h0
  have HE:Hid (AQ N g cb s s1 c o w (.returned (.tuple #[Ah [],.iface ty v])) w1):=⟨[],_,p,rfl,hE,fun h=>absurd h h0,hb,hend⟩
  have HSd:Hid (Calls Tryz.prog 42 #[.iface ty v] w1 fun e w'=>e=.returned (.tuple #[Ah [],.iface ty v]) ∧ w'=w1):=Gm ty v w1
  clear hE hb hend h0
  go_wp2_with fail
  refine HSd.out.mono ?_
  rintro e w2 ⟨rfl,rfl⟩
  go_wp2_with fail
  go_ret2
  exact HE.out
theorem Rt (w0:World) (ad:Nat → Addr) (N g cb:Nat) (hS:Site w0 ad N g cb) (s:Scr) (w:World) (hw:Below w0.heap.size w0 w) (hp:Aw w N g cb s) (ho:Bo s) (name:List UInt8) (wb:Nat) (ws:List (List UInt8)) (hl:Bp w (some ⟨wb,0,none⟩) ws) (hs:DU ws) (c n:Int) (o:List UInt8) (hname:name=atW) (hc:Zu s ws c n) (hn:c=0 → -9223372036854775808 ≤ n ∧ n ≤ 9223372036854775807) (hco:c=0 → o=Go.Lib.itoa n) :
  Calls Tryz.prog 40 #[.pointer (some ⟨g,0,none⟩),Ah name,.slice (some ⟨wb,0,none⟩) ws.length ws.length] w fun e w'=>AQ N g cb s s c o w e w':=by
 have HC:Hid (Calls Tryz.prog 77 #[.pointer (some ⟨g,0,none⟩),.slice (some ⟨wb,0,none⟩) ws.length ws.length] w fun e w'=>Cx c n w e w'):=Wv w0 ad N g cb hS s w hw hp ho wb ws hl hs c n hc
 have HO:Hid (c=0 → o=Go.Lib.itoa n):=hco
 have HRg:Hid (c=0 → -9223372036854775808 ≤ n ∧ n ≤ 9223372036854775807):=hn
 have HP:Hid (Aw w N g cb s):=hp
 have HEn:Hid (Env w ad):=hS.env.below hw
 obtain ⟨ks,hks⟩:∃ ks:ByteArray,⟨name.toArray⟩=ks:=⟨_,rfl⟩
 have hname':name=[97,116]:=hname
 have n0:=Ak name [99,117,114,118,101] ks hks false (by rw [hname'];decide)
 have n1:=Ak name [108,105,110,107] ks hks false (by rw [hname'];decide)
 have n2:=Ak name [110,117,109,98,101,114,115] ks hks false (by rw [hname'];decide)
 have n3:=Ak name [112,97,99,107,101,116] ks hks false (by rw [hname'];decide)
 have n4:=Ak name [97,116] ks hks true (by rw [hname'];decide)
 obtain ⟨t0,u0⟩:=n0
 obtain ⟨t1,u1⟩:=n1
 obtain ⟨t2,u2⟩:=n2
 obtain ⟨t3,u3⟩:=n3
 obtain ⟨t4,u4⟩:=n4
 show Calls Tryz.prog 40 #[.pointer (some ⟨g,0,none⟩),.string ⟨name.toArray⟩,.slice (some ⟨wb,0,none⟩) ws.length ws.length] w fun e w'=>AQ N g cb s s c o w e w'
 rw [hks]
 obtain ⟨m,hm⟩:∃ m,ws.length=m:=⟨_,rfl⟩
 rw [hm] at HC ⊢
 clear hS hw hp ho hl hs hc hco hn hname hname' hks hm
 go_enter Tryz.func40,Tryz.ntmps40
 go_wp2_with fail
 refine HC.out.mono ?_
 rintro e w1 ⟨z,E,p,rfl,hE,hz,hb⟩
 by_cases h0:c=0
 ·
  obtain rfl:=hE.none_ h0
  have HSd:Hid (Calls Tryz.prog 45 #[.int .i64 z,.nilIface] w1 fun e w'=>e=.returned (.tuple #[Ah (Go.Lib.itoa z),.nilIface]) ∧ Below w1.heap.size w1 w'):=GH z w1 (HEn.out.below hb).itoa (by rw [hz h0];exact (HRg.out h0).1) (by rw [hz h0];exact (HRg.out h0).2)
  have HE:Hid (∀ W,Below w1.heap.size w1 W → AQ N g cb s s c o w (.returned (.tuple #[Ah (Go.Lib.itoa z),.nilIface])) W):=fun W hW=>CL HP.out (p:=p) (hE.below hW) (fun h=>by rw [HO.out h,hz h]) (hb.trans (hW.mono hb.size))
  clear hE hb hz h0
  go_wp2_with fail
  refine HSd.out.mono ?_
  rintro e w2 ⟨rfl,hb2⟩
  have HEe:=(show Hid (AQ N g cb s s c o w (.returned (.tuple #[Ah (Go.Lib.itoa z),.nilIface])) w2) from HE.out w2 hb2)
  clear hb2 HE
  go_wp2_with fail
  go_ret2
  exact HEe.out
 ·
  obtain ⟨ty,v,rfl⟩:=hE.some_ h0
  have HSd:Hid (Calls Tryz.prog 45 #[.int .i64 z,.iface ty v] w1 fun e w'=>e=.returned (.tuple #[Ah [],.iface ty v]) ∧ w'=w1):=GI z ty v w1
  have HE:Hid (AQ N g cb s s c o w (.returned (.tuple #[Ah [],.iface ty v])) w1):=CL HP.out hE (fun h=>absurd h h0) hb
  clear hE hb hz h0
  go_wp2_with fail
  refine HSd.out.mono ?_
  rintro e w2 ⟨rfl,rfl⟩
  go_wp2_with fail
  go_ret2
  exact HE.out
theorem Oo (w0:World) (ad:Nat → Addr) (N g cb:Nat) (hS:Site w0 ad N g cb) (s:Scr) (w:World) (hw:Below w0.heap.size w0 w) (hp:Aw w N g cb s) (name:List UInt8) (wb m:Nat) (c:Int) (o:List UInt8) (s1:Scr) (h:name ≠ EJ ∧ name ≠ Jz ∧ name ≠ FZ ∧ name ≠ CQ ∧ name ≠ atW) (hc:c=1) :
  Calls Tryz.prog 40 #[.pointer (some ⟨g,0,none⟩),Ah name,.slice (some ⟨wb,0,none⟩) m m] w fun e w'=>AQ N g cb s s1 c o w e w':=by
 have he:=hS.env.below hw
 have HE:Hid (∀ q,AQ N g cb s s1 c o w (.returned (.tuple #[Ah [],.iface 312 (.pointer (some (ad 0)))])) (w.drewN q)):=fun q=>by
  subst hc
  have hb:=below_drewN (Below.refl w.heap.size w) q
  exact ⟨[],_,-1,rfl,AY (he.below hb).errs 0 (by decide),(fun h=>by cases h),.ofBelow hb,.inr ⟨by decide,hp.below hb⟩⟩
 have c0:=he.errs.c0
 obtain ⟨ks,hks⟩:∃ ks:ByteArray,⟨name.toArray⟩=ks:=⟨_,rfl⟩
 have n0:=Ak name [99,117,114,118,101] ks hks false (decide_eq_false h.1)
 have n1:=Ak name [108,105,110,107] ks hks false (decide_eq_false h.2.1)
 have n2:=Ak name [110,117,109,98,101,114,115] ks hks false (decide_eq_false h.2.2.1)
 have n3:=Ak name [112,97,99,107,101,116] ks hks false (decide_eq_false h.2.2.2.1)
 have n4:=Ak name [97,116] ks hks false (decide_eq_false h.2.2.2.2)
 obtain ⟨t0,u0⟩:=n0
 obtain ⟨t1,u1⟩:=n1
 obtain ⟨t2,u2⟩:=n2
 obtain ⟨t3,u3⟩:=n3
 obtain ⟨t4,u4⟩:=n4
 show Calls Tryz.prog 40 #[.pointer (some ⟨g,0,none⟩),.string ⟨name.toArray⟩,.slice (some ⟨wb,0,none⟩) m m] w fun e w'=>AQ N g cb s s1 c o w e w'
 rw [hks]
 clear hS hw hp h hc hks he
 go_enter Tryz.func40,Tryz.ntmps40
 go_wp2_with fail
 go_quiet (fail)
 go_wp2_with fail
 go_ret2
 exact HE.out nq
end
end Go.Proofs.YtipdclphpkgceaaGreatDoor
