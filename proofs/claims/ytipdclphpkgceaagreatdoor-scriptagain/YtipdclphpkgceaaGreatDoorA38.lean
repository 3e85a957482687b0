/- Own facts, put together: no statement of its own. -/
import Derived.Test.YtipdclphpkgceaaGreatDoorA37
import Derived.Test.YtipdclphpkgceaaGreatDoorA21
set_option maxHeartbeats 4000000
set_option maxRecDepth 100000

namespace Go.Proofs.YtipdclphpkgceaaGreatDoor
open Go.RowKit
theorem Tt {s:Scr} (ho:Bo s) {k:Nat} {o o':Option Int} (h:Co BK BS CF s.cs k s.per o) (h':Co BK BS CF s.cs k s.per o'):o=o':=by
 have hc:=ho.gate.curves.ok
 rcases h with ⟨hn,rfl⟩ | ⟨L,hL,hd⟩
 · exact (QI IW hc h' hn).symm
 ·
  have hd':=Sk IW hc h' hL
  have hokL:Ag L:=by
   obtain ⟨h0,q,-,hq8,hq,-⟩:=hL
   exact GY IW hc h0 q L hq8 hq
  rcases hd with ⟨hk,hd⟩ | ⟨hk,hd⟩
  ·
   rcases hd' with ⟨-,hd'⟩ | ⟨hk',-⟩
   · exact Iw.delay1 s.per L o o' hokL ho.gate.per.1 ho.gate.per.2 hd hd'
   · exact absurd hk hk'
  ·
   rcases hd' with ⟨hk',-⟩ | ⟨-,hd'⟩
   · exact absurd hk' hk
   · exact Iw.busy1 s.per L o o' hokL ho.gate.per.1 ho.gate.per.2 hd hd'
section
variable (w0:World) (ad:Nat → Addr) (N g cb:Nat) (hS:Site w0 ad N g cb) (s:Scr) (w:World) (hw:Below w0.heap.size w0 w) (hp:Aw w N g cb s) (ho:Bo s)
theorem Ol (w0:World) (ad:Nat → Addr) (N g cb:Nat) (hS:Site w0 ad N g cb) (s:Scr) (w:World) (hw:Below w0.heap.size w0 w) (ho:Bo s) (na:Option Addr) (ncap:Nat) (pv:Value) (hpi:BP w N g cb na ncap pv s) (c n:Int) (hc:Mi s c n) :
  Calls Tryz.prog 46 #[.agg #[.slice (some ⟨cb,0,none⟩) 8 8,Ah s.kb,.int .i64 s.per,.slice na s.ns.length ncap]] w fun e w'=>Cx c n w e w':=by
 have he:=hS.env.below hw
 have hg:=hpi.gate ho.gate.len (Jk ho (ns:=s.ns) (by rcases ho.gate.nums.len with h | h;rw [h.2];decide;omega))
 have:=Iw.good (some ⟨cb,0,none⟩) 8 s.cs ⟨s.kb.toArray⟩ s.per na ncap s.ns w ad he.errs hg (by rw [ByteArray.toList_mk];exact ho.gate)
 rw [ho.gate.len] at this
 refine this.mono ?_
 rintro e w' ⟨o,hb,hbel,hend⟩
 rw [ByteArray.toList_mk] at hb
 obtain ⟨o',hb',hco⟩:=hc
 have eo:o=o':=Tt ho hb hb'
 subst eo
 rcases hend with ⟨h1,E,rfl,hE⟩ | ⟨m,h1,rfl⟩
 ·
  rcases hco with ⟨-,rfl⟩ | ⟨h2,-⟩
  · exact ⟨0,E,-1,rfl,hE,(fun h=>by cases h),hbel⟩
  · rw [h1] at h2;cases h2
 ·
  rcases hco with ⟨h2,-⟩ | ⟨h2,rfl⟩
  · rw [h1] at h2;cases h2
  ·
   rw [h1] at h2
   obtain rfl:=Option.some.inj h2
   exact ⟨_,_,-1,rfl,CG _,fun _=>rfl,hbel⟩
theorem cutAt (w0:World) (ad:Nat → Addr) (N g cb:Nat) (hS:Site w0 ad N g cb) (s:Scr) (w:World) (hw:Below w0.heap.size w0 w) (hp:Aw w N g cb s) (x:List UInt8) (hs:x.length ≤ 1000) (nm rest:List UInt8) (b:Bool) (hcut:Go.Lib.cut x [32]=(nm,rest,b)) :
  Calls Tryz.prog 39 #[Ah x,.string ⟨#[32]⟩] w fun e w'=>e=.returned (.tuple #[Ah nm,Ah rest,.bool b]) ∧ Below w.heap.size w w' ∧ Aw w' N g cb s ∧ Below w0.heap.size w0 w':=by
 refine (aF x w ad (hS.env.below hw) hs).mono ?_
 rintro e w' ⟨rfl,n,rfl⟩
 rw [hcut]
 have hb:=below_drewN (Below.refl w.heap.size w) n
 exact ⟨rfl,hb,hp.below hb,hw.trans (hb.mono hw.size)⟩
theorem UL (w0:World) (ad:Nat → Addr) (N g cb:Nat) (hS:Site w0 ad N g cb) (s:Scr) (w:World) (hw:Below w0.heap.size w0 w) (hp:Aw w N g cb s) (x:List UInt8) (hs:x.length ≤ 1000) (nm rest:List UInt8) (hcut:Go.Lib.cut x [32]=(nm,rest,true)) (hr:rest.length ≤ 1000) (c:Int) (o:List UInt8) (s1:Scr)
  (hW:∀ W wb,Below w.heap.size w W → Bp W (some ⟨wb,0,none⟩) (Go.Lib.split rest [32]) → Calls Tryz.prog 40 #[.pointer (some ⟨g,0,none⟩),Ah nm,.slice (some ⟨wb,0,none⟩) (Go.Lib.split rest [32]).length (Go.Lib.split rest [32]).length] W fun e w'=>AQ N g cb s s1 c o W e w') :
  Calls Tryz.prog 26 #[.pointer (some ⟨g,0,none⟩),Ah x] w fun e w'=>AQ N g cb s s1 c o w e w':=by
 have HC:Hid (Calls Tryz.prog 39 #[Ah x,.string ⟨#[32]⟩] w fun e w'=>e=.returned (.tuple #[Ah nm,Ah rest,.bool true]) ∧ Below w.heap.size w w' ∧ Aw w' N g cb s ∧ Below w0.heap.size w0 w'):=cutAt w0 ad N g cb hS s w hw hp x hs nm rest true hcut
 have HSp:Hid (∀ W,Below w0.heap.size w0 W → Calls Tryz.prog 41 #[Ah rest,.string ⟨#[32]⟩] W fun e w'=>e=.returned (.slice (some ⟨W.heap.size,0,none⟩) (Go.Lib.split rest [32]).length (Go.Lib.split rest [32]).length) ∧ Bp w' (some ⟨W.heap.size,0,none⟩) (Go.Lib.split rest [32]) ∧ Below W.heap.size W w'):=fun W h=>X5 rest W ad (hS.env.below h) hr
 have HW:Hid (∀ W wb,Below w.heap.size w W → Bp W (some ⟨wb,0,none⟩) (Go.Lib.split rest [32]) → Calls Tryz.prog 40 #[.pointer (some ⟨g,0,none⟩),Ah nm,.slice (some ⟨wb,0,none⟩) (Go.Lib.split rest [32]).length (Go.Lib.split rest [32]).length] W fun e w'=>AQ N g cb s s1 c o W e w'):=hW
 obtain ⟨m,hm⟩:∃ m,(Go.Lib.split rest [32]).length=m:=⟨_,rfl⟩
 rw [hm] at HSp HW
 clear hS hw hp hs hcut hr hW hm
 go_enter Tryz.func26,Tryz.ntmps26
 go_wp2_with fail
 refine HC.out.mono ?_
 rintro e w1 ⟨rfl,hb1,hp1,hw1⟩
 have HB1:Hid (Below w.heap.size w w1):=hb1
 have HSq:Hid (Calls Tryz.prog 41 #[Ah rest,.string ⟨#[32]⟩] w1 fun e w'=>e=.returned (.slice (some ⟨w1.heap.size,0,none⟩) m m) ∧ Bp w' (some ⟨w1.heap.size,0,none⟩) (Go.Lib.split rest [32]) ∧ Below w1.heap.size w1 w'):=HSp.out w1 hw1
 clear hb1 hp1 hw1
 go_wp2_with fail
 refine HSq.out.mono ?_
 rintro e w2 ⟨rfl,hl2,hb2⟩
 have hb:=HB1.out.trans (hb2.mono HB1.out.size)
 have HOb:Hid (Calls Tryz.prog 40 #[.pointer (some ⟨g,0,none⟩),Ah nm,.slice (some ⟨w1.heap.size,0,none⟩) m m] w2 fun e w'=>AQ N g cb s s1 c o w e w'):=(HW.out w2 w1.heap.size hb hl2).mono fun e w' ⟨x,E,p,h1,h2,h3,h4,h5⟩=>⟨x,E,p,h1,h2,h3,(But.ofBelow hb).trans h4,h5⟩
 clear hl2 hb2 hb
 go_wp2_with fail
 refine HOb.out.mono ?_
 rintro e w3 ⟨x,E,p,rfl,h2⟩
 have HE:Hid (AQ N g cb s s1 c o w (.returned (.tuple #[Ah x,E])) w3):=⟨x,E,p,rfl,h2⟩
 clear h2
 go_wp2_with fail
 go_ret2
 exact HE.out
theorem Vy (w0:World) (ad:Nat → Addr) (N g cb:Nat) (hS:Site w0 ad N g cb) (s:Scr) (w:World) (hw:Below w0.heap.size w0 w) (hp:Aw w N g cb s) (x:List UInt8) (hs:x.length ≤ 1000) (name rest:List UInt8) (hcut:Go.Lib.cut x [32]=(name,rest,false)) (c:Int) (o:List UInt8) (s1:Scr) (hname:name=La) (h0:c=0) (hco:o=AU) (h1:s1={ s with ps:=[] }) :
  Calls Tryz.prog 26 #[.pointer (some ⟨g,0,none⟩),Ah x] w fun e w'=>AQ N g cb s s1 c o w e w':=by
 have hname':name=[99,108,101,97,114]:=hname
 have HC:Hid (Calls Tryz.prog 39 #[Ah x,.string ⟨#[32]⟩] w fun e w'=>e=.returned (.tuple #[Ah name,Ah rest,.bool false]) ∧ Below w.heap.size w w' ∧ Aw w' N g cb s ∧ Below w0.heap.size w0 w'):=cutAt w0 ad N g cb hS s w hw hp x hs name rest false hcut
 obtain ⟨ks,hks⟩:∃ ks:ByteArray,⟨name.toArray⟩=ks:=⟨_,rfl⟩
 have n0:=Ak name [99,108,101,97,114] ks hks true (by rw [hname'];decide)
 obtain ⟨t0,u0⟩:=n0
 have hcs:∀ r:List UInt8,(Value.tuple #[Ah name,Ah r,.bool false])=.tuple #[.string ks,Ah r,.bool false]:=fun r=>by rw [← hks]
 rw [hcs] at HC
 have HF:Hid (c=0 ∧ o=AU ∧ s1={ s with ps:=[] }):=⟨h0,hco,h1⟩
 clear hS hw hp hs hcut hks hcs hname hname' h0 hco h1
 go_enter Tryz.func26,Tryz.ntmps26
 go_wp2_with fail
 refine HC.out.mono ?_
 rintro e w1 ⟨rfl,hb1,hp1,hw1⟩
 obtain ⟨na,nc,pv,hpi⟩:=hp1
 obtain ⟨k1,k2⟩:=hpi.setPks (pv':=.slice none 0 0) (ps:=[]) (But.refl _ w1) (World.ownsRow_nil _ _ _ _) (fun k hk=>by cases hk) (w':=w1.setCell ⟨g,4,none⟩ (.slice none 0 0)) rfl
 have HE:Hid (AQ N g cb s s1 c o w (.returned (.tuple #[Ah AU,.nilIface])) (w1.setCell ⟨g,4,none⟩ (.slice none 0 0))):=by
  obtain ⟨q0,q1,q2⟩:=HF.out
  rw [q0,q1,q2]
  exact ⟨AU,.nilIface,-1,rfl,CG _,fun _=>rfl,(But.ofBelow hb1).trans k2,.inl ⟨rfl,na,nc,_,k1⟩⟩
 have HSd:Hid (Calls Tryz.prog 42 #[.nilIface] (w1.setCell ⟨g,4,none⟩ (.slice none 0 0)) fun e w'=>e=.returned (.tuple #[Ah AU,.nilIface]) ∧ w'=w1.setCell ⟨g,4,none⟩ (.slice none 0 0)):=FB _
 have y4:=hpi.c4
 have f4:=hpi.fg 4
 clear hb1 hw1 hpi k1 k2
 go_wp2_with fail
 refine HSd.out.mono ?_
 rintro e w2 ⟨rfl,rfl⟩
 go_wp2_with fail
 go_ret2
 exact HE.out
theorem YS (w0:World) (ad:Nat → Addr) (N g cb:Nat) (hS:Site w0 ad N g cb) (s:Scr) (w:World) (hw:Below w0.heap.size w0 w) (hp:Aw w N g cb s) (ho:Bo s) (x:List UInt8) (hs:x.length ≤ 1000) (name rest:List UInt8) (hcut:Go.Lib.cut x [32]=(name,rest,false)) (c:Int) (o:List UInt8) (hname:name=Oq) (l:List Sn) (hc:XY s c l) (hi:c=0 → JH l ∧ l.length ≤ 1000) (hco:c=0 → o=EN l) :
  Calls Tryz.prog 26 #[.pointer (some ⟨g,0,none⟩),Ah x] w fun e w'=>AQ N g cb s s c o w e w':=by
 have hname':name=[114,117,110]:=hname
 have HC:Hid (Calls Tryz.prog 39 #[Ah x,.string ⟨#[32]⟩] w fun e w'=>e=.returned (.tuple #[Ah name,Ah rest,.bool false]) ∧ Below w.heap.size w w' ∧ Aw w' N g cb s ∧ Below w0.heap.size w0 w'):=cutAt w0 ad N g cb hS s w hw hp x hs name rest false hcut
 obtain ⟨ks,hks⟩:∃ ks:ByteArray,⟨name.toArray⟩=ks:=⟨_,rfl⟩
 have n0:=Ak name [99,108,101,97,114] ks hks false (by rw [hname'];decide)
 have n1:=Ak name [114,117,110] ks hks true (by rw [hname'];decide)
 obtain ⟨t0,u0⟩:=n0
 obtain ⟨t1,u1⟩:=n1
 have hcs:∀ r:List UInt8,(Value.tuple #[Ah name,Ah r,.bool false])=.tuple #[.string ks,Ah r,.bool false]:=fun r=>by rw [← hks]
 rw [hcs] at HC
 have HF:Hid ((c=0 → o=EN l) ∧ (c=0 → JH l ∧ l.length ≤ 1000)):=⟨hco,hi⟩
 have HEn:Hid (Env w ad):=hS.env.below hw
 have HP:Hid (Aw w N g cb s):=hp
 have HR:Hid (∀ W,Below w0.heap.size w0 W → Aw W N g cb s → Calls Tryz.prog 44 #[.pointer (some ⟨g,0,none⟩)] W fun e w'=>Mj c l W e w'):=fun W h1 h2=>Ul w0 ad N g cb hS s W h1 h2 ho c l hc
 clear hS hw hp ho hs hcut hks hcs hname hname' hco hi hc
 go_enter Tryz.func26,Tryz.ntmps26
 go_wp2_with fail
 refine HC.out.mono ?_
 rintro e w1 ⟨rfl,hb1,hp1,hw1⟩
 have HRr:Hid (Calls Tryz.prog 44 #[.pointer (some ⟨g,0,none⟩)] w1 fun e w'=>Mj c l w1 e w'):=HR.out w1 hw1 hp1
 have HB1:Hid (Below w.heap.size w w1):=hb1
 clear hb1 hp1 hw1 HR
 go_wp2_with fail
 refine HRr.out.mono ?_
 rintro e w2 ⟨la,n,lcap,E,p,rfl,hE,hl,hb2⟩
 have hb:=HB1.out.trans (hb2.mono HB1.out.size)
 by_cases h0:c=0
 ·
  obtain rfl:=hE.none_ h0
  obtain ⟨e1,e2⟩:=hl h0
  have HE:Hid (∀ W,Below w2.heap.size w2 W → AQ N g cb s s c o w (.returned (.tuple #[Ah (EN l),.nilIface])) W):=fun W hW=>CL HP.out (p:=p) (hE.below hW) (fun h=>(HF.out.1 h).symm) (hb.trans (hW.mono hb.size))
  have HSs:Hid (Calls Tryz.prog 43 #[.slice la n lcap,.nilIface] w2 fun e w'=>e=.returned (.tuple #[Ah (EN l),.nilIface]) ∧ Below w2.heap.size w2 w'):=by
   rw [e1]
   unfold EN
   by_cases hz:l=[]
   ·
    subst hz
    refine (Re la lcap w2).mono ?_
    rintro e w' ⟨rfl,rfl⟩
    exact ⟨rfl,Below.refl _ _⟩
   ·
    rw [if_neg hz]
    have:=List.length_pos_iff.2 hz
    exact TE la lcap l w2 e2.sent (by omega) (HF.out.2 h0).2 (HEn.out.below hb).itoa (HF.out.2 h0).1
  clear hE hl hb2 hb h0 e1 e2
  go_wp2_with fail
  refine HSs.out.mono ?_
  rintro e w3 ⟨rfl,hb3⟩
  have HEe:=(show Hid (AQ N g cb s s c o w (.returned (.tuple #[Ah (EN l),.nilIface])) w3) from HE.out w3 hb3)
  clear hb3 HE
  go_wp2_with fail
  go_ret2
  exact HEe.out
 ·
  obtain ⟨ty,v,rfl⟩:=hE.some_ h0
  have HE:Hid (AQ N g cb s s c o w (.returned (.tuple #[Ah [],.iface ty v])) w2):=CL HP.out hE (fun h=>absurd h h0) hb
  have HSs:Hid (Calls Tryz.prog 43 #[.slice la n lcap,.iface ty v] w2 fun e w'=>e=.returned (.tuple #[Ah [],.iface ty v]) ∧ w'=w2):=Sr la n lcap ty v w2
  clear hE hl hb2 hb h0
  go_wp2_with fail
  refine HSs.out.mono ?_
  rintro e w3 ⟨rfl,rfl⟩
  go_wp2_with fail
  go_ret2
  exact HE.out
theorem U4 (w0:World) (ad:Nat → Addr) (N g cb:Nat) (hS:Site w0 ad N g cb) (s:Scr) (w:World) (hw:Below w0.heap.size w0 w) (hp:Aw w N g cb s) (ho:Bo s) (x:List UInt8) (hs:x.length ≤ 1000) (name rest:List UInt8) (hcut:Go.Lib.cut x [32]=(name,rest,false)) (c n:Int) (o:List UInt8) (hname:name=Gz) (hc:Qj s c n) (hn:c=0 → -9223372036854775808 ≤ n ∧ n ≤ 9223372036854775807) (hco:c=0 → o=Go.Lib.itoa n) :
  Calls Tryz.prog 26 #[.pointer (some ⟨g,0,none⟩),Ah x] w fun e w'=>AQ N g cb s s c o w e w':=by
 have hname':name=[119,111,114,115,116]:=hname
 have HC:Hid (Calls Tryz.prog 39 #[Ah x,.string ⟨#[32]⟩] w fun e w'=>e=.returned (.tuple #[Ah name,Ah rest,.bool false]) ∧ Below w.heap.size w w' ∧ Aw w' N g cb s ∧ Below w0.heap.size w0 w'):=cutAt w0 ad N g cb hS s w hw hp x hs name rest false hcut
 obtain ⟨ks,hks⟩:∃ ks:ByteArray,⟨name.toArray⟩=ks:=⟨_,rfl⟩
 have n0:=Ak name [99,108,101,97,114] ks hks false (by rw [hname'];decide)
 have n1:=Ak name [114,117,110] ks hks false (by rw [hname'];decide)
 have n2:=Ak name [98,111,117,110,100] ks hks false (by rw [hname'];decide)
 have n3:=Ak name [119,111,114,115,116] ks hks true (by rw [hname'];decide)
 obtain ⟨t0,u0⟩:=n0
 obtain ⟨t1,u1⟩:=n1
 obtain ⟨t2,u2⟩:=n2
 obtain ⟨t3,u3⟩:=n3
 have hcs:∀ r:List UInt8,(Value.tuple #[Ah name,Ah r,.bool false])=.tuple #[.string ks,Ah r,.bool false]:=fun r=>by rw [← hks]
 rw [hcs] at HC
 have HO:Hid (c=0 → o=Go.Lib.itoa n):=hco
 have HRg:Hid (c=0 → -9223372036854775808 ≤ n ∧ n ≤ 9223372036854775807):=hn
 have HEn:Hid (Env w ad):=hS.env.below hw
 have HP:Hid (Aw w N g cb s):=hp
 have HR:Hid (∀ W,Below w0.heap.size w0 W → Aw W N g cb s → Calls Tryz.prog 47 #[.pointer (some ⟨g,0,none⟩)] W fun e w'=>Cx c n W e w'):=fun W h1 h2=>QQ w0 ad N g cb hS s W h1 h2 ho c n hc
 clear hS hw hp ho hs hcut hks hcs hname hname' hco hn hc
 go_enter Tryz.func26,Tryz.ntmps26
 go_wp2_with fail
 refine HC.out.mono ?_
 rintro e w1 ⟨rfl,hb1,hp1,hw1⟩
 have HRr:Hid (Calls Tryz.prog 47 #[.pointer (some ⟨g,0,none⟩)] w1 fun e w'=>Cx c n w1 e w'):=HR.out w1 hw1 hp1
 have HB1:Hid (Below w.heap.size w w1):=hb1
 clear hb1 hp1 hw1 HR
 go_wp2_with fail
 refine HRr.out.mono ?_
 rintro e w2 ⟨z,E,p,rfl,hE,hz,hb2⟩
 have hb:=HB1.out.trans (hb2.mono HB1.out.size)
 clear hb2
 by_cases h0:c=0
 ·
  obtain rfl:=hE.none_ h0
  have HSd:Hid (Calls Tryz.prog 45 #[.int .i64 z,.nilIface] w2 fun e w'=>e=.returned (.tuple #[Ah (Go.Lib.itoa z),.nilIface]) ∧ Below w2.heap.size w2 w'):=GH z w2 (HEn.out.below hb).itoa (by rw [hz h0];exact (HRg.out h0).1) (by rw [hz h0];exact (HRg.out h0).2)
  have HE:Hid (∀ W,Below w2.heap.size w2 W → AQ N g cb s s c o w (.returned (.tuple #[Ah (Go.Lib.itoa z),.nilIface])) W):=fun W hW=>CL HP.out (p:=p) (hE.below hW) (fun h=>by rw [HO.out h,hz h]) (hb.trans (hW.mono hb.size))
  clear hE hb hz h0
  go_wp2_with fail
  refine HSd.out.mono ?_
  rintro e w3 ⟨rfl,hb3⟩
  have HEe:=(show Hid (AQ N g cb s s c o w (.returned (.tuple #[Ah (Go.Lib.itoa z),.nilIface])) w3) from HE.out w3 hb3)
  clear hb3 HE
  go_wp2_with fail
  go_ret2
  exact HEe.out
 ·
  obtain ⟨ty,v,rfl⟩:=hE.some_ h0
  have HSd:Hid (Calls Tryz.prog 45 #[.int .i64 z,.iface ty v] w2 fun e w'=>e=.returned (.tuple #[Ah [],.iface ty v]) ∧ w'=w2):=GI z ty v w2
  have HE:Hid (AQ N g cb s s c o w (.returned (.tuple #[Ah [],.iface ty v])) w2):=CL HP.out hE (fun h=>absurd h h0) hb
  clear hE hb hz h0
  go_wp2_with fail
  refine HSd.out.mono ?_
  rintro e w3 ⟨rfl,rfl⟩
  go_wp2_with fail
  go_ret2
  exact HE.out
theorem Va (w0:World) (ad:Nat → Addr) (N g cb:Nat) (hS:Site w0 ad N g cb) (s:Scr) (w:World) (hw:Below w0.heap.size w0 w) (hp:Aw w N g cb s) (ho:Bo s) (x:List UInt8) (hs:x.length ≤ 1000) (name rest:List UInt8) (hcut:Go.Lib.cut x [32]=(name,rest,false)) (c n:Int) (o:List UInt8) (hname:name=Gx) (hc:Mi s c n) (hn:c=0 → -9223372036854775808 ≤ n ∧ n ≤ 9223372036854775807) (hco:c=0 → o=Go.Lib.itoa n) :
  Calls Tryz.prog 26 #[.pointer (some ⟨g,0,none⟩),Ah x] w fun e w'=>AQ N g cb s s c o w e w':=by
 have hname':name=[98,111,117,110,100]:=hname
 have HC:Hid (Calls Tryz.prog 39 #[Ah x,.string ⟨#[32]⟩] w fun e w'=>e=.returned (.tuple #[Ah name,Ah rest,.bool false]) ∧ Below w.heap.size w w' ∧ Aw w' N g cb s ∧ Below w0.heap.size w0 w'):=cutAt w0 ad N g cb hS s w hw hp x hs name rest false hcut
 obtain ⟨ks,hks⟩:∃ ks:ByteArray,⟨name.toArray⟩=ks:=⟨_,rfl⟩
 have n0:=Ak name [99,108,101,97,114] ks hks false (by rw [hname'];decide)
 have n1:=Ak name [114,117,110] ks hks false (by rw [hname'];decide)
 have n2:=Ak name [98,111,117,110,100] ks hks true (by rw [hname'];decide)
 obtain ⟨t0,u0⟩:=n0
 obtain ⟨t1,u1⟩:=n1
 obtain ⟨t2,u2⟩:=n2
 have hcs:∀ r:List UInt8,(Value.tuple #[Ah name,Ah r,.bool false])=.tuple #[.string ks,Ah r,.bool false]:=fun r=>by rw [← hks]
 rw [hcs] at HC
 have HO:Hid (c=0 → o=Go.Lib.itoa n):=hco
 have HRg:Hid (c=0 → -9223372036854775808 ≤ n ∧ n ≤ 9223372036854775807):=hn
 have HEn:Hid (Env w ad):=hS.env.below hw
 have HP:Hid (Aw w N g cb s):=hp
 obtain ⟨na,nc,pv,hpi⟩:=hp
 have HR:Hid (∀ W,Below w0.heap.size w0 W → Below w.heap.size w W → Calls Tryz.prog 46 #[.agg #[.slice (some ⟨cb,0,none⟩) 8 8,Ah s.kb,.int .i64 s.per,.slice na s.ns.length nc]] W fun e w'=>Cx c n W e w'):=fun W h1 h2=>Ol w0 ad N g cb hS s W h1 ho na nc pv (hpi.below h2) c n hc
 have HPi:Hid (BP w N g cb na nc pv s):=hpi
 clear hS hw ho hs hcut hks hcs hname hname' hco hn hc hpi
 go_enter Tryz.func26,Tryz.ntmps26
 go_wp2_with fail
 refine HC.out.mono ?_
 rintro e w1 ⟨rfl,hb1,hp1,hw1⟩
 have HRr:Hid (Calls Tryz.prog 46 #[.agg #[.slice (some ⟨cb,0,none⟩) 8 8,Ah s.kb,.int .i64 s.per,.slice na s.ns.length nc]] w1 fun e w'=>Cx c n w1 e w'):=HR.out w1 hw1 hb1
 have HB1:Hid (Below w.heap.size w w1):=hb1
 have hp2:=HPi.out.below hb1
 have y0:=hp2.c0
 have y1:=hp2.c1
 have y2:=hp2.c2
 have y3:=hp2.c3
 obtain ⟨kb,hkb⟩:∃ kb,s.kb=kb:=⟨_,rfl⟩
 obtain ⟨per,hper⟩:∃ per,s.per=per:=⟨_,rfl⟩
 obtain ⟨r,hr'⟩:∃ r,s.ns.length=r:=⟨_,rfl⟩
 rw [hkb] at y1 HRr
 rw [hper] at y2 HRr
 rw [hr'] at y3 HRr
 clear hb1 hp1 hw1 HR hp2 hkb hper hr'
 go_wp2_with fail
 refine HRr.out.mono ?_
 rintro e w2 ⟨z,E,p,rfl,hE,hz,hb2⟩
 have hb:=HB1.out.trans (hb2.mono HB1.out.size)
 clear hb2
 by_cases h0:c=0
 ·
  obtain rfl:=hE.none_ h0
  have HSd:Hid (Calls Tryz.prog 45 #[.int .i64 z,.nilIface] w2 fun e w'=>e=.returned (.tuple #[Ah (Go.Lib.itoa z),.nilIface]) ∧ Below w2.heap.size w2 w'):=GH z w2 (HEn.out.below hb).itoa (by rw [hz h0];exact (HRg.out h0).1) (by rw [hz h0];exact (HRg.out h0).2)
  have HE:Hid (∀ W,Below w2.heap.size w2 W → AQ N g cb s s c o w (.returned (.tuple #[Ah (Go.Lib.itoa z),.nilIface])) W):=fun W hW=>CL HP.out (p:=p) (hE.below hW) (fun h=>by rw [HO.out h,hz h]) (hb.trans (hW.mono hb.size))
  clear hE hb hz h0
  go_wp2_with fail
  refine HSd.out.mono ?_
  rintro e w3 ⟨rfl,hb3⟩
  have HEe:=(show Hid (AQ N g cb s s c o w (.returned (.tuple #[Ah (Go.Lib.itoa z),.nilIface])) w3) from HE.out w3 hb3)
  clear hb3 HE
  go_wp2_with fail
  go_ret2
  exact HEe.out
 ·
  obtain ⟨ty,v,rfl⟩:=hE.some_ h0
  have HSd:Hid (Calls Tryz.prog 45 #[.int .i64 z,.iface ty v] w2 fun e w'=>e=.returned (.tuple #[Ah [],.iface ty v]) ∧ w'=w2):=GI z ty v w2
  have HE:Hid (AQ N g cb s s c o w (.returned (.tuple #[Ah [],.iface ty v])) w2):=CL HP.out hE (fun h=>absurd h h0) hb
  clear hE hb hz h0
  go_wp2_with fail
  refine HSd.out.mono ?_
  rintro e w3 ⟨rfl,rfl⟩
  go_wp2_with fail
  go_ret2
  exact HE.out
theorem XC (w0:World) (ad:Nat → Addr) (N g cb:Nat) (hS:Site w0 ad N g cb) (s:Scr) (w:World) (hw:Below w0.heap.size w0 w) (hp:Aw w N g cb s) (x:List UInt8) (hs:x.length ≤ 1000) (name rest:List UInt8) (hcut:Go.Lib.cut x [32]=(name,rest,false)) (c:Int) (o:List UInt8) (s1:Scr) (h:name ≠ La ∧ name ≠ Oq ∧ name ≠ Gx ∧ name ≠ Gz) (hc:c=1) :
  Calls Tryz.prog 26 #[.pointer (some ⟨g,0,none⟩),Ah x] w fun e w'=>AQ N g cb s s1 c o w e w':=by
 have HC:Hid (Calls Tryz.prog 39 #[Ah x,.string ⟨#[32]⟩] w fun e w'=>e=.returned (.tuple #[Ah name,Ah rest,.bool false]) ∧ Below w.heap.size w w' ∧ Aw w' N g cb s ∧ Below w0.heap.size w0 w'):=cutAt w0 ad N g cb hS s w hw hp x hs name rest false hcut
 obtain ⟨ks,hks⟩:∃ ks:ByteArray,⟨name.toArray⟩=ks:=⟨_,rfl⟩
 have n0:=Ak name [99,108,101,97,114] ks hks false (decide_eq_false h.1)
 have n1:=Ak name [114,117,110] ks hks false (decide_eq_false h.2.1)
 have n2:=Ak name [98,111,117,110,100] ks hks false (decide_eq_false h.2.2.1)
 have n3:=Ak name [119,111,114,115,116] ks hks false (decide_eq_false h.2.2.2)
 obtain ⟨t0,u0⟩:=n0
 obtain ⟨t1,u1⟩:=n1
 obtain ⟨t2,u2⟩:=n2
 obtain ⟨t3,u3⟩:=n3
 have hcs:∀ r:List UInt8,(Value.tuple #[Ah name,Ah r,.bool false])=.tuple #[.string ks,Ah r,.bool false]:=fun r=>by rw [← hks]
 rw [hcs] at HC
 have HS:Hid (Env w ad ∧ Aw w N g cb s ∧ c=1):=⟨hS.env.below hw,hp,hc⟩
 clear hS hw hp hs hcut hks hcs h hc
 go_enter Tryz.func26,Tryz.ntmps26
 go_wp2_with fail
 refine HC.out.mono ?_
 rintro e w1 ⟨rfl,hb1,hp1,hw1⟩
 have HE:Hid (∀ q,AQ N g cb s s1 c o w (.returned (.tuple #[Ah [],.iface 312 (.pointer (some (ad 0)))])) (w1.drewN q)):=fun q=>by
  have hb:=below_drewN hb1 q
  rw [HS.out.2.2]
  exact ⟨[],_,-1,rfl,AY (HS.out.1.below hb).errs 0 (by decide),(fun h=>by cases h),.ofBelow hb,.inr ⟨by decide,HS.out.2.1.below hb⟩⟩
 have c0:=(HS.out.1.below hb1).errs.c0
 clear hb1 hp1 hw1
 go_wp2_with fail
 go_quiet (fail)
 go_wp2_with fail
 go_ret2
 exact HE.out nq
end
theorem J9 {s:Scr} (ho:Bo s) {qs:List Pk} {l:List Sn} (h:CV (Af s.cs) (kindOf s.kb) s.per s.ns s.ps qs l):JH l ∧ l.length ≤ 1000 ∧ ∀ z ∈ Ef qs l,0 ≤ z ∧ z ≤ 1125899906842624:=by
 obtain ⟨k1,k2,k3⟩:=h.ok ho.pks ho.gate.curves.ok
 obtain ⟨m1,-,m3⟩:=k3.may ho.gate.nums k1 ho.gate.per.1
 have hf:=k1.few
 have hn:=MU m1
 have hr:=m1.range k1 ho.gate.per
 refine ⟨fun x hx z hz=>?_,by omega,fun z hz=>?_⟩
 ·
  obtain ⟨i,hi⟩:=List.getElem?_of_mem hx
  have a1:=hr i x hi
  have a2:=of_decide_eq_true (hn i x hi)
  have a3:=Ad hi
  rcases hz with rfl | rfl | rfl <;> omega
 ·
  unfold Ef at hz
  obtain ⟨x,hx,rfl⟩:=List.mem_map.1 hz
  obtain ⟨i,hi⟩:=List.getElem?_of_mem hx
  have a1:=hr i x hi
  have a2:=of_decide_eq_true (hn i x hi)
  have a3:=Ad hi
  obtain ⟨q,hq,-⟩:=Ai qs x.num.toNat (by omega)
  have a4:=Bb (k1.each _ q hq).1
  obtain ⟨t,b,-,-,h5,h6⟩:=m1 i x hi
  have h7:Ay qs x.num.toNat ≤ x.beg:=by rw [h6];simpa using h5
  have h8:Ay qs x.num.toNat=q.tick:=AJ hq
  omega
theorem IE:∀ (zs:List Int) (z:Int),(0 ≤ z ∧ z ≤ 1125899906842624) → (∀ y ∈ zs,0 ≤ y ∧ y ≤ 1125899906842624) → 0 ≤ zs.foldl max z ∧ zs.foldl max z ≤ 1125899906842624
 | [],z,h,_=>h
 | y :: zs,z,h,hy=>IE zs (max z y) (by have:=hy y (by simp);omega) fun x hx=>hy x (by simp [hx])
theorem R7 {qs:List Pk} {l:List Sn} (h:∀ z ∈ Ef qs l,0 ≤ z ∧ z ≤ 1125899906842624):0 ≤ FT qs l ∧ FT qs l ≤ 1125899906842624:=by
 unfold FT
 cases e:Ef qs l with
 | nil=>simp
 | cons z zs=>
  rw [e] at h
  exact IE zs z (h z (by simp)) fun y hy=>h y (by simp [hy])
theorem SQ {s:Scr} (ho:Bo s) {k:Nat} {n:Int} (h:Co BK BS CF s.cs k s.per (some n)):0 ≤ n ∧ n ≤ 1099511627776:=by
 have hp:=ho.gate.per
 rcases h with ⟨-,h⟩ | ⟨L,hL,hd⟩
 · cases h
 ·
  have hokL:Ag L:=by
   obtain ⟨h0,q,-,hq8,hq,-⟩:=hL
   exact GY IW ho.gate.curves.ok h0 q L hq8 hq
  rcases hd with ⟨-,⟨d,e,hd,-⟩ | ⟨e,-⟩⟩ | ⟨-,⟨m,e,hb⟩ | ⟨e,-⟩⟩
  ·
   obtain rfl:=Option.some.inj e
   obtain ⟨q,e1,hh,q1,q2,-⟩:=hd.at_
   obtain ⟨c0,-⟩:=Y6 L q hokL hh
   have hu:=hd.upper 0 (Int.le_refl _)
   have h1:=(Nz 0 L hokL (Int.le_refl _) (by decide)).1
   have h2:1 * 1 ≤ s.per * Bt 0 L:=Int.mul_le_mul hp.1 h1 (by decide) (by omega)
   have h3:s.per * q ≤ 1000 * 20019999:=Int.mul_le_mul hp.2 q2 (by omega) (by decide)
   unfold Da at e1
   omega
  · cases e
  ·
   obtain rfl:=Option.some.inj e
   have h1:1 * 1 ≤ s.per * m:=Int.mul_le_mul hp.1 hb.one (by decide) (by omega)
   exact ⟨by omega,hb.most⟩
  · cases e
section
variable (w0:World) (ad:Nat → Addr) (N g cb:Nat) (hS:Site w0 ad N g cb) (s:Scr) (w:World) (hw:Below w0.heap.size w0 w) (hp:Aw w N g cb s) (ho:Bo s)
theorem Zw (w0:World) (ad:Nat → Addr) (N g cb:Nat) (hS:Site w0 ad N g cb) (s:Scr) (w:World) (hw:Below w0.heap.size w0 w) (hp:Aw w N g cb s) (ho:Bo s) (x:List UInt8) (hx:x.length ≤ 900) (c:Int) (o:List UInt8) (s1:Scr) (h:Kt s x c o s1) :
  Calls Tryz.prog 26 #[.pointer (some ⟨g,0,none⟩),Ah x] w fun e w'=>AQ N g cb s s1 c o w e w':=by
 have hcs:=TG x
 unfold Kt at h
 rw [E8] at h
 have hcut:Go.Lib.cut x [32]=((GQ x).1,(GQ x).2.1,(GQ x).2.2):=E8 x
 obtain ⟨nm,rest,b,hcw⟩:∃ nm rest b,GQ x=(nm,rest,b):=⟨_,_,_,rfl⟩
 rw [hcw] at hcut hcs h
 rcases h with ⟨hb,h⟩ | ⟨hb,h⟩
 ·
  have hb':b=true:=hb
  subst hb'
  have hl:=Od rest
  have hsh:DU (Go.Lib.split rest [32]):=by
   rw [Gq]
   exact ⟨by have:=hcs.2;simp at this;omega,fun y hy=>by have:=KG rest y hy;have:=hcs.2;simp at this;omega⟩
  have h1:1 ≤ (Go.Lib.split rest [32]).length:=by rw [Gq];exact hl.1
  refine UL w0 ad N g cb hS s w hw hp x (by omega) nm rest hcut (by have:=hcs.2;simp at this;omega) c o s1 fun W wb hW hlW=>?_
  have hwW:=hw.trans (hW.mono hw.size)
  have hpW:=hp.below hW
  rcases h with ⟨hn,hc,hco⟩ | ⟨hn,hc,hco⟩ | ⟨hn,hc,hco⟩ | ⟨hn,hc,hco⟩ | ⟨hn,rfl,n,hc,hco⟩ | ⟨n1,n2,n3,n4,n5,hc,-⟩
  · exact Og w0 ad N g cb hS s W hwW hpW ho nm wb _ hlW hsh h1 c o s1 hn hc hco
  · exact O3 w0 ad N g cb hS s W hwW hpW ho nm wb _ hlW hsh c o s1 hn hc hco
  · exact KV w0 ad N g cb hS s W hwW hpW ho nm wb _ hlW hsh c o s1 hn hc hco
  · exact Mc w0 ad N g cb hS s W hwW hpW ho nm wb _ hlW hsh c o s1 hn hc hco
  ·
   refine Rt w0 ad N g cb hS s1 W hwW hpW ho nm wb _ hlW hsh c n o hn hc (fun h0=>?_) hco
   obtain ⟨-,e⟩ | ⟨x',y',-,⟨-,e⟩ | ⟨f,hf,⟨-,e⟩ | ⟨t,p,ht,hfl,e⟩⟩⟩:=hc
   · omega
   · omega
   · omega
   ·
    have hr:=Nc ht
    subst h0
    rw [e rfl]
    have:=Nz t _ hfl.ok.1 hr.1 (by omega)
    omega
  · exact Oo w0 ad N g cb hS s W hwW hpW nm wb _ c o s1 ⟨n1,n2,n3,n4,n5⟩ hc
 ·
  have hb':b=false:=hb
  subst hb'
  rcases h with ⟨hn,h0,hco,h1⟩ | ⟨hn,rfl,l,hc,hco⟩ | ⟨hn,rfl,n,hc,hco⟩ | ⟨hn,rfl,n,hc,hco⟩ | ⟨n1,n2,n3,n4,hc,-⟩
  · exact Vy w0 ad N g cb hS s w hw hp x (by omega) nm rest hcut c o s1 hn h0 hco h1
  ·
   refine YS w0 ad N g cb hS s1 w hw hp ho x (by omega) nm rest hcut c o hn l hc (fun h0=>?_) hco
   obtain ⟨p,-,hq⟩:=hc
   obtain ⟨qs,hq⟩:=hq h0
   obtain ⟨k1,k2,-⟩:=J9 ho hq
   exact ⟨k1,k2⟩
  ·
   refine Va w0 ad N g cb hS s1 w hw hp ho x (by omega) nm rest hcut c n o hn hc (fun h0=>?_) hco
   obtain ⟨o',hb,⟨-,e⟩ | ⟨rfl,-⟩⟩:=hc
   · omega
   ·
    have:=SQ ho hb
    omega
  ·
   refine U4 w0 ad N g cb hS s1 w hw hp ho x (by omega) nm rest hcut c n o hn hc (fun h0=>?_) hco
   obtain ⟨p,-,hq⟩:=hc
   obtain ⟨qs,l,hq2,rfl⟩:=hq h0
   have:=R7 (J9 ho hq2).2.2
   omega
  · exact XC w0 ad N g cb hS s w hw hp x (by omega) nm rest hcut c o s1 ⟨n1,n2,n3,n4⟩ hc
theorem I8 {ps:List Pk} {c p:Int} (h:DY ps c p):c=0 ∨ known c:=by
 unfold known
 rcases h with ⟨-,h,-⟩ | ⟨-,j,q,k,-,-,hb,h,-⟩ | ⟨-,h,-⟩
 · omega
 · rcases hb with ⟨-,hk⟩ | ⟨-,-,hk⟩ <;> omega
 · omega
theorem IP {cs:List (List (Int × Int))} {k:Nat} {per:Int} {ns:List Int} {ps:List Pk} {c p:Int} (h:JG cs k per ns ps c p):c=0 ∨ known c:=by
 rcases h with ⟨h,-⟩ | ⟨-,h,-⟩ | ⟨-,-,i,-,-,h,-⟩ | ⟨-,-,-,h,-⟩
 · exact FO h
 · exact I8 h
 · exact .inr (by unfold known;omega)
 · exact .inl h
theorem Lx (s:Scr) {x:List UInt8} {c:Int} {o:List UInt8} {s1:Scr} (h:Kt s x c o s1):c=0 ∨ known c:=by
 have one:c=1 → c=0 ∨ known c:=fun h=>.inr (by unfold known;omega)
 rcases h with ⟨-,h⟩ | ⟨-,h⟩
 ·
  rcases h with ⟨-,h,-⟩ | ⟨-,h,-⟩ | ⟨-,h,-⟩ | ⟨-,h,-⟩ | ⟨-,-,n,h,-⟩ | ⟨-,-,-,-,-,h,-⟩
  ·
   rcases h with ⟨-,h,-⟩ | ⟨f,-,⟨-,h,-⟩ | ⟨l,-,-,⟨-,h⟩ | ⟨-,p,h⟩⟩⟩
   · exact one h
   · exact one h
   · exact .inl h
   ·
    have:=GJ h
    unfold known
    omega
  ·
   rcases h with ⟨-,h,-⟩ | ⟨k,n,-,⟨-,h,-⟩ | ⟨per,-,-,d,p,hg,⟨-,h⟩ | ⟨-,h⟩⟩⟩
   · exact one h
   · exact one h
   · exact one h
   · rw [h];exact FO hg
  ·
   rcases h with ⟨-,h,-⟩ | ⟨-,⟨-,h,-⟩ | ⟨ns,p,-,-,h⟩⟩
   · exact one h
   · exact one h
   · exact FO h
  ·
   rcases h with ⟨-,h,-⟩ | ⟨a,b,d,-,⟨-,h,-⟩ | ⟨f,-,⟨-,h,-⟩ | ⟨a',b',p,-,-,h⟩⟩⟩
   · exact one h
   · exact one h
   · exact one h
   · exact I8 h
  ·
   rcases h with ⟨-,h⟩ | ⟨a,b,-,⟨-,h⟩ | ⟨f,-,⟨-,h⟩ | ⟨t,p,-,h,-⟩⟩⟩
   · exact one h
   · exact one h
   · exact one h
   ·
    have:=GJ h
    unfold known
    omega
  · exact one h
 ·
  rcases h with ⟨-,h,-⟩ | ⟨-,-,l,⟨p,h,-⟩,-⟩ | ⟨-,-,n,⟨o',-,⟨-,h⟩ | ⟨-,h⟩⟩,-⟩ | ⟨-,-,n,⟨p,h,-⟩,-⟩ | ⟨-,-,-,-,h,-⟩
  · exact .inl h
  · exact IP h
  · exact .inr (by unfold known;omega)
  · exact .inl h
  · exact IP h
  · exact one h
theorem Wt (w0:World) (ad:Nat → Addr) (N g cb:Nat) (hS:Site w0 ad N g cb) (s:Scr) (w:World) (hw:Below w0.heap.size w0 w) (hp:Aw w N g cb s) (ho:Bo s) (x:List UInt8) (hx:x.length ≤ 900) (out:List UInt8) (s':Scr) (h:Says s x out s') :
  Calls Tryz.prog 15 #[.pointer (some ⟨g,0,none⟩),Ah x] w fun e w'=>e=.returned (Ah out) ∧ But (K3 N g cb) w w' ∧ Aw w' N g cb s':=by
 obtain ⟨c,o,s1,hob,hc⟩:=h
 have HC:Hid (Calls Tryz.prog 26 #[.pointer (some ⟨g,0,none⟩),Ah x] w fun e w'=>AQ N g cb s s1 c o w e w'):=Zw w0 ad N g cb hS s w hw hp ho x hx c o s1 hob
 have HK:Hid ((c=0 ∨ known c) ∧ ((c=0 ∧ out=o ∧ s'=s1) ∨ (0 < c ∧ out=Di c ∧ s'=s))):=⟨Lx s hob,hc⟩
 have hmE:=Tryz.errMethE
 have hmF:=Tryz.errMethF
 clear hS hw hp ho hob hc hx
 go_enter Tryz.func15,Tryz.ntmps15
 go_wp2_with fail
 refine HC.out.mono ?_
 rintro e w1 ⟨y,E,p,rfl,hE,hy,hb,hend⟩
 by_cases h0:c=0
 ·
  obtain rfl:=hE.none_ h0
  have HE:Hid (Ending.returned (Ah y)=.returned (Ah out) ∧ But (K3 N g cb) w w1 ∧ Aw w1 N g cb s'):=by
   rcases HK.out.2 with ⟨-,e1,e2⟩ | ⟨h,-⟩
   ·
    rcases hend with ⟨-,h⟩ | ⟨h,-⟩
    · rw [hy h0,e1,e2];exact ⟨rfl,hb,h⟩
    · exact absurd h0 h
   · omega
  clear hE hy hb hend h0
  go_wp2_with fail
  go_ret
  exact HE.out
 ·
  have HE:Hid (Ending.returned (Ah (Di c))=.returned (Ah out) ∧ But (K3 N g cb) w w1 ∧ Aw w1 N g cb s'):=by
   rcases HK.out.2 with ⟨h,-⟩ | ⟨-,e1,e2⟩
   · exact absurd h h0
   ·
    rcases hend with ⟨h,-⟩ | ⟨-,h⟩
    · exact absurd h h0
    · rw [e1,e2];exact ⟨rfl,hb,h⟩
  have hk:known c:=by
   rcases HK.out.1 with h | h
   · exact absurd h h0
   · exact h
  rcases Vg hE hk with ⟨a,rfl,ha⟩ | ⟨pb,a,rfl,h1,ha⟩
  ·
   have HT:Hid (Calls Tryz.prog 287 #[.pointer (some a)] w1 fun e w'=>e=.returned (Ah (Di c)) ∧ w'=w1):=IL a _ w1 ha
   clear hE hy hb hend h0 hk ha
   go_wp2_with fail
   refine HT.out.mono ?_
   rintro e w2 ⟨rfl,rfl⟩
   go_wp2_with fail
   go_ret
   exact HE.out
  ·
   have HT:Hid (Calls Tryz.prog 266 #[.pointer (some ⟨pb,0,none⟩)] w1 fun e w'=>e=.returned (Ah (Di c)) ∧ w'=w1):=VE pb a _ w1 h1 ha
   clear hE hy hb hend h0 hk ha h1
   go_wp2_with fail
   refine HT.out.mono ?_
   rintro e w2 ⟨rfl,rfl⟩
   go_wp2_with fail
   go_ret
   exact HE.out
end
end Go.Proofs.YtipdclphpkgceaaGreatDoor
