/- Own facts, put together: no statement of its own. -/
import Derived.Test.YtipdclphpkgceaaGreatDoorS40
set_option maxHeartbeats 4000000
set_option maxRecDepth 100000

namespace Go.Proofs.YtipdclphpkgceaaGreatDoor
open Go.RowKit
def ObeyEnd (N g cb:Nat) (s s1:Scr) (c:Int) (o:List UInt8) (w:World) (e:Ending) (w':World):Prop:=
 ∃ x E p,e=.returned (.tuple #[strW x,E]) ∧ ErrIs w' E c p ∧ (c=0 → x=o) ∧ But (ownS N g cb) w w' ∧ ((c=0 ∧ PlayAt w' N g cb s1) ∨ (c ≠ 0 ∧ PlayAt w' N g cb s))
theorem obey_of_tell {N g cb:Nat} {s:Scr} {c:Int} {o:List UInt8} {w w':World} {x:List UInt8} {E:Value} {p:Int} (hp:PlayAt w N g cb s) (hE:ErrIs w' E c p) (hx:c=0 → x=o) (hb:Below w.heap.size w w'):ObeyEnd N g cb s s c o w (.returned (.tuple #[strW x,E])) w':=by
 refine ⟨x,E,p,rfl,hE,hx,.ofBelow hb,?_⟩
 by_cases h:c=0
 · exact .inl ⟨h,hp.below hb⟩
 · exact .inr ⟨h,hp.below hb⟩
structure NameIs (ks:ByteArray) (lit:List UInt8) (b:Bool):Prop where
 t:(ks.toList == lit)=b
 u:(ks.toList == ByteArray.toList ⟨lit.toArray⟩)=b
theorem nameIs (name lit:List UInt8) (ks:ByteArray) (hk:⟨name.toArray⟩=ks) (b:Bool) (h:decide (name=lit)=b):NameIs ks lit b:=by
 have key:((⟨name.toArray⟩:ByteArray).toList == lit)=b:=by
  rw [ByteArray.toList_mk,← h]
  by_cases e:name=lit
  · rw [decide_eq_true e,e];simp
  · rw [decide_eq_false e];simpa using e
 subst hk
 exact ⟨key,by rw [ByteArray.toList_mk (l:=lit)];exact key⟩
section
variable (w0:World) (ad:Nat → Addr) (N g cb:Nat) (hS:Site w0 ad N g cb) (s:Scr) (w:World) (hw:Below w0.heap.size w0 w) (hp:PlayAt w N g cb s) (ho:ScrOk s)
theorem obeyWith_curve (w0:World) (ad:Nat → Addr) (N g cb:Nat) (hS:Site w0 ad N g cb) (s:Scr) (w:World) (hw:Below w0.heap.size w0 w) (hp:PlayAt w N g cb s) (ho:ScrOk s) (name:List UInt8) (wb:Nat) (ws:List (List UInt8)) (hl:LiesW w (some ⟨wb,0,none⟩) ws) (hs:ShortW ws) (h1:1 ≤ ws.length) (c:Int) (o:List UInt8) (s1:Scr) (hname:name=curveW) (hc:CurveTo s ws c s1) (hco:c=0 → o=okText) :
  Calls Tryz.prog 40 #[.pointer (some ⟨g,0,none⟩),strW name,.slice (some ⟨wb,0,none⟩) ws.length ws.length] w fun e w'=>ObeyEnd N g cb s s1 c o w e w':=by
 have HC:Hid (Calls Tryz.prog 73 #[.pointer (some ⟨g,0,none⟩),.slice (some ⟨wb,0,none⟩) ws.length ws.length] w fun e w'=>SetEnd N g cb s s1 c w e w'):=setCurve_is w0 ad N g cb hS s w hw hp ho wb ws hl hs h1 c s1 hc
 have HO:Hid (c=0 → o=okText):=hco
 obtain ⟨ks,hks⟩:∃ ks:ByteArray,⟨name.toArray⟩=ks:=⟨_,rfl⟩
 have hname':name=[99,117,114,118,101]:=hname
 have n0:=nameIs name [99,117,114,118,101] ks hks true (by rw [hname'];decide)
 obtain ⟨t0,u0⟩:=n0
 show Calls Tryz.prog 40 #[.pointer (some ⟨g,0,none⟩),.string ⟨name.toArray⟩,.slice (some ⟨wb,0,none⟩) ws.length ws.length] w fun e w'=>ObeyEnd N g cb s s1 c o w e w'
 rw [hks]
 obtain ⟨m,hm⟩:∃ m,ws.length=m:=⟨_,rfl⟩
 rw [hm] at HC ⊢
 clear hS hw hp ho hl hs hc hco hname hname' hks hm h1
 go_enter Tryz.func40,Tryz.ntmps40
 go_wp2_with fail
 refine HC.out.mono ?_
 rintro e w1 ⟨E,p,rfl,hE,hb,hend⟩
 by_cases h0:c=0
 ·
  obtain rfl:=hE.none_ h0
  have HE:Hid (ObeyEnd N g cb s s1 c o w (.returned (.tuple #[strW okText,.nilIface])) w1):=⟨okText,_,p,rfl,hE,fun h=>(HO.out h).symm,hb,hend⟩
  have HSd:Hid (Calls Tryz.prog 42 #[.nilIface] w1 fun e w'=>e=.returned (.tuple #[strW okText,.nilIface]) ∧ w'=w1):=sayDone_nil w1
  clear hE hb hend h0
  go_wp2_with fail
  refine HSd.out.mono ?_
  rintro e w2 ⟨rfl,rfl⟩
  go_wp2_with fail
  go_ret2
  exact HE.out
 ·
  obtain ⟨ty,v,rfl⟩:=hE.some_ h0
  have HE:Hid (ObeyEnd N g cb s s1 c o w (.returned (.tuple #[strW [],.iface ty v])) w1):=⟨[],_,p,rfl,hE,fun h=>absurd h h0,hb,hend⟩
  have HSd:Hid (Calls Tryz.prog 42 #[.iface ty v] w1 fun e w'=>e=.returned (.tuple #[strW [],.iface ty v]) ∧ w'=w1):=sayDone_err ty v w1
  clear hE hb hend h0
  go_wp2_with fail
  refine HSd.out.mono ?_
  rintro e w2 ⟨rfl,rfl⟩
  go_wp2_with fail
  go_ret2
  exact HE.out
theorem obeyWith_link (w0:World) (ad:Nat → Addr) (N g cb:Nat) (hS:Site w0 ad N g cb) (s:Scr) (w:World) (hw:Below w0.heap.size w0 w) (hp:PlayAt w N g cb s) (ho:ScrOk s) (name:List UInt8) (wb:Nat) (ws:List (List UInt8)) (hl:LiesW w (some ⟨wb,0,none⟩) ws) (hs:ShortW ws) (c:Int) (o:List UInt8) (s1:Scr) (hname:name=linkW) (hc:LinkTo s ws c s1) (hco:c=0 → o=okText) :
  Calls Tryz.prog 40 #[.pointer (some ⟨g,0,none⟩),strW name,.slice (some ⟨wb,0,none⟩) ws.length ws.length] w fun e w'=>ObeyEnd N g cb s s1 c o w e w':=by
 have HC:Hid (Calls Tryz.prog 74 #[.pointer (some ⟨g,0,none⟩),.slice (some ⟨wb,0,none⟩) ws.length ws.length] w fun e w'=>SetEnd N g cb s s1 c w e w'):=setLink_is w0 ad N g cb hS s w hw hp ho wb ws hl hs c s1 hc
 have HO:Hid (c=0 → o=okText):=hco
 obtain ⟨ks,hks⟩:∃ ks:ByteArray,⟨name.toArray⟩=ks:=⟨_,rfl⟩
 have hname':name=[108,105,110,107]:=hname
 have n0:=nameIs name [99,117,114,118,101] ks hks false (by rw [hname'];decide)
 have n1:=nameIs name [108,105,110,107] ks hks true (by rw [hname'];decide)
 obtain ⟨t0,u0⟩:=n0
 obtain ⟨t1,u1⟩:=n1
 show Calls Tryz.prog 40 #[.pointer (some ⟨g,0,none⟩),.string ⟨name.toArray⟩,.slice (some ⟨wb,0,none⟩) ws.length ws.length] w fun e w'=>ObeyEnd N g cb s s1 c o w e w'
 rw [hks]
 obtain ⟨m,hm⟩:∃ m,ws.length=m:=⟨_,rfl⟩
 rw [hm] at HC ⊢
 clear hS hw hp ho hl hs hc hco hname hname' hks hm
 go_enter Tryz.func40,Tryz.ntmps40
 go_wp2_with fail
 refine HC.out.mono ?_
 rintro e w1 ⟨E,p,rfl,hE,hb,hend⟩
 by_cases h0:c=0
 ·
  obtain rfl:=hE.none_ h0
  have HE:Hid (ObeyEnd N g cb s s1 c o w (.returned (.tuple #[strW okText,.nilIface])) w1):=⟨okText,_,p,rfl,hE,fun h=>(HO.out h).symm,hb,hend⟩
  have HSd:Hid (Calls Tryz.prog 42 #[.nilIface] w1 fun e w'=>e=.returned (.tuple #[strW okText,.nilIface]) ∧ w'=w1):=sayDone_nil w1
  clear hE hb hend h0
  go_wp2_with fail
  refine HSd.out.mono ?_
  rintro e w2 ⟨rfl,rfl⟩
  go_wp2_with fail
  go_ret2
  exact HE.out
 ·
  obtain ⟨ty,v,rfl⟩:=hE.some_ h0
  have HE:Hid (ObeyEnd N g cb s s1 c o w (.returned (.tuple #[strW [],.iface ty v])) w1):=⟨[],_,p,rfl,hE,fun h=>absurd h h0,hb,hend⟩
  have HSd:Hid (Calls Tryz.prog 42 #[.iface ty v] w1 fun e w'=>e=.returned (.tuple #[strW [],.iface ty v]) ∧ w'=w1):=sayDone_err ty v w1
  clear hE hb hend h0
  go_wp2_with fail
  refine HSd.out.mono ?_
  rintro e w2 ⟨rfl,rfl⟩
  go_wp2_with fail
  go_ret2
  exact HE.out
theorem obeyWith_numbers (w0:World) (ad:Nat → Addr) (N g cb:Nat) (hS:Site w0 ad N g cb) (s:Scr) (w:World) (hw:Below w0.heap.size w0 w) (hp:PlayAt w N g cb s) (ho:ScrOk s) (name:List UInt8) (wb:Nat) (ws:List (List UInt8)) (hl:LiesW w (some ⟨wb,0,none⟩) ws) (hs:ShortW ws) (c:Int) (o:List UInt8) (s1:Scr) (hname:name=numbersW) (hc:NumbersTo s ws c s1) (hco:c=0 → o=okText) :
  Calls Tryz.prog 40 #[.pointer (some ⟨g,0,none⟩),strW name,.slice (some ⟨wb,0,none⟩) ws.length ws.length] w fun e w'=>ObeyEnd N g cb s s1 c o w e w':=by
 have HC:Hid (Calls Tryz.prog 75 #[.pointer (some ⟨g,0,none⟩),.slice (some ⟨wb,0,none⟩) ws.length ws.length] w fun e w'=>SetEnd N g cb s s1 c w e w'):=setNumbers_is w0 ad N g cb hS s w hw hp ho wb ws hl hs c s1 hc
 have HO:Hid (c=0 → o=okText):=hco
 obtain ⟨ks,hks⟩:∃ ks:ByteArray,⟨name.toArray⟩=ks:=⟨_,rfl⟩
 have hname':name=[110,117,109,98,101,114,115]:=hname
 have n0:=nameIs name [99,117,114,118,101] ks hks false (by rw [hname'];decide)
 have n1:=nameIs name [108,105,110,107] ks hks false (by rw [hname'];decide)
 have n2:=nameIs name [110,117,109,98,101,114,115] ks hks true (by rw [hname'];decide)
 obtain ⟨t0,u0⟩:=n0
 obtain ⟨t1,u1⟩:=n1
 obtain ⟨t2,u2⟩:=n2
 show Calls Tryz.prog 40 #[.pointer (some ⟨g,0,none⟩),.string ⟨name.toArray⟩,.slice (some ⟨wb,0,none⟩) ws.length ws.length] w fun e w'=>ObeyEnd N g cb s s1 c o w e w'
 rw [hks]
 obtain ⟨m,hm⟩:∃ m,ws.length=m:=⟨_,rfl⟩
 rw [hm] at HC ⊢
 clear hS hw hp ho hl hs hc hco hname hname' hks hm
 go_enter Tryz.func40,Tryz.ntmps40
 go_wp2_with fail
 refine HC.out.mono ?_
 rintro e w1 ⟨E,p,rfl,hE,hb,hend⟩
 by_cases h0:c=0
 ·
  obtain rfl:=hE.none_ h0
  have HE:Hid (ObeyEnd N g cb s s1 c o w (.returned (.tuple #[strW okText,.nilIface])) w1):=⟨okText,_,p,rfl,hE,fun h=>(HO.out h).symm,hb,hend⟩
  have HSd:Hid (Calls Tryz.prog 42 #[.nilIface] w1 fun e w'=>e=.returned (.tuple #[strW okText,.nilIface]) ∧ w'=w1):=sayDone_nil w1
  clear hE hb hend h0
  go_wp2_with fail
  refine HSd.out.mono ?_
  rintro e w2 ⟨rfl,rfl⟩
  go_wp2_with fail
  go_ret2
  exact HE.out
 ·
  obtain ⟨ty,v,rfl⟩:=hE.some_ h0
  have HE:Hid (ObeyEnd N g cb s s1 c o w (.returned (.tuple #[strW [],.iface ty v])) w1):=⟨[],_,p,rfl,hE,fun h=>absurd h h0,hb,hend⟩
  have HSd:Hid (Calls Tryz.prog 42 #[.iface ty v] w1 fun e w'=>e=.returned (.tuple #[strW [],.iface ty v]) ∧ w'=w1):=sayDone_err ty v w1
  clear hE hb hend h0
  go_wp2_with fail
  refine HSd.out.mono ?_
  rintro e w2 ⟨rfl,rfl⟩
  go_wp2_with fail
  go_ret2
  exact HE.out
theorem obeyWith_packet (w0:World) (ad:Nat → Addr) (N g cb:Nat) (hS:Site w0 ad N g cb) (s:Scr) (w:World) (hw:Below w0.heap.size w0 w) (hp:PlayAt w N g cb s) (ho:ScrOk s) (name:List UInt8) (wb:Nat) (ws:List (List UInt8)) (hl:LiesW w (some ⟨wb,0,none⟩) ws) (hs:ShortW ws) (c:Int) (o:List UInt8) (s1:Scr) (hname:name=packetW) (hc:PacketTo s ws c s1) (hco:c=0 → o=okText) :
  Calls Tryz.prog 40 #[.pointer (some ⟨g,0,none⟩),strW name,.slice (some ⟨wb,0,none⟩) ws.length ws.length] w fun e w'=>ObeyEnd N g cb s s1 c o w e w':=by
 have HC:Hid (Calls Tryz.prog 76 #[.pointer (some ⟨g,0,none⟩),.slice (some ⟨wb,0,none⟩) ws.length ws.length] w fun e w'=>SetEnd N g cb s s1 c w e w'):=addPacket_is w0 ad N g cb hS s w hw hp ho wb ws hl hs c s1 hc
 have HO:Hid (c=0 → o=okText):=hco
 obtain ⟨ks,hks⟩:∃ ks:ByteArray,⟨name.toArray⟩=ks:=⟨_,rfl⟩
 have hname':name=[112,97,99,107,101,116]:=hname
 have n0:=nameIs name [99,117,114,118,101] ks hks false (by rw [hname'];decide)
 have n1:=nameIs name [108,105,110,107] ks hks false (by rw [hname'];decide)
 have n2:=nameIs name [110,117,109,98,101,114,115] ks hks false (by rw [hname'];decide)
 have n3:=nameIs name [112,97,99,107,101,116] ks hks true (by rw [hname'];decide)
 obtain ⟨t0,u0⟩:=n0
 obtain ⟨t1,u1⟩:=n1
 obtain ⟨t2,u2⟩:=n2
 obtain ⟨t3,u3⟩:=n3
 show Calls Tryz.prog 40 #[.pointer (some ⟨g,0,none⟩),.string ⟨name.toArray⟩,.slice (some ⟨wb,0,none⟩) ws.length ws.length] w fun e w'=>ObeyEnd N g cb s s1 c o w e w'
 rw [hks]
 obtain ⟨m,hm⟩:∃ m,ws.length=m:=⟨_,rfl⟩
 rw [hm] at HC ⊢
 clear hS hw hp ho hl hs hc hco hname hname' hks hm
 go_enter Tryz.func40,Tryz.ntmps40
 go_wp2_with fail
 refine HC.out.mono ?_
 rintro e w1 ⟨E,p,rfl,hE,hb,hend⟩
 by_cases h0:c=0
 ·
  obtain rfl:=hE.none_ h0
  have HE:Hid (ObeyEnd N g cb s s1 c o w (.returned (.tuple #[strW okText,.nilIface])) w1):=⟨okText,_,p,rfl,hE,fun h=>(HO.out h).symm,hb,hend⟩
  have HSd:Hid (Calls Tryz.prog 42 #[.nilIface] w1 fun e w'=>e=.returned (.tuple #[strW okText,.nilIface]) ∧ w'=w1):=sayDone_nil w1
  clear hE hb hend h0
  go_wp2_with fail
  refine HSd.out.mono ?_
  rintro e w2 ⟨rfl,rfl⟩
  go_wp2_with fail
  go_ret2
  exact HE.out
 ·
  obtain ⟨ty,v,rfl⟩:=hE.some_ h0
  have HE:Hid (ObeyEnd N g cb s s1 c o w (.returned (.tuple #[strW [],.iface ty v])) w1):=⟨[],_,p,rfl,hE,fun h=>absurd h h0,hb,hend⟩
  have HSd:Hid (Calls Tryz.prog 42 #[.iface ty v] w1 fun e w'=>e=.returned (.tuple #[strW [],.iface ty v]) ∧ w'=w1):=sayDone_err ty v w1
  clear hE hb hend h0
  go_wp2_with fail
  refine HSd.out.mono ?_
  rintro e w2 ⟨rfl,rfl⟩
  go_wp2_with fail
  go_ret2
  exact HE.out
theorem obeyWith_at (w0:World) (ad:Nat → Addr) (N g cb:Nat) (hS:Site w0 ad N g cb) (s:Scr) (w:World) (hw:Below w0.heap.size w0 w) (hp:PlayAt w N g cb s) (ho:ScrOk s) (name:List UInt8) (wb:Nat) (ws:List (List UInt8)) (hl:LiesW w (some ⟨wb,0,none⟩) ws) (hs:ShortW ws) (c n:Int) (o:List UInt8) (hname:name=atW) (hc:AtTo s ws c n) (hn:c=0 → -9223372036854775808 ≤ n ∧ n ≤ 9223372036854775807) (hco:c=0 → o=Go.Lib.itoa n) :
  Calls Tryz.prog 40 #[.pointer (some ⟨g,0,none⟩),strW name,.slice (some ⟨wb,0,none⟩) ws.length ws.length] w fun e w'=>ObeyEnd N g cb s s c o w e w':=by
 have HC:Hid (Calls Tryz.prog 77 #[.pointer (some ⟨g,0,none⟩),.slice (some ⟨wb,0,none⟩) ws.length ws.length] w fun e w'=>TellEnd c n w e w'):=playAt_is w0 ad N g cb hS s w hw hp ho wb ws hl hs c n hc
 have HO:Hid (c=0 → o=Go.Lib.itoa n):=hco
 have HRg:Hid (c=0 → -9223372036854775808 ≤ n ∧ n ≤ 9223372036854775807):=hn
 have HP:Hid (PlayAt w N g cb s):=hp
 have HEn:Hid (Env w ad):=hS.env.below hw
 obtain ⟨ks,hks⟩:∃ ks:ByteArray,⟨name.toArray⟩=ks:=⟨_,rfl⟩
 have hname':name=[97,116]:=hname
 have n0:=nameIs name [99,117,114,118,101] ks hks false (by rw [hname'];decide)
 have n1:=nameIs name [108,105,110,107] ks hks false (by rw [hname'];decide)
 have n2:=nameIs name [110,117,109,98,101,114,115] ks hks false (by rw [hname'];decide)
 have n3:=nameIs name [112,97,99,107,101,116] ks hks false (by rw [hname'];decide)
 have n4:=nameIs name [97,116] ks hks true (by rw [hname'];decide)
 obtain ⟨t0,u0⟩:=n0
 obtain ⟨t1,u1⟩:=n1
 obtain ⟨t2,u2⟩:=n2
 obtain ⟨t3,u3⟩:=n3
 obtain ⟨t4,u4⟩:=n4
 show Calls Tryz.prog 40 #[.pointer (some ⟨g,0,none⟩),.string ⟨name.toArray⟩,.slice (some ⟨wb,0,none⟩) ws.length ws.length] w fun e w'=>ObeyEnd N g cb s s c o w e w'
 rw [hks]
 obtain ⟨m,hm⟩:∃ m,ws.length=m:=⟨_,rfl⟩
 rw [hm] at HC ⊢
 clear hS hw hp ho hl hs hc hco hn hname hname' hks hm
 go_enter Tryz.func40,Tryz.ntmps40
 go_wp2_with fail
 refine HC.out.mono ?_
 rintro e w1 ⟨z,E,p,rfl,hE,hz,hb⟩
 by_cases h0:c=0
 ·
  obtain rfl:=hE.none_ h0
  have HSd:Hid (Calls Tryz.prog 45 #[.int .i64 z,.nilIface] w1 fun e w'=>e=.returned (.tuple #[strW (Go.Lib.itoa z),.nilIface]) ∧ Below w1.heap.size w1 w'):=sayNumber_nil z w1 (HEn.out.below hb).itoa (by rw [hz h0];exact (HRg.out h0).1) (by rw [hz h0];exact (HRg.out h0).2)
  have HE:Hid (∀ W,Below w1.heap.size w1 W → ObeyEnd N g cb s s c o w (.returned (.tuple #[strW (Go.Lib.itoa z),.nilIface])) W):=fun W hW=>obey_of_tell HP.out (p:=p) (hE.below hW) (fun h=>by rw [HO.out h,hz h]) (hb.trans (hW.mono hb.size))
  clear hE hb hz h0
  go_wp2_with fail
  refine HSd.out.mono ?_
  rintro e w2 ⟨rfl,hb2⟩
  have HEe:=(show Hid (ObeyEnd N g cb s s c o w (.returned (.tuple #[strW (Go.Lib.itoa z),.nilIface])) w2) from HE.out w2 hb2)
  clear hb2 HE
  go_wp2_with fail
  go_ret2
  exact HEe.out
 ·
  obtain ⟨ty,v,rfl⟩:=hE.some_ h0
  have HSd:Hid (Calls Tryz.prog 45 #[.int .i64 z,.iface ty v] w1 fun e w'=>e=.returned (.tuple #[strW [],.iface ty v]) ∧ w'=w1):=sayNumber_err z ty v w1
  have HE:Hid (ObeyEnd N g cb s s c o w (.returned (.tuple #[strW [],.iface ty v])) w1):=obey_of_tell HP.out hE (fun h=>absurd h h0) hb
  clear hE hb hz h0
  go_wp2_with fail
  refine HSd.out.mono ?_
  rintro e w2 ⟨rfl,rfl⟩
  go_wp2_with fail
  go_ret2
  exact HE.out
theorem obeyWith_text (w0:World) (ad:Nat → Addr) (N g cb:Nat) (hS:Site w0 ad N g cb) (s:Scr) (w:World) (hw:Below w0.heap.size w0 w) (hp:PlayAt w N g cb s) (name:List UInt8) (wb m:Nat) (c:Int) (o:List UInt8) (s1:Scr) (h:name ≠ curveW ∧ name ≠ linkW ∧ name ≠ numbersW ∧ name ≠ packetW ∧ name ≠ atW) (hc:c=1) :
  Calls Tryz.prog 40 #[.pointer (some ⟨g,0,none⟩),strW name,.slice (some ⟨wb,0,none⟩) m m] w fun e w'=>ObeyEnd N g cb s s1 c o w e w':=by
 have he:=hS.env.below hw
 have HE:Hid (∀ q,ObeyEnd N g cb s s1 c o w (.returned (.tuple #[strW [],.iface 312 (.pointer (some (ad 0)))])) (w.drewN q)):=fun q=>by
  subst hc
  have hb:=below_drewN (Below.refl w.heap.size w) q
  exact ⟨[],_,-1,rfl,errIs_sent (he.below hb).errs 0 (by decide),(fun h=>by cases h),.ofBelow hb,.inr ⟨by decide,hp.below hb⟩⟩
 have c0:=he.errs.c0
 obtain ⟨ks,hks⟩:∃ ks:ByteArray,⟨name.toArray⟩=ks:=⟨_,rfl⟩
 have n0:=nameIs name [99,117,114,118,101] ks hks false (decide_eq_false h.1)
 have n1:=nameIs name [108,105,110,107] ks hks false (decide_eq_false h.2.1)
 have n2:=nameIs name [110,117,109,98,101,114,115] ks hks false (decide_eq_false h.2.2.1)
 have n3:=nameIs name [112,97,99,107,101,116] ks hks false (decide_eq_false h.2.2.2.1)
 have n4:=nameIs name [97,116] ks hks false (decide_eq_false h.2.2.2.2)
 obtain ⟨t0,u0⟩:=n0
 obtain ⟨t1,u1⟩:=n1
 obtain ⟨t2,u2⟩:=n2
 obtain ⟨t3,u3⟩:=n3
 obtain ⟨t4,u4⟩:=n4
 show Calls Tryz.prog 40 #[.pointer (some ⟨g,0,none⟩),.string ⟨name.toArray⟩,.slice (some ⟨wb,0,none⟩) m m] w fun e w'=>ObeyEnd N g cb s s1 c o w e w'
 rw [hks]
 clear hS hw hp h hc hks he
 go_enter Tryz.func40,Tryz.ntmps40
 go_wp2_with fail
 go_quiet (fail)
 go_wp2_with fail
 go_ret2
 exact HE.out nq
end
theorem boundIs_one {s:Scr} (ho:ScrOk s) {k:Nat} {o o':Option Int} (h:BoundIs SumRel DelayBy BusyBy s.cs k s.per o) (h':BoundIs SumRel DelayBy BusyBy s.cs k s.per o'):o=o':=by
 have hc:=ho.gate.curves.ok
 rcases h with ⟨hn,rfl⟩ | ⟨L,hL,hd⟩
 · exact (boundIs_none sumWay hc h' hn).symm
 ·
  have hd':=boundIs_all sumWay hc h' hL
  have hokL:okCurve L:=by
   obtain ⟨h0,q,-,hq8,hq,-⟩:=hL
   exact addTo_ok sumWay hc h0 q L hq8 hq
  rcases hd with ⟨hk,hd⟩ | ⟨hk,hd⟩
  ·
   rcases hd' with ⟨-,hd'⟩ | ⟨hk',-⟩
   · exact boundWalks.delay1 s.per L o o' hokL ho.gate.per.1 ho.gate.per.2 hd hd'
   · exact absurd hk hk'
  ·
   rcases hd' with ⟨hk',-⟩ | ⟨-,hd'⟩
   · exact absurd hk' hk
   · exact boundWalks.busy1 s.per L o o' hokL ho.gate.per.1 ho.gate.per.2 hd hd'
section
variable (w0:World) (ad:Nat → Addr) (N g cb:Nat) (hS:Site w0 ad N g cb) (s:Scr) (w:World) (hw:Below w0.heap.size w0 w) (hp:PlayAt w N g cb s) (ho:ScrOk s)
theorem gateBound_any (w0:World) (ad:Nat → Addr) (N g cb:Nat) (hS:Site w0 ad N g cb) (s:Scr) (w:World) (hw:Below w0.heap.size w0 w) (ho:ScrOk s) (na:Option Addr) (ncap:Nat) (pv:Value) (hpi:PlayIn w N g cb na ncap pv s) (c n:Int) (hc:BoundTo s c n) :
  Calls Tryz.prog 46 #[.agg #[.slice (some ⟨cb,0,none⟩) 8 8,strW s.kb,.int .i64 s.per,.slice na s.ns.length ncap]] w fun e w'=>TellEnd c n w e w':=by
 have he:=hS.env.below hw
 have hg:=hpi.gate ho.gate.len (slim_of ho (ns:=s.ns) (by rcases ho.gate.nums.len with h | h;rw [h.2];decide;omega))
 have:=boundWalks.good (some ⟨cb,0,none⟩) 8 s.cs ⟨s.kb.toArray⟩ s.per na ncap s.ns w ad he.errs hg (by rw [ByteArray.toList_mk];exact ho.gate)
 rw [ho.gate.len] at this
 refine this.mono ?_
 rintro e w' ⟨o,hb,hbel,hend⟩
 rw [ByteArray.toList_mk] at hb
 obtain ⟨o',hb',hco⟩:=hc
 have eo:o=o':=boundIs_one ho hb hb'
 subst eo
 rcases hend with ⟨h1,E,rfl,hE⟩ | ⟨m,h1,rfl⟩
 ·
  rcases hco with ⟨-,rfl⟩ | ⟨h2,-⟩
  · exact ⟨0,E,-1,rfl,hE,(fun h=>by cases h),hbel⟩
  · rw [h1] at h2;cases h2
 ·
  rcases hco with ⟨h2,-⟩ | ⟨h2,rfl⟩
  · rw [h1] at h2;cases h2
  ·
   rw [h1] at h2
   obtain rfl:=Option.some.inj h2
   exact ⟨_,_,-1,rfl,errIs_nil _,fun _=>rfl,hbel⟩
theorem cutAt (w0:World) (ad:Nat → Addr) (N g cb:Nat) (hS:Site w0 ad N g cb) (s:Scr) (w:World) (hw:Below w0.heap.size w0 w) (hp:PlayAt w N g cb s) (x:List UInt8) (hs:x.length ≤ 1000) (nm rest:List UInt8) (b:Bool) (hcut:Go.Lib.cut x [32]=(nm,rest,b)) :
  Calls Tryz.prog 39 #[strW x,.string ⟨#[32]⟩] w fun e w'=>e=.returned (.tuple #[strW nm,strW rest,.bool b]) ∧ Below w.heap.size w w' ∧ PlayAt w' N g cb s ∧ Below w0.heap.size w0 w':=by
 refine (cut_is x w ad (hS.env.below hw) hs).mono ?_
 rintro e w' ⟨rfl,n,rfl⟩
 rw [hcut]
 have hb:=below_drewN (Below.refl w.heap.size w) n
 exact ⟨rfl,hb,hp.below hb,hw.trans (hb.mono hw.size)⟩
theorem obey_words (w0:World) (ad:Nat → Addr) (N g cb:Nat) (hS:Site w0 ad N g cb) (s:Scr) (w:World) (hw:Below w0.heap.size w0 w) (hp:PlayAt w N g cb s) (x:List UInt8) (hs:x.length ≤ 1000) (nm rest:List UInt8) (hcut:Go.Lib.cut x [32]=(nm,rest,true)) (hr:rest.length ≤ 1000) (c:Int) (o:List UInt8) (s1:Scr)
  (hW:∀ W wb,Below w.heap.size w W → LiesW W (some ⟨wb,0,none⟩) (Go.Lib.split rest [32]) → Calls Tryz.prog 40 #[.pointer (some ⟨g,0,none⟩),strW nm,.slice (some ⟨wb,0,none⟩) (Go.Lib.split rest [32]).length (Go.Lib.split rest [32]).length] W fun e w'=>ObeyEnd N g cb s s1 c o W e w') :
  Calls Tryz.prog 26 #[.pointer (some ⟨g,0,none⟩),strW x] w fun e w'=>ObeyEnd N g cb s s1 c o w e w':=by
 have HC:Hid (Calls Tryz.prog 39 #[strW x,.string ⟨#[32]⟩] w fun e w'=>e=.returned (.tuple #[strW nm,strW rest,.bool true]) ∧ Below w.heap.size w w' ∧ PlayAt w' N g cb s ∧ Below w0.heap.size w0 w'):=cutAt w0 ad N g cb hS s w hw hp x hs nm rest true hcut
 have HSp:Hid (∀ W,Below w0.heap.size w0 W → Calls Tryz.prog 41 #[strW rest,.string ⟨#[32]⟩] W fun e w'=>e=.returned (.slice (some ⟨W.heap.size,0,none⟩) (Go.Lib.split rest [32]).length (Go.Lib.split rest [32]).length) ∧ LiesW w' (some ⟨W.heap.size,0,none⟩) (Go.Lib.split rest [32]) ∧ Below W.heap.size W w'):=fun W h=>split_is rest W ad (hS.env.below h) hr
 have HW:Hid (∀ W wb,Below w.heap.size w W → LiesW W (some ⟨wb,0,none⟩) (Go.Lib.split rest [32]) → Calls Tryz.prog 40 #[.pointer (some ⟨g,0,none⟩),strW nm,.slice (some ⟨wb,0,none⟩) (Go.Lib.split rest [32]).length (Go.Lib.split rest [32]).length] W fun e w'=>ObeyEnd N g cb s s1 c o W e w'):=hW
 obtain ⟨m,hm⟩:∃ m,(Go.Lib.split rest [32]).length=m:=⟨_,rfl⟩
 rw [hm] at HSp HW
 clear hS hw hp hs hcut hr hW hm
 go_enter Tryz.func26,Tryz.ntmps26
 go_wp2_with fail
 refine HC.out.mono ?_
 rintro e w1 ⟨rfl,hb1,hp1,hw1⟩
 have HB1:Hid (Below w.heap.size w w1):=hb1
 have HSq:Hid (Calls Tryz.prog 41 #[strW rest,.string ⟨#[32]⟩] w1 fun e w'=>e=.returned (.slice (some ⟨w1.heap.size,0,none⟩) m m) ∧ LiesW w' (some ⟨w1.heap.size,0,none⟩) (Go.Lib.split rest [32]) ∧ Below w1.heap.size w1 w'):=HSp.out w1 hw1
 clear hb1 hp1 hw1
 go_wp2_with fail
 refine HSq.out.mono ?_
 rintro e w2 ⟨rfl,hl2,hb2⟩
 have hb:=HB1.out.trans (hb2.mono HB1.out.size)
 have HOb:Hid (Calls Tryz.prog 40 #[.pointer (some ⟨g,0,none⟩),strW nm,.slice (some ⟨w1.heap.size,0,none⟩) m m] w2 fun e w'=>ObeyEnd N g cb s s1 c o w e w'):=(HW.out w2 w1.heap.size hb hl2).mono fun e w' ⟨x,E,p,h1,h2,h3,h4,h5⟩=>⟨x,E,p,h1,h2,h3,(But.ofBelow hb).trans h4,h5⟩
 clear hl2 hb2 hb
 go_wp2_with fail
 refine HOb.out.mono ?_
 rintro e w3 ⟨x,E,p,rfl,h2⟩
 have HE:Hid (ObeyEnd N g cb s s1 c o w (.returned (.tuple #[strW x,E])) w3):=⟨x,E,p,rfl,h2⟩
 clear h2
 go_wp2_with fail
 go_ret2
 exact HE.out
theorem obey_clear (w0:World) (ad:Nat → Addr) (N g cb:Nat) (hS:Site w0 ad N g cb) (s:Scr) (w:World) (hw:Below w0.heap.size w0 w) (hp:PlayAt w N g cb s) (x:List UInt8) (hs:x.length ≤ 1000) (name rest:List UInt8) (hcut:Go.Lib.cut x [32]=(name,rest,false)) (c:Int) (o:List UInt8) (s1:Scr) (hname:name=clearW) (h0:c=0) (hco:o=okText) (h1:s1={ s with ps:=[] }) :
  Calls Tryz.prog 26 #[.pointer (some ⟨g,0,none⟩),strW x] w fun e w'=>ObeyEnd N g cb s s1 c o w e w':=by
 have hname':name=[99,108,101,97,114]:=hname
 have HC:Hid (Calls Tryz.prog 39 #[strW x,.string ⟨#[32]⟩] w fun e w'=>e=.returned (.tuple #[strW name,strW rest,.bool false]) ∧ Below w.heap.size w w' ∧ PlayAt w' N g cb s ∧ Below w0.heap.size w0 w'):=cutAt w0 ad N g cb hS s w hw hp x hs name rest false hcut
 obtain ⟨ks,hks⟩:∃ ks:ByteArray,⟨name.toArray⟩=ks:=⟨_,rfl⟩
 have n0:=nameIs name [99,108,101,97,114] ks hks true (by rw [hname'];decide)
 obtain ⟨t0,u0⟩:=n0
 have hcs:∀ r:List UInt8,(Value.tuple #[strW name,strW r,.bool false])=.tuple #[.string ks,strW r,.bool false]:=fun r=>by rw [← hks]
 rw [hcs] at HC
 have HF:Hid (c=0 ∧ o=okText ∧ s1={ s with ps:=[] }):=⟨h0,hco,h1⟩
 clear hS hw hp hs hcut hks hcs hname hname' h0 hco h1
 go_enter Tryz.func26,Tryz.ntmps26
 go_wp2_with fail
 refine HC.out.mono ?_
 rintro e w1 ⟨rfl,hb1,hp1,hw1⟩
 obtain ⟨na,nc,pv,hpi⟩:=hp1
 obtain ⟨k1,k2⟩:=hpi.setPks (pv':=.slice none 0 0) (ps:=[]) (But.refl _ w1) (World.ownsRow_nil _ _ _ _) (fun k hk=>by cases hk) (w':=w1.setCell ⟨g,4,none⟩ (.slice none 0 0)) rfl
 have HE:Hid (ObeyEnd N g cb s s1 c o w (.returned (.tuple #[strW okText,.nilIface])) (w1.setCell ⟨g,4,none⟩ (.slice none 0 0))):=by
  obtain ⟨q0,q1,q2⟩:=HF.out
  rw [q0,q1,q2]
  exact ⟨okText,.nilIface,-1,rfl,errIs_nil _,fun _=>rfl,(But.ofBelow hb1).trans k2,.inl ⟨rfl,na,nc,_,k1⟩⟩
 have HSd:Hid (Calls Tryz.prog 42 #[.nilIface] (w1.setCell ⟨g,4,none⟩ (.slice none 0 0)) fun e w'=>e=.returned (.tuple #[strW okText,.nilIface]) ∧ w'=w1.setCell ⟨g,4,none⟩ (.slice none 0 0)):=sayDone_nil _
 have y4:=hpi.c4
 have f4:=hpi.fg 4
 clear hb1 hw1 hpi k1 k2
 go_wp2_with fail
 refine HSd.out.mono ?_
 rintro e w2 ⟨rfl,rfl⟩
 go_wp2_with fail
 go_ret2
 exact HE.out
theorem obey_run (w0:World) (ad:Nat → Addr) (N g cb:Nat) (hS:Site w0 ad N g cb) (s:Scr) (w:World) (hw:Below w0.heap.size w0 w) (hp:PlayAt w N g cb s) (ho:ScrOk s) (x:List UInt8) (hs:x.length ≤ 1000) (name rest:List UInt8) (hcut:Go.Lib.cut x [32]=(name,rest,false)) (c:Int) (o:List UInt8) (hname:name=runW) (l:List Sn) (hc:RunTo s c l) (hi:c=0 → InInts l ∧ l.length ≤ 1000) (hco:c=0 → o=sentText l) :
  Calls Tryz.prog 26 #[.pointer (some ⟨g,0,none⟩),strW x] w fun e w'=>ObeyEnd N g cb s s c o w e w':=by
 have hname':name=[114,117,110]:=hname
 have HC:Hid (Calls Tryz.prog 39 #[strW x,.string ⟨#[32]⟩] w fun e w'=>e=.returned (.tuple #[strW name,strW rest,.bool false]) ∧ Below w.heap.size w w' ∧ PlayAt w' N g cb s ∧ Below w0.heap.size w0 w'):=cutAt w0 ad N g cb hS s w hw hp x hs name rest false hcut
 obtain ⟨ks,hks⟩:∃ ks:ByteArray,⟨name.toArray⟩=ks:=⟨_,rfl⟩
 have n0:=nameIs name [99,108,101,97,114] ks hks false (by rw [hname'];decide)
 have n1:=nameIs name [114,117,110] ks hks true (by rw [hname'];decide)
 obtain ⟨t0,u0⟩:=n0
 obtain ⟨t1,u1⟩:=n1
 have hcs:∀ r:List UInt8,(Value.tuple #[strW name,strW r,.bool false])=.tuple #[.string ks,strW r,.bool false]:=fun r=>by rw [← hks]
 rw [hcs] at HC
 have HF:Hid ((c=0 → o=sentText l) ∧ (c=0 → InInts l ∧ l.length ≤ 1000)):=⟨hco,hi⟩
 have HEn:Hid (Env w ad):=hS.env.below hw
 have HP:Hid (PlayAt w N g cb s):=hp
 have HR:Hid (∀ W,Below w0.heap.size w0 W → PlayAt W N g cb s → Calls Tryz.prog 44 #[.pointer (some ⟨g,0,none⟩)] W fun e w'=>SentEnd c l W e w'):=fun W h1 h2=>playRun_is w0 ad N g cb hS s W h1 h2 ho c l hc
 clear hS hw hp ho hs hcut hks hcs hname hname' hco hi hc
 go_enter Tryz.func26,Tryz.ntmps26
 go_wp2_with fail
 refine HC.out.mono ?_
 rintro e w1 ⟨rfl,hb1,hp1,hw1⟩
 have HRr:Hid (Calls Tryz.prog 44 #[.pointer (some ⟨g,0,none⟩)] w1 fun e w'=>SentEnd c l w1 e w'):=HR.out w1 hw1 hp1
 have HB1:Hid (Below w.heap.size w w1):=hb1
 clear hb1 hp1 hw1 HR
 go_wp2_with fail
 refine HRr.out.mono ?_
 rintro e w2 ⟨la,n,lcap,E,p,rfl,hE,hl,hb2⟩
 have hb:=HB1.out.trans (hb2.mono HB1.out.size)
 by_cases h0:c=0
 ·
  obtain rfl:=hE.none_ h0
  obtain ⟨e1,e2⟩:=hl h0
  have HE:Hid (∀ W,Below w2.heap.size w2 W → ObeyEnd N g cb s s c o w (.returned (.tuple #[strW (sentText l),.nilIface])) W):=fun W hW=>obey_of_tell HP.out (p:=p) (hE.below hW) (fun h=>(HF.out.1 h).symm) (hb.trans (hW.mono hb.size))
  have HSs:Hid (Calls Tryz.prog 43 #[.slice la n lcap,.nilIface] w2 fun e w'=>e=.returned (.tuple #[strW (sentText l),.nilIface]) ∧ Below w2.heap.size w2 w'):=by
   rw [e1]
   unfold sentText
   by_cases hz:l=[]
   ·
    subst hz
    refine (saySent_none la lcap w2).mono ?_
    rintro e w' ⟨rfl,rfl⟩
    exact ⟨rfl,Below.refl _ _⟩
   ·
    rw [if_neg hz]
    have:=List.length_pos_iff.2 hz
    exact saySent_is la lcap l w2 e2.sent (by omega) (HF.out.2 h0).2 (HEn.out.below hb).itoa (HF.out.2 h0).1
  clear hE hl hb2 hb h0 e1 e2
  go_wp2_with fail
  refine HSs.out.mono ?_
  rintro e w3 ⟨rfl,hb3⟩
  have HEe:=(show Hid (ObeyEnd N g cb s s c o w (.returned (.tuple #[strW (sentText l),.nilIface])) w3) from HE.out w3 hb3)
  clear hb3 HE
  go_wp2_with fail
  go_ret2
  exact HEe.out
 ·
  obtain ⟨ty,v,rfl⟩:=hE.some_ h0
  have HE:Hid (ObeyEnd N g cb s s c o w (.returned (.tuple #[strW [],.iface ty v])) w2):=obey_of_tell HP.out hE (fun h=>absurd h h0) hb
  have HSs:Hid (Calls Tryz.prog 43 #[.slice la n lcap,.iface ty v] w2 fun e w'=>e=.returned (.tuple #[strW [],.iface ty v]) ∧ w'=w2):=saySent_err la n lcap ty v w2
  clear hE hl hb2 hb h0
  go_wp2_with fail
  refine HSs.out.mono ?_
  rintro e w3 ⟨rfl,rfl⟩
  go_wp2_with fail
  go_ret2
  exact HE.out
theorem obey_worst (w0:World) (ad:Nat → Addr) (N g cb:Nat) (hS:Site w0 ad N g cb) (s:Scr) (w:World) (hw:Below w0.heap.size w0 w) (hp:PlayAt w N g cb s) (ho:ScrOk s) (x:List UInt8) (hs:x.length ≤ 1000) (name rest:List UInt8) (hcut:Go.Lib.cut x [32]=(name,rest,false)) (c n:Int) (o:List UInt8) (hname:name=worstW) (hc:WorstTo s c n) (hn:c=0 → -9223372036854775808 ≤ n ∧ n ≤ 9223372036854775807) (hco:c=0 → o=Go.Lib.itoa n) :
  Calls Tryz.prog 26 #[.pointer (some ⟨g,0,none⟩),strW x] w fun e w'=>ObeyEnd N g cb s s c o w e w':=by
 have hname':name=[119,111,114,115,116]:=hname
 have HC:Hid (Calls Tryz.prog 39 #[strW x,.string ⟨#[32]⟩] w fun e w'=>e=.returned (.tuple #[strW name,strW rest,.bool false]) ∧ Below w.heap.size w w' ∧ PlayAt w' N g cb s ∧ Below w0.heap.size w0 w'):=cutAt w0 ad N g cb hS s w hw hp x hs name rest false hcut
 obtain ⟨ks,hks⟩:∃ ks:ByteArray,⟨name.toArray⟩=ks:=⟨_,rfl⟩
 have n0:=nameIs name [99,108,101,97,114] ks hks false (by rw [hname'];decide)
 have n1:=nameIs name [114,117,110] ks hks false (by rw [hname'];decide)
 have n2:=nameIs name [98,111,117,110,100] ks hks false (by rw [hname'];decide)
 have n3:=nameIs name [119,111,114,115,116] ks hks true (by rw [hname'];decide)
 obtain ⟨t0,u0⟩:=n0
 obtain ⟨t1,u1⟩:=n1
 obtain ⟨t2,u2⟩:=n2
 obtain ⟨t3,u3⟩:=n3
 have hcs:∀ r:List UInt8,(Value.tuple #[strW name,strW r,.bool false])=.tuple #[.string ks,strW r,.bool false]:=fun r=>by rw [← hks]
 rw [hcs] at HC
 have HO:Hid (c=0 → o=Go.Lib.itoa n):=hco
 have HRg:Hid (c=0 → -9223372036854775808 ≤ n ∧ n ≤ 9223372036854775807):=hn
 have HEn:Hid (Env w ad):=hS.env.below hw
 have HP:Hid (PlayAt w N g cb s):=hp
 have HR:Hid (∀ W,Below w0.heap.size w0 W → PlayAt W N g cb s → Calls Tryz.prog 47 #[.pointer (some ⟨g,0,none⟩)] W fun e w'=>TellEnd c n W e w'):=fun W h1 h2=>playWorst_is w0 ad N g cb hS s W h1 h2 ho c n hc
 clear hS hw hp ho hs hcut hks hcs hname hname' hco hn hc
 go_enter Tryz.func26,Tryz.ntmps26
 go_wp2_with fail
 refine HC.out.mono ?_
 rintro e w1 ⟨rfl,hb1,hp1,hw1⟩
 have HRr:Hid (Calls Tryz.prog 47 #[.pointer (some ⟨g,0,none⟩)] w1 fun e w'=>TellEnd c n w1 e w'):=HR.out w1 hw1 hp1
 have HB1:Hid (Below w.heap.size w w1):=hb1
 clear hb1 hp1 hw1 HR
 go_wp2_with fail
 refine HRr.out.mono ?_
 rintro e w2 ⟨z,E,p,rfl,hE,hz,hb2⟩
 have hb:=HB1.out.trans (hb2.mono HB1.out.size)
 clear hb2
 by_cases h0:c=0
 ·
  obtain rfl:=hE.none_ h0
  have HSd:Hid (Calls Tryz.prog 45 #[.int .i64 z,.nilIface] w2 fun e w'=>e=.returned (.tuple #[strW (Go.Lib.itoa z),.nilIface]) ∧ Below w2.heap.size w2 w'):=sayNumber_nil z w2 (HEn.out.below hb).itoa (by rw [hz h0];exact (HRg.out h0).1) (by rw [hz h0];exact (HRg.out h0).2)
  have HE:Hid (∀ W,Below w2.heap.size w2 W → ObeyEnd N g cb s s c o w (.returned (.tuple #[strW (Go.Lib.itoa z),.nilIface])) W):=fun W hW=>obey_of_tell HP.out (p:=p) (hE.below hW) (fun h=>by rw [HO.out h,hz h]) (hb.trans (hW.mono hb.size))
  clear hE hb hz h0
  go_wp2_with fail
  refine HSd.out.mono ?_
  rintro e w3 ⟨rfl,hb3⟩
  have HEe:=(show Hid (ObeyEnd N g cb s s c o w (.returned (.tuple #[strW (Go.Lib.itoa z),.nilIface])) w3) from HE.out w3 hb3)
  clear hb3 HE
  go_wp2_with fail
  go_ret2
  exact HEe.out
 ·
  obtain ⟨ty,v,rfl⟩:=hE.some_ h0
  have HSd:Hid (Calls Tryz.prog 45 #[.int .i64 z,.iface ty v] w2 fun e w'=>e=.returned (.tuple #[strW [],.iface ty v]) ∧ w'=w2):=sayNumber_err z ty v w2
  have HE:Hid (ObeyEnd N g cb s s c o w (.returned (.tuple #[strW [],.iface ty v])) w2):=obey_of_tell HP.out hE (fun h=>absurd h h0) hb
  clear hE hb hz h0
  go_wp2_with fail
  refine HSd.out.mono ?_
  rintro e w3 ⟨rfl,rfl⟩
  go_wp2_with fail
  go_ret2
  exact HE.out
theorem obey_bound (w0:World) (ad:Nat → Addr) (N g cb:Nat) (hS:Site w0 ad N g cb) (s:Scr) (w:World) (hw:Below w0.heap.size w0 w) (hp:PlayAt w N g cb s) (ho:ScrOk s) (x:List UInt8) (hs:x.length ≤ 1000) (name rest:List UInt8) (hcut:Go.Lib.cut x [32]=(name,rest,false)) (c n:Int) (o:List UInt8) (hname:name=boundW) (hc:BoundTo s c n) (hn:c=0 → -9223372036854775808 ≤ n ∧ n ≤ 9223372036854775807) (hco:c=0 → o=Go.Lib.itoa n) :
  Calls Tryz.prog 26 #[.pointer (some ⟨g,0,none⟩),strW x] w fun e w'=>ObeyEnd N g cb s s c o w e w':=by
 have hname':name=[98,111,117,110,100]:=hname
 have HC:Hid (Calls Tryz.prog 39 #[strW x,.string ⟨#[32]⟩] w fun e w'=>e=.returned (.tuple #[strW name,strW rest,.bool false]) ∧ Below w.heap.size w w' ∧ PlayAt w' N g cb s ∧ Below w0.heap.size w0 w'):=cutAt w0 ad N g cb hS s w hw hp x hs name rest false hcut
 obtain ⟨ks,hks⟩:∃ ks:ByteArray,⟨name.toArray⟩=ks:=⟨_,rfl⟩
 have n0:=nameIs name [99,108,101,97,114] ks hks false (by rw [hname'];decide)
 have n1:=nameIs name [114,117,110] ks hks false (by rw [hname'];decide)
 have n2:=nameIs name [98,111,117,110,100] ks hks true (by rw [hname'];decide)
 obtain ⟨t0,u0⟩:=n0
 obtain ⟨t1,u1⟩:=n1
 obtain ⟨t2,u2⟩:=n2
 have hcs:∀ r:List UInt8,(Value.tuple #[strW name,strW r,.bool false])=.tuple #[.string ks,strW r,.bool false]:=fun r=>by rw [← hks]
 rw [hcs] at HC
 have HO:Hid (c=0 → o=Go.Lib.itoa n):=hco
 have HRg:Hid (c=0 → -9223372036854775808 ≤ n ∧ n ≤ 9223372036854775807):=hn
 have HEn:Hid (Env w ad):=hS.env.below hw
 have HP:Hid (PlayAt w N g cb s):=hp
 obtain ⟨na,nc,pv,hpi⟩:=hp
 have HR:Hid (∀ W,Below w0.heap.size w0 W → Below w.heap.size w W → Calls Tryz.prog 46 #[.agg #[.slice (some ⟨cb,0,none⟩) 8 8,strW s.kb,.int .i64 s.per,.slice na s.ns.length nc]] W fun e w'=>TellEnd c n W e w'):=fun W h1 h2=>gateBound_any w0 ad N g cb hS s W h1 ho na nc pv (hpi.below h2) c n hc
 have HPi:Hid (PlayIn w N g cb na nc pv s):=hpi
 clear hS hw ho hs hcut hks hcs hname hname' hco hn hc hpi
 go_enter Tryz.func26,Tryz.ntmps26
 go_wp2_with fail
 refine HC.out.mono ?_
 rintro e w1 ⟨rfl,hb1,hp1,hw1⟩
 have HRr:Hid (Calls Tryz.prog 46 #[.agg #[.slice (some ⟨cb,0,none⟩) 8 8,strW s.kb,.int .i64 s.per,.slice na s.ns.length nc]] w1 fun e w'=>TellEnd c n w1 e w'):=HR.out w1 hw1 hb1
 have HB1:Hid (Below w.heap.size w w1):=hb1
 have hp2:=HPi.out.below hb1
 have y0:=hp2.c0
 have y1:=hp2.c1
 have y2:=hp2.c2
 have y3:=hp2.c3
 obtain ⟨kb,hkb⟩:∃ kb,s.kb=kb:=⟨_,rfl⟩
 obtain ⟨per,hper⟩:∃ per,s.per=per:=⟨_,rfl⟩
 obtain ⟨r,hr'⟩:∃ r,s.ns.length=r:=⟨_,rfl⟩
 rw [hkb] at y1 HRr
 rw [hper] at y2 HRr
 rw [hr'] at y3 HRr
 clear hb1 hp1 hw1 HR hp2 hkb hper hr'
 go_wp2_with fail
 refine HRr.out.mono ?_
 rintro e w2 ⟨z,E,p,rfl,hE,hz,hb2⟩
 have hb:=HB1.out.trans (hb2.mono HB1.out.size)
 clear hb2
 by_cases h0:c=0
 ·
  obtain rfl:=hE.none_ h0
  have HSd:Hid (Calls Tryz.prog 45 #[.int .i64 z,.nilIface] w2 fun e w'=>e=.returned (.tuple #[strW (Go.Lib.itoa z),.nilIface]) ∧ Below w2.heap.size w2 w'):=sayNumber_nil z w2 (HEn.out.below hb).itoa (by rw [hz h0];exact (HRg.out h0).1) (by rw [hz h0];exact (HRg.out h0).2)
  have HE:Hid (∀ W,Below w2.heap.size w2 W → ObeyEnd N g cb s s c o w (.returned (.tuple #[strW (Go.Lib.itoa z),.nilIface])) W):=fun W hW=>obey_of_tell HP.out (p:=p) (hE.below hW) (fun h=>by rw [HO.out h,hz h]) (hb.trans (hW.mono hb.size))
  clear hE hb hz h0
  go_wp2_with fail
  refine HSd.out.mono ?_
  rintro e w3 ⟨rfl,hb3⟩
  have HEe:=(show Hid (ObeyEnd N g cb s s c o w (.returned (.tuple #[strW (Go.Lib.itoa z),.nilIface])) w3) from HE.out w3 hb3)
  clear hb3 HE
  go_wp2_with fail
  go_ret2
  exact HEe.out
 ·
  obtain ⟨ty,v,rfl⟩:=hE.some_ h0
  have HSd:Hid (Calls Tryz.prog 45 #[.int .i64 z,.iface ty v] w2 fun e w'=>e=.returned (.tuple #[strW [],.iface ty v]) ∧ w'=w2):=sayNumber_err z ty v w2
  have HE:Hid (ObeyEnd N g cb s s c o w (.returned (.tuple #[strW [],.iface ty v])) w2):=obey_of_tell HP.out hE (fun h=>absurd h h0) hb
  clear hE hb hz h0
  go_wp2_with fail
  refine HSd.out.mono ?_
  rintro e w3 ⟨rfl,rfl⟩
  go_wp2_with fail
  go_ret2
  exact HE.out
theorem obey_text (w0:World) (ad:Nat → Addr) (N g cb:Nat) (hS:Site w0 ad N g cb) (s:Scr) (w:World) (hw:Below w0.heap.size w0 w) (hp:PlayAt w N g cb s) (x:List UInt8) (hs:x.length ≤ 1000) (name rest:List UInt8) (hcut:Go.Lib.cut x [32]=(name,rest,false)) (c:Int) (o:List UInt8) (s1:Scr) (h:name ≠ clearW ∧ name ≠ runW ∧ name ≠ boundW ∧ name ≠ worstW) (hc:c=1) :
  Calls Tryz.prog 26 #[.pointer (some ⟨g,0,none⟩),strW x] w fun e w'=>ObeyEnd N g cb s s1 c o w e w':=by
 have HC:Hid (Calls Tryz.prog 39 #[strW x,.string ⟨#[32]⟩] w fun e w'=>e=.returned (.tuple #[strW name,strW rest,.bool false]) ∧ Below w.heap.size w w' ∧ PlayAt w' N g cb s ∧ Below w0.heap.size w0 w'):=cutAt w0 ad N g cb hS s w hw hp x hs name rest false hcut
 obtain ⟨ks,hks⟩:∃ ks:ByteArray,⟨name.toArray⟩=ks:=⟨_,rfl⟩
 have n0:=nameIs name [99,108,101,97,114] ks hks false (decide_eq_false h.1)
 have n1:=nameIs name [114,117,110] ks hks false (decide_eq_false h.2.1)
 have n2:=nameIs name [98,111,117,110,100] ks hks false (decide_eq_false h.2.2.1)
 have n3:=nameIs name [119,111,114,115,116] ks hks false (decide_eq_false h.2.2.2)
 obtain ⟨t0,u0⟩:=n0
 obtain ⟨t1,u1⟩:=n1
 obtain ⟨t2,u2⟩:=n2
 obtain ⟨t3,u3⟩:=n3
 have hcs:∀ r:List UInt8,(Value.tuple #[strW name,strW r,.bool false])=.tuple #[.string ks,strW r,.bool false]:=fun r=>by rw [← hks]
 rw [hcs] at HC
 have HS:Hid (Env w ad ∧ PlayAt w N g cb s ∧ c=1):=⟨hS.env.below hw,hp,hc⟩
 clear hS hw hp hs hcut hks hcs h hc
 go_enter Tryz.func26,Tryz.ntmps26
 go_wp2_with fail
 refine HC.out.mono ?_
 rintro e w1 ⟨rfl,hb1,hp1,hw1⟩
 have HE:Hid (∀ q,ObeyEnd N g cb s s1 c o w (.returned (.tuple #[strW [],.iface 312 (.pointer (some (ad 0)))])) (w1.drewN q)):=fun q=>by
  have hb:=below_drewN hb1 q
  rw [HS.out.2.2]
  exact ⟨[],_,-1,rfl,errIs_sent (HS.out.1.below hb).errs 0 (by decide),(fun h=>by cases h),.ofBelow hb,.inr ⟨by decide,HS.out.2.1.below hb⟩⟩
 have c0:=(HS.out.1.below hb1).errs.c0
 clear hb1 hp1 hw1
 go_wp2_with fail
 go_quiet (fail)
 go_wp2_with fail
 go_ret2
 exact HE.out nq
end
end Go.Proofs.YtipdclphpkgceaaGreatDoor
