/- Own facts, put together: no statement of its own. -/
import Derived.Deep.RegionHeldLaw
import Derived.Test.YtipdclphpkgceaaGreatDoorS38
import Derived.Test.YtipdclphpkgceaaGreatDoorS31
import Derived.Test.YtipdclphpkgceaaGreatDoorS35
set_option maxHeartbeats 4000000
set_option maxRecDepth 100000

namespace Go.Proofs.YtipdclphpkgceaaGreatDoor
open Go.RowKit
theorem step_append_pkt {w:World} {ops:Array Oper} {o:Oper} {a:Act} {K:Act → World → Prop} {Q:Exit → Act → World → Prop} {E:Prop} (hgd:o.guard=none) (hty:o.type=52) (s x:Operand)
  (ho:o.op=.call { callee:=.builtin .append,args:=#[s,x],argTypes:=#[52,52] })
  (N:Nat) (pv:Value) (ps:List Pk) (q:Pk) (hs:a.eval s=pv) (h:OwnP w N pv ps) (hN:N ≤ w.heap.size) (ad:Addr) (c:Nat) (hx:a.eval x=.slice (some ad) 1 c) (hq:LiesP w (some ad) [q]) (hn:ps.length ≤ 1000)
  (hK:∀ g cap w',OwnP w' N (.slice (some ⟨g,0,none⟩) (ps.length+1) cap) (ps ++ [q]) → OwnP w' N pv ps → But (fun k=>pv.ownBlock=some k) w w' → (pv.ownBlock=some g ∨ w.heap.size ≤ g) → K (a.put o.dst (.slice (some ⟨g,0,none⟩) (ps.length+1) cap)) w') :
  if Region.wanted o (yielded ops a.tmps)=true then Oper.wp Tryz.prog o a w K Q else E:=by
 have hw:Region.wanted o (yielded ops a.tmps)=true:=by simp [Region.wanted,hgd]
 rw [if_pos hw]
 obtain ⟨g,cap,w',hrun,g1,g2,g3,g4⟩:=run_append_pkt w N pv ps q ad c h hN hq hn
 unfold Oper.wp
 simp [execOp,ho,hty,resolve,invoke,builtin,hs,hx,hrun,Result.andThen]
 exact hK g cap w' g1 g2 g3 g4
theorem PlayIn.keep {w w1:World} {N g cb:Nat} {na:Option Addr} {ncap:Nat} {pv:Value} {s:Scr} (h:PlayIn w N g cb na ncap pv s) (hb:But (fun k=>pv.ownBlock=some k) w w1) (hp:OwnP w1 N pv s.ps):PlayIn w1 N g cb na ncap pv s:=by
 have hgN:=h.gN
 have hcN:=h.cN
 have hwN:=h.wN
 have po:∀ k,pv.ownBlock=some k → N ≤ k ∧ k < w.heap.size:=fun k hk=>ownsRow_lt h.pks hk
 have g1:¬ pv.ownBlock=some g:=fun hk=>by have:=(po g hk).1;omega
 have c1:¬ pv.ownBlock=some cb:=fun hk=>by have:=(po cb hk).1;omega
 have gl:g < w.heap.size:=by omega
 have cl:cb < w.heap.size:=by omega
 have eg:∀ i,w1.cell? ⟨g,i,none⟩=w.cell? ⟨g,i,none⟩:=fun i=>hb.cell (p:=⟨g,i,none⟩) gl g1
 refine ⟨h.gN,h.cN,h.ne,Nat.le_trans h.wN hb.size,(eg 0).trans h.c0,(eg 1).trans h.c1,(eg 2).trans h.c2,(eg 3).trans h.c3,(eg 4).trans h.c4,fun i=>by rw [hb.frozen (p:=⟨g,i,none⟩) gl g1];exact h.fg i,fun i=>by rw [hb.frozen (p:=⟨cb,i,none⟩) cl c1];exact h.fc i,liesN_keep h.nums hb (fun ad e=>(h.nfar ad e).2.2),h.nle,h.nmax,h.nnil,(fun ad e=>⟨(h.nfar ad e).1,Nat.lt_of_lt_of_le (h.nfar ad e).2.1 hb.size,(h.nfar ad e).2.2⟩),hp,fun i ls hi=>?_⟩
 obtain ⟨a,cap,hc⟩:=h.curves i ls hi
 exact ⟨a,cap,hc.but hb c1 fun ad e=>(hc.far ad e).2.2⟩
section
variable (w0:World) (ad:Nat → Addr) (N g cb:Nat) (hS:Site w0 ad N g cb) (s:Scr) (w:World) (hw:Below w0.heap.size w0 w) (hp:PlayAt w N g cb s) (ho:ScrOk s)
theorem addPacket_is (w0:World) (ad:Nat → Addr) (N g cb:Nat) (hS:Site w0 ad N g cb) (s:Scr) (w:World) (hw:Below w0.heap.size w0 w) (hp:PlayAt w N g cb s) (ho:ScrOk s) (wb:Nat) (ws:List (List UInt8)) (hl:LiesW w (some ⟨wb,0,none⟩) ws) (hs:ShortW ws) (c:Int) (s1:Scr) (hc:PacketTo s ws c s1) :
  Calls Tryz.prog 76 #[.pointer (some ⟨g,0,none⟩),.slice (some ⟨wb,0,none⟩) ws.length ws.length] w fun e w'=>SetEnd N g cb s s1 c w e w':=by
 have he:=hS.env.below hw
 have HEt:Hid (∀ W,Below w.heap.size w W → c=1 → SetEnd N g cb s s1 c w (.returned (.iface 312 (.pointer (some (ad 0))))) W):=fun W hW h1=>by
  subst h1
  exact setEnd_bad hp hW (errIs_sent (he.below hW).errs 0 (by decide)) (by decide)
 have c0:=he.errs.c0
 have HS:Hid (Site w0 ad N g cb ∧ Below w0.heap.size w0 w ∧ PlayAt w N g cb s ∧ ScrOk s ∧ Env w ad):=⟨hS,hw,hp,ho,he⟩
 by_cases h3:ws.length=3
 ·
  obtain ⟨x,y,z,rfl⟩:∃ x y z,ws=[x,y,z]:=by
   match ws,h3 with
   | [x,y,z],_=>exact ⟨x,y,z,rfl⟩
  have x0:w.cell? ⟨wb,0,none⟩=some (strW x):=by
   obtain ⟨b,off,e,hlt,hc⟩:=hl.place (by simp)
   cases e
   exact hc 0 x rfl
  have HRd:Hid (Calls Tryz.prog 104 #[strW x] w fun e w'=>ReadEnd (ad 0) (digitW x) w e w'):=readDigit_is ⟨x.toArray⟩ w (ad 0) he.errs.c0 (by have:=hs.2 x (by simp);show x.toArray.size ≤ _;simp;omega)
  have HRn:Hid (∀ W,Below w.heap.size w W → Calls Tryz.prog 103 #[.slice (some ⟨wb,1,none⟩) 2 2] W fun e w'=>ReadsEnd (ad 0) (numsW [y,z]) W e w'):=fun W hW=>readNumbers_is (some ⟨wb,1,none⟩) 2 [y,z] W (ad 0) (he.below hW).errs.c0 (liesW_tail (ws:=[x,y,z]) (hl.below hW) fun _=>rfl) ⟨by simp,fun u hu=>hs.2 u (List.mem_cons_of_mem _ hu)⟩
  have HC:Hid (PacketTo s [x,y,z] c s1):=hc
  clear hl hs hc h3 hS hw hp ho he
  go_enter Tryz.func76,Tryz.ntmps76
  go_wp2_with fail
  refine HRd.out.mono ?_
  rintro e w1 ⟨hb1,⟨hf,rfl⟩ | ⟨f,hf,rfl⟩⟩
  ·
   have HE:Hid (SetEnd N g cb s s1 c w (.returned (.iface 312 (.pointer (some (ad 0))))) w1):=by
    refine HEt.out w1 hb1 ?_
    obtain ⟨h,-⟩ | ⟨x',y',z',e,⟨-,h,-⟩ | ⟨f,h,-⟩⟩:=HC.out
    · exact absurd rfl h
    · exact h
    ·
     cases e
     rw [hf] at h;cases h
   clear hf hb1
   go_wp2_with fail
   go_ret
   exact HE.out
  ·
   have HB1:Hid (Below w.heap.size w w1 ∧ digitW x=some f):=⟨hb1,hf⟩
   clear hf hb1 c0
   go_wp2_with fail
   refine (HRn.out w1 HB1.out.1).mono ?_
   rintro e w2 ⟨hb2,⟨hns,rfl⟩ | ⟨ns,G,hns,rfl,hG,hGl,hln⟩⟩
   ·
    have HE:Hid (SetEnd N g cb s s1 c w (.returned (.iface 312 (.pointer (some (ad 0))))) w2):=by
     refine HEt.out w2 (HB1.out.1.trans (hb2.mono HB1.out.1.size)) ?_
     obtain ⟨h,-⟩ | ⟨x',y',z',e,⟨h,-⟩ | ⟨f',h,⟨-,h1,-⟩ | ⟨a,b,p,h1,-⟩⟩⟩:=HC.out
     · exact absurd rfl h
     ·
      cases e
      rw [HB1.out.2] at h;cases h
     · exact h1
     ·
      cases e
      rw [hns] at h1;cases h1
    clear hns hb2
    go_wp2_with fail
    go_ret
    exact HE.out
   ·
    obtain ⟨a,b,rfl⟩:∃ a b,ns=[a,b]:=by
     have:=numsW_length hns
     match ns,this with
     | [a,b],_=>exact ⟨a,b,rfl⟩
    obtain ⟨p,hs1,hpf⟩:∃ p,s1={ s with ps:=s.ps ++ [⟨f,a,b⟩] } ∧ PksFault (s.ps ++ [⟨f,a,b⟩]) c p:=by
     obtain ⟨h,-⟩ | ⟨x',y',z',e,⟨h,-⟩ | ⟨f',h,⟨h1,-⟩ | ⟨a',b',p,h1,h2,h3⟩⟩⟩:=HC.out
     · exact absurd rfl h
     ·
      cases e
      rw [HB1.out.2] at h;cases h
     ·
      cases e
      rw [hns] at h1;cases h1
     ·
      cases e
      rw [HB1.out.2] at h
      obtain rfl:=Option.some.inj h
      rw [hns] at h1
      cases h1
      exact ⟨p,h2,h3⟩
    have hb:=HB1.out.1.trans (hb2.mono HB1.out.1.size)
    obtain ⟨na,nc,pv,hpi⟩:=HS.out.2.2.1
    have hp2:=hpi.below hb
    obtain ⟨v0,v1⟩:w2.cell? ⟨G,0,none⟩=some (.int .i64 a) ∧ w2.cell? ⟨G,1,none⟩=some (.int .i64 b):=by
     rcases hln with h | ⟨b',off,e,-,h⟩
     · cases h
     ·
      cases e
      exact ⟨h 0 a rfl,h 1 b rfl⟩
    have hbd:Below w2.heap.size w2 (w2.drew.alloc (.cells #[.int .i64 f,.int .i64 a,.int .i64 b] 58)):=((Below.refl _ _).drew).alloc (Nat.le_refl _) _
    have HW:Hid (PlayIn (w2.drew.alloc (.cells #[.int .i64 f,.int .i64 a,.int .i64 b] 58)) N g cb na nc pv s ∧ Below w.heap.size w (w2.drew.alloc (.cells #[.int .i64 f,.int .i64 a,.int .i64 b] 58))):=⟨hp2.below hbd,hb.trans (hbd.mono hb.size)⟩
    have HQ:Hid (LiesP (w2.drew.alloc (.cells #[.int .i64 f,.int .i64 a,.int .i64 b] 58)) (some ⟨w2.heap.size,0,none⟩) [⟨f,a,b⟩]):=liesP_new w2.drew f a b
    have HFr:Hid (pv.ownBlock ≠ some g ∧ pv.ownBlock ≠ some G ∧ g < w2.heap.size ∧ G < w2.heap.size):=by
     have h1:=hpi.gN
     have h2:=hpi.wN
     have h3:=HB1.out.1.size
     have h4:=hb.size
     exact ⟨fun e=>by have:=(ownsRow_lt hpi.pks e).1;omega,fun e=>by have:=(ownsRow_lt hpi.pks e).2;omega,by omega,hGl⟩
    have HD:Hid (s1={ s with ps:=s.ps ++ [⟨f,a,b⟩] } ∧ PksFault (s.ps ++ [⟨f,a,b⟩]) c p):=⟨hs1,hpf⟩
    have y4:=hp2.c4
    have hlen:s.ps.length ≤ 300:=HS.out.2.2.2.1.pks.few
    obtain ⟨n,hn⟩:∃ n,s.ps.length=n:=⟨_,rfl⟩
    have HN:Hid (s.ps.length=n):=hn
    have HCl:Hid (∀ W,Below w2.heap.size w2 W → W.cell? ⟨g,4,none⟩=some pv ∧ W.cell? ⟨G,0,none⟩=some (.int .i64 a) ∧ W.cell? ⟨G,1,none⟩=some (.int .i64 b)):=fun W hW=>⟨cell_later hW y4,cell_later hW v0,cell_later hW v1⟩
    clear hns hb2 hb hpi hp2 hln hG hGl hbd hs1 hpf hn
    go_wp2_with fail
    go_region_held_law (fun w'=>w'.cell? ⟨g,4,none⟩=some pv ∧ w'.cell? ⟨G,0,none⟩=some (.int .i64 a) ∧ w'.cell? ⟨G,1,none⟩=some (.int .i64 b)) (first | exact HCl.out _ (below_drewN (Below.refl _ _) 1) | exact HCl.out _ (((Below.refl _ _).drew).alloc (Nat.le_refl _) _) | exact hS)
     (first
      | (refine step_append_pkt rfl rfl _ _ rfl N pv s.ps ⟨f,a,b⟩ rfl HW.out.1.pks HW.out.1.wN ⟨w2.heap.size,0,none⟩ 1 rfl HQ.out (by omega) ?_
         intro G5 cap5 w5 ho5 hk5 hb5 hat5
         have H5:Hid (OwnP w5 N (.slice (some ⟨G5,0,none⟩) (s.ps.length+1) cap5) (s.ps ++ [⟨f,a,b⟩]) ∧ OwnP w5 N pv s.ps ∧ But (fun k=>pv.ownBlock=some k) (w2.drew.alloc (.cells #[.int .i64 f,.int .i64 a,.int .i64 b] 58)) w5 ∧ (pv.ownBlock=some G5 ∨ (w2.drew.alloc (.cells #[.int .i64 f,.int .i64 a,.int .i64 b] 58)).heap.size ≤ G5)):=⟨ho5,hk5,hb5,hat5⟩
         have hS:w5.cell? ⟨g,4,none⟩=some pv ∧ w5.cell? ⟨G,0,none⟩=some (.int .i64 a) ∧ w5.cell? ⟨G,1,none⟩=some (.int .i64 b):=by
           obtain ⟨q1,q2,q3,q4⟩:=HFr.out
           obtain ⟨r1,r2,r3⟩:=HCl.out _ (((Below.refl _ _).drew).alloc (Nat.le_refl _) (.cells #[.int .i64 f,.int .i64 a,.int .i64 b] 58))
           have hsz:w2.heap.size ≤ (w2.drew.alloc (.cells #[.int .i64 f,.int .i64 a,.int .i64 b] 58)).heap.size:=by simp
           exact ⟨(hb5.cell (p:=⟨g,4,none⟩) (Nat.lt_of_lt_of_le q3 hsz) q1).trans r1,(hb5.cell (p:=⟨G,0,none⟩) (Nat.lt_of_lt_of_le q4 hsz) q2).trans r2,(hb5.cell (p:=⟨G,1,none⟩) (Nat.lt_of_lt_of_le q4 hsz) q2).trans r3⟩
         clear ho5 hk5 hb5 hat5)
      | fail)
    all_goals
     have HP5:Hid (PlayIn w5 N g cb na nc pv s ∧ But (ownS N g cb) w w5 ∧ Below w0.heap.size w0 w5):=by
      have hbt:But (ownS N g cb) w w5:=(But.ofBelow HW.out.2).trans (H5.out.2.2.1.mono fun k hk=>.inr (.inr (ownsRow_lt HW.out.1.pks hk).1))
      exact ⟨HW.out.1.keep H5.out.2.2.1 H5.out.2.1,hbt,HS.out.1.later HS.out.2.1 hbt⟩
     have HCk:Hid (Calls Tryz.prog 105 #[.slice (some ⟨G5,0,none⟩) (n+1) cap5] w5 fun e w'=>∃ E,e=.returned E ∧ ErrIs w' E c p ∧ Below w5.heap.size w5 w'):=by
      obtain ⟨a',cap',e1,e2⟩:=OwnP.value H5.out.1
      have e3:(s.ps ++ [(⟨f,a,b⟩:Pk)]).length=n+1:=by rw [List.length_append,HN.out];rfl
      rw [e3,HN.out] at e1
      cases e1
      have:=pcheck_is (some ⟨G5,0,none⟩) cap5 (s.ps ++ [⟨f,a,b⟩]) w5 ad (HS.out.1.env.below HP5.out.2.2).errs e2.pks e2.cap e2.max c p HD.out.2
      rw [e3] at this
      exact this
     rw [HN.out] at H5 ⊢
     have HSt:Hid (∀ W,Below w5.heap.size w5 W → (∃ u,W.cell? ⟨g,4,none⟩=some u) ∧ W.frozen? ⟨g,4,none⟩=false ∧ (c=0 → SetEnd N g cb s s1 c w (.returned .nilIface) (W.setCell ⟨g,4,none⟩ (.slice (some ⟨G5,0,none⟩) (n+1) cap5))) ∧ (∀ E,ErrIs W E c p → c ≠ 0 → SetEnd N g cb s s1 c w (.returned E) W)):=fun W hW=>by
      have hpW:=HP5.out.1.below hW
      have hbW:But (ownS N g cb) w W:=HP5.out.2.1.trans (.ofBelow hW)
      refine ⟨⟨_,hpW.c4⟩,hpW.fg 4,fun h0=>?_,fun E hE h0=>⟨E,p,rfl,hE,hbW,.inr ⟨h0,na,nc,pv,hpW⟩⟩⟩
      obtain ⟨k1,k2⟩:=HW.out.1.setPks (H5.out.2.2.1.trans (.ofBelow hW)) (H5.out.1.later hW) (fun k hk=>by
       have:G5=k:=Option.some.inj hk
       subst this
       exact H5.out.2.2.2) (w':=W.setCell ⟨g,4,none⟩ (.slice (some ⟨G5,0,none⟩) (n+1) cap5)) rfl
      subst h0
      exact ⟨.nilIface,-1,rfl,errIs_nil _,(But.ofBelow HW.out.2).trans k2,.inl ⟨rfl,na,nc,_,by rw [HD.out.1];exact k1⟩⟩
     clear hS H5 HW HQ HCl HFr HN hlen v0 v1 y4
     go_wp2_with fail
     refine HCk.out.mono ?_
     rintro e w6 ⟨E,rfl,hE,hb6⟩
     obtain ⟨⟨u,z1⟩,z2,z3,z4⟩:=HSt.out w6 hb6
     by_cases hc0:c=0
     ·
      obtain rfl:=hE.none_ hc0
      have HE:=(show Hid (SetEnd N g cb s s1 c w (.returned .nilIface) (w6.setCell ⟨g,4,none⟩ (.slice (some ⟨G5,0,none⟩) (n+1) cap5))) from z3 hc0)
      clear hE hb6 z3 z4 hc0 HSt HCk
      go_wp2_with fail
      go_ret
      exact HE.out
     ·
      have HE:=(show Hid (SetEnd N g cb s s1 c w (.returned E) w6) from z4 E hE hc0)
      obtain ⟨ty,v,rfl⟩:=hE.some_ hc0
      clear hE hb6 z3 z4 hc0 HSt HCk
      go_wp2_with fail
      go_ret
      exact HE.out
 ·
  have h3':((ws.length:Int) == 3)=false:=by simp;omega
  have HE:Hid (SetEnd N g cb s s1 c w (.returned (.iface 312 (.pointer (some (ad 0))))) w):=by
   refine HEt.out w (Below.refl _ _) ?_
   obtain ⟨-,h,-⟩ | ⟨x,y,z,h,-⟩:=hc
   · exact h
   · rw [h] at h3;exact absurd rfl h3
  obtain ⟨n,hn⟩:∃ n,ws.length=n:=⟨_,rfl⟩
  rw [hn] at h3' ⊢
  clear h3 hl hs hc hn hS hw hp ho he
  go_enter Tryz.func76,Tryz.ntmps76
  go_wp2_with fail
  go_ret
  exact HE.out
end
def SumEnd (la lb:List (Int × Int)) (w:World) (e:Ending) (w':World):Prop:=∃ a n cap E code L,e=.returned (.tuple #[.slice a n cap,E]) ∧ SumRel la lb code L ∧ Below w.heap.size w w' ∧ (code=0 → E=.nilIface ∧ n=L.length ∧ Lies w' a L ∧ L.length ≤ cap ∧ cap ≤ maxLen) ∧ (code ≠ 0 → ∃ ty v,E=.iface ty v)
theorem sum_ends (a1 a2:Option Addr) (cap1 cap2:Nat) (la lb:List (Int × Int)) (w:World) (ad:Nat → Addr) (he:Errs9 w ad) (h1:Lies w a1 la) (h2:Lies w a2 lb) (k1:okCurve la) (k2:okCurve lb) :
  Calls Tryz.prog 119 #[.slice a1 la.length cap1,.slice a2 lb.length cap2] w fun e w'=>SumEnd la lb w e w':=by
 rcases firstBad (eachL la lb) with h | ⟨j,hj,hn,hb⟩
 ·
  refine (sum_ok a1 a2 cap1 cap2 la lb w (ad 2) he.c2 h1 h2 k1 k2 h).mono ?_
  rintro e w' ⟨ls',hp,hs,hb,⟨h6,rfl⟩ | ⟨h6,v,rfl,ho⟩⟩
  · exact ⟨none,0,0,_,3,[],rfl,.inr ⟨h,_,⟨ls',hp,hs,rfl⟩,.inl ⟨by rw [List.length_reverse];exact h6,rfl,rfl⟩⟩,hb,fun h=>absurd h (by decide),fun _=>⟨_,_,rfl⟩⟩
  ·
   obtain ⟨a,n,cap,rfl⟩:∃ a n cap,v=.slice a n cap:=by
    obtain ⟨-,⟨rfl,-⟩ | ⟨g,cap,cur,rfl,-⟩⟩:=ho
    · exact ⟨_,_,_,rfl⟩
    · exact ⟨_,_,_,rfl⟩
   obtain ⟨e1,e2,e3,e4⟩:=ho.lies
   exact ⟨a,n,cap,_,0,_,rfl,.inr ⟨h,_,⟨ls',hp,hs,rfl⟩,.inr ⟨by rw [List.length_reverse];exact h6,rfl,rfl⟩⟩,hb,fun _=>⟨rfl,e1,e4,e2,e3⟩,fun h=>absurd rfl h⟩
 ·
  refine (sum_bound a1 a2 cap1 cap2 la lb w (ad 1) he.c1 h1 h2 k1 k2 j hj hn hb).mono ?_
  rintro e w' ⟨rfl,hbw⟩
  refine ⟨none,0,0,_,2,[],rfl,.inl ⟨fun hok=>?_,rfl,rfl⟩,hbw,fun h=>absurd h (by decide),fun _=>⟨_,_,rfl⟩⟩
  obtain ⟨⟨x,y⟩,hp,hm⟩:=get_some _ j hj
  have:=hb x y hp
  rw [hok _ hm] at this
  cases this
theorem Tryz.callIsEmpty (args:Array Value) (W:World):Sem.run Tryz.prog (callFunc 118 args) W=.ok (.enter 118 args) W:=by kernel_rfl
def CurveCells (w:World) (b off:Nat) (cs:List (List (Int × Int))):Prop:=∀ (i:Nat) ls,cs[i]? = some ls → ∃ a' cap,w.cell? ⟨b,off+i,none⟩=some (.slice a' ls.length cap) ∧ Lies w a' ls ∧ ls.length ≤ cap ∧ cap ≤ maxLen ∧ (a'=none → ls=[] ∧ cap=0)
theorem indexEmpty_any (b off ccap:Nat) (cs:List (List (Int × Int))) (w:World) (h:CurveCells w b off cs) (h8:cs.length=8) (j:Nat) (hj:CurvesUpTo cs j) :
  Calls Tryz.prog 117 #[.slice (some ⟨b,off,none⟩) 8 ccap,.func (.func 118) #[] #[]] w fun e w'=>e=.returned (.int .i64 (if j < 8 then (j:Int) else -1)) ∧ w'=w:=by
 have HC:Hid (CurveCells w b off cs):=h
 have HJ:Hid (CurvesUpTo cs j):=hj
 have H8:Hid (cs.length=8):=h8
 have hj8:=hj.1
 have hcall:=Tryz.callIsEmpty
 clear h hj h8
 go_enter Tryz.func117,Tryz.ntmps117
 go_wp2_with fail
 go_loopg [8] 8 (fun gk iv wr=>∃ k:Nat,iv=.int .i64 (k:Int) ∧ k ≤ j ∧ 8 - k ≤ gk ∧ w=wr)
 case atStart=>exact ⟨0,rfl,Nat.zero_le _,Nat.le_refl _,rfl⟩
 case round=>
  obtain ⟨k,rfl,hkj,hgk,rfl⟩:=hrel
  by_cases hk8:k < 8
  ·
   have hkz:(k:Int) < 8:=by omega
   obtain ⟨ls,hls,-⟩:=get_some cs k (by rw [H8.out];exact hk8)
   obtain ⟨a',cap,cj,-,-,-,-⟩:=HC.out k ls hls
   have hfl:=curveFl_get hls
   obtain ⟨n,hn⟩:∃ n,ls.length=n:=⟨_,rfl⟩
   rw [hn] at cj
   by_cases hk:k < j
   ·
    have hne:=HJ.out.2.1 k hk
    rw [hfl] at hne
    have HEm:Hid (Calls Tryz.prog 118 #[.slice a' n cap] w fun e w'=>e=.returned (.bool false) ∧ w'=w):=isEmpty_any a' n cap w false (by have:=List.length_pos_iff.2 hne;simp;omega)
    clear hls hfl hne hn
    go_wp2_with fail
    refine HEm.out.mono ?_
    rintro e w1 ⟨rfl,rfl⟩
    go_wp2_with fail
    go_roundg (8 - (k+1))
    case measure=>omega
    case rel=>exact ⟨k+1,by go_num,hk,Nat.le_refl _,rfl⟩
   ·
    obtain rfl:k=j:=by omega
    have he:ls=[]:=by
     rcases HJ.out.2.2 with h | h
     · omega
     · rw [← hfl];exact h
    have HEm:Hid (Calls Tryz.prog 118 #[.slice a' n cap] w fun e w'=>e=.returned (.bool true) ∧ w'=w):=isEmpty_any a' n cap w true (by rw [← hn,he];rfl)
    clear hls hfl he hn
    go_wp2_with fail
    refine HEm.out.mono ?_
    rintro e w1 ⟨rfl,rfl⟩
    go_wp2_with fail
    go_ret
    exact ⟨rfl,rfl⟩
  ·
   have hkz:¬ (k:Int) < 8:=by omega
   obtain rfl:k=8:=by omega
   obtain rfl:j=8:=by omega
   go_wp2_with fail
   go_ret
   exact ⟨rfl,rfl⟩
def TogetherEnd (cs:List (List (Int × Int))) (w:World) (e:Ending) (w':World):Prop:=Below w.heap.size w w' ∧ ((∃ a cap L,CurveAll SumRel cs L ∧ e=.returned (.tuple #[.slice a L.length cap,.nilIface]) ∧ Lies w' a L ∧ L.length ≤ cap ∧ cap ≤ maxLen) ∨ (CurveNone SumRel cs ∧ ∃ ty v,e=.returned (.tuple #[.slice none 0 0,.iface ty v])))
theorem upTo_is (cs:List (List (Int × Int))):∃ j,CurvesUpTo cs j:=by
 by_cases h:∃ i,i < 8 ∧ curveFl cs i=[]
 ·
  obtain ⟨j,⟨h1,h2⟩,h3⟩:=least_of h
  exact ⟨j,by omega,fun i hi he=>h3 i hi ⟨by omega,he⟩,.inr h2⟩
 · exact ⟨8,Nat.le_refl _,fun i hi he=>h ⟨i,hi,he⟩,.inl rfl⟩
theorem together_any (ca:Option Addr) (ccap:Nat) (cs:List (List (Int × Int))) (w:World) (ad:Nat → Addr) (he:Errs9 w ad) (hl:LiesC w ca cs) (h8:cs.length=8) (hcc:cs.length ≤ ccap) (hto:CurvesTo cs 8) :
  Calls Tryz.prog 83 #[.slice ca cs.length ccap] w fun e w'=>TogetherEnd cs w e w':=by
 obtain ⟨b,off,rfl,-,hcc'⟩:=hl.place (by omega)
 have hcells:CurveCells w b off cs:=hcc'
 obtain ⟨j,hj⟩:=upTo_is cs
 have hj8:=hj.1
 have HIx:=(show Hid (Calls Tryz.prog 117 #[.slice (some ⟨b,off,none⟩) 8 ccap,.func (.func 118) #[] #[]] w fun e w'=>e=.returned (.int .i64 (if j < 8 then (j:Int) else -1)) ∧ w'=w) from indexEmpty_any b off ccap cs w hcells h8 j hj)
 have HC:Hid (CurveCells w b off cs):=hcells
 have HE:Hid (Errs9 w ad):=he
 have H8:Hid (cs.length=8):=h8
 have HCo:Hid (CurvesOk (curveFl cs)):=fun f hf=>by
  obtain ⟨ls,hls,-⟩:=get_some cs f (by rw [h8];exact hf)
  rw [curveFl_get hls]
  exact hto f ls hf hls
 have HJ:Hid (CurvesUpTo cs j):=hj
 rw [h8] at hcc ⊢
 have hcc1:ccap ≠ 1:=by omega
 have hccj:∀ i,i < 8 → i ≠ ccap:=fun i hi=>by omega
 have c3:=he.c3
 clear he hl h8 hto hcc' hcells hj
 by_cases hj0:j=0
 ·
  subst hj0
  have HEnd:Hid (CurveNone SumRel cs):=by
   rcases HJ.out.2.2 with h | h
   · omega
   · exact .inl h
  rw [if_pos (by omega)] at HIx
  go_enter Tryz.func83,Tryz.ntmps83
  go_wp2_with fail
  refine HIx.out.mono ?_
  rintro e w1 ⟨rfl,rfl⟩
  go_wp2_with fail
  go_quiet (fail)
  go_wp2_with fail
  go_ret2
  exact ⟨below_drewN (Below.refl _ _) nq,.inr ⟨HEnd.out,_,_,rfl⟩⟩
 ·
  have hj1:1 ≤ j:=by omega
  obtain ⟨ls0,hls0,-⟩:=get_some cs 0 (by rw [H8.out];omega)
  obtain ⟨a0,cap0,cj00,hlies0,hlc0,hlm0,-⟩:=HC.out 0 ls0 hls0
  have hfl0:=curveFl_get hls0
  have HL0:Hid ((Lies w a0 (curveFl cs 0) ∧ (curveFl cs 0).length ≤ cap0 ∧ cap0 ≤ maxLen) ∧ ls0.length=(curveFl cs 0).length):=by rw [hfl0];exact ⟨⟨hlies0,hlc0,hlm0⟩,rfl⟩
  have HK0:Hid (curveFl cs 0 ≠ [] ∧ okCurve (curveFl cs 0)):=by
   have h:=HJ.out.2.1 0 hj1
   refine ⟨h,?_⟩
   rcases HCo.out 0 (by omega) with h' | h'
   · exact absurd h' h
   · exact h'
  obtain ⟨n0,hn0⟩:∃ n0,ls0.length=n0:=⟨_,rfl⟩
  rw [hn0] at cj00 HL0
  rw [Nat.add_zero] at cj00
  clear hls0 hlies0 hlc0 hlm0 hfl0 hn0
  have hjne:((j:Int) == 0)=false:=by simp;omega
  have hj1z:(j:Int) - 1=((j - 1:Nat):Int):=by omega
  have hjc:j ≤ ccap:=by omega
  have hcz:(1:Int) ≤ (j:Int):=by omega
  by_cases hjl:j < 8
  ·
   rw [if_pos hjl] at HIx
   have hjcc:j ≠ ccap:=by omega
   go_enter Tryz.func83,Tryz.ntmps83
   go_wp2_with fail
   refine HIx.out.mono ?_
   rintro e w1 ⟨rfl,rfl⟩
   go_wp2_with fail
   go_loopg [5,27] 8 (fun gk sv iv wr=>∃ (q:Nat) (a:Option Addr) (cap:Nat) (M:List (Int × Int)),sv=.slice a M.length cap ∧ iv=.int .i64 (q:Int) ∧ q+1 ≤ j ∧ j - q ≤ gk ∧ Hid (AddTo SumRel cs (q+1) M ∧ okCurve M ∧ Lies wr a M ∧ M.length ≤ cap ∧ cap ≤ maxLen) ∧ Hid (Below w1.heap.size w1 wr))
   case atStart=>exact ⟨0,a0,cap0,curveFl cs 0,by rw [HL0.out.2],rfl,by omega,by omega,⟨rfl,HK0.out.2,HL0.out.1.1,HL0.out.1.2.1,HL0.out.1.2.2⟩,Below.refl _ _⟩
   case round=>
    obtain ⟨q,a,cap,M,rfl,rfl,hqj,hgk,HM,HB⟩:=hrel
    by_cases hlt:q+1 < j
    ·
     have hltz:(q:Int) < ((j - 1:Nat):Int):=by omega
     obtain ⟨t,ht⟩:∃ t,j - 1=t:=⟨_,rfl⟩
     rw [ht] at hltz
     obtain ⟨ls,hls,-⟩:=get_some cs (q+1) (by rw [H8.out];omega)
     obtain ⟨a',cap',cj0,hlies,hlc,hlm,-⟩:=HC.out (q+1) ls hls
     have cj:=cell_later HB.out cj0
     have hfl:=curveFl_get hls
     have hne:=HJ.out.2.1 (q+1) hlt
     rw [hfl] at hne
     have hokl:okCurve ls:=by
      rcases HCo.out (q+1) (by omega) with h | h
      · rw [hfl] at h;exact absurd h hne
      · rw [hfl] at h;exact h
     have HSu:=(show Hid (Calls Tryz.prog 119 #[.slice a M.length cap,.slice a' ls.length cap'] wr fun e w'=>SumEnd M ls wr e w') from sum_ends a a' cap cap' M ls wr ad (HE.out.below HB.out) HM.out.2.2.1 (hlies.below HB.out) HM.out.2.1 hokl)
     have HLs:Hid (curveFl cs (q+1)=ls ∧ ls ≠ [] ∧ okCurve ls):=⟨hfl,hne,hokl⟩
     rw [show off+(q+1)=off+1+q by omega] at cj
     obtain ⟨n',hn'⟩:∃ n',ls.length=n':=⟨_,rfl⟩
     obtain ⟨m',hm'⟩:∃ m',M.length=m':=⟨_,rfl⟩
     rw [hn'] at cj HSu
     rw [hm'] at HSu ⊢
     clear hls cj0 hlies hlc hlm hfl hne hokl hn' hm' ht
     go_wp2_with fail
     refine HSu.out.mono ?_
     rintro e w2 ⟨sa,sn,scap,E,code,L,rfl,hrel,hb2,hz,hnz⟩
     have HB2:Hid (Below w1.heap.size w1 w2):=HB.out.trans (hb2.mono HB.out.size)
     by_cases hc0:code=0
     ·
      obtain ⟨rfl,hsn,hlL,hL1,hL2⟩:=hz hc0
      have HM2:Hid (AddTo SumRel cs (q+1+1) L ∧ okCurve L ∧ Lies w2 sa L ∧ L.length ≤ scap ∧ scap ≤ maxLen):=by
       rw [hc0] at hrel
       have hn:=HLs.out
       exact ⟨addTo_next HM.out.1 (by rw [hn.1];exact hn.2.1) (by rw [hn.1];exact hrel),sumWay.ok M ls L HM.out.2.1 hn.2.2 hrel,hlL,hL1,hL2⟩
      have HSn:Hid (sn=L.length):=hsn
      clear hrel hb2 hz hnz hc0 hsn hlL hL1 hL2 HSu HM HB
      go_wp2_with fail
      go_roundg (j - (q+1))
      case measure=>omega
      case rel=>exact ⟨q+1,sa,scap,L,by rw [HSn.out],by go_num,by omega,Nat.le_refl _,HM2,HB2⟩
     ·
      obtain ⟨ty,v,rfl⟩:=hnz hc0
      have HEnd:Hid (TogetherEnd cs w1 (.returned (.tuple #[.slice none 0 0,.iface ty v])) w2):=by
       have hn:=HLs.out
       exact ⟨HB2.out,.inr ⟨.inr ⟨HJ.out.2.1 0 (by omega),q+1,M,code,L,by omega,by omega,HM.out.1,by rw [hn.1];exact hn.2.1,by rw [hn.1];exact hrel,hc0⟩,ty,v,rfl⟩⟩
      clear hrel hb2 hz hnz hc0 HSu HM HB
      go_wp2_with fail
      go_ret2
      exact HEnd.out
    ·
     have hltz:¬ (q:Int) < ((j - 1:Nat):Int):=by omega
     obtain ⟨t,ht⟩:∃ t,j - 1=t:=⟨_,rfl⟩
     rw [ht] at hltz
     obtain rfl:q=t:=by omega
     have HEnd:Hid (TogetherEnd cs w1 (.returned (.tuple #[.slice a M.length cap,.nilIface])) wr):=by
      refine ⟨HB.out,.inl ⟨a,cap,M,⟨HJ.out.2.1 0 (by omega),j,hj1,HJ.out.1,?_,HJ.out.2.2⟩,rfl,HM.out.2.2⟩⟩
      rw [show j=q+1 by omega]
      exact HM.out.1
     clear HM HB ht
     go_wp2_with fail
     go_ret2
     exact HEnd.out
  ·
   rw [if_neg hjl] at HIx
   obtain rfl:j=8:=by omega
   go_enter Tryz.func83,Tryz.ntmps83
   go_wp2_with fail
   refine HIx.out.mono ?_
   rintro e w1 ⟨rfl,rfl⟩
   go_wp2_with fail
   go_loopg [5,27] 8 (fun gk sv iv wr=>∃ (q:Nat) (a:Option Addr) (cap:Nat) (M:List (Int × Int)),sv=.slice a M.length cap ∧ iv=.int .i64 (q:Int) ∧ q+1 ≤ 8 ∧ 8 - q ≤ gk ∧ Hid (AddTo SumRel cs (q+1) M ∧ okCurve M ∧ Lies wr a M ∧ M.length ≤ cap ∧ cap ≤ maxLen) ∧ Hid (Below w1.heap.size w1 wr))
   case atStart=>exact ⟨0,a0,cap0,curveFl cs 0,by rw [HL0.out.2],rfl,by omega,by omega,⟨rfl,HK0.out.2,HL0.out.1.1,HL0.out.1.2.1,HL0.out.1.2.2⟩,Below.refl _ _⟩
   case round=>
    obtain ⟨q,a,cap,M,rfl,rfl,hqj,hgk,HM,HB⟩:=hrel
    by_cases hlt:q+1 < 8
    ·
     have hltz:(q:Int) < ((8 - 1:Nat):Int):=by omega
     obtain ⟨t,ht⟩:∃ t,8 - 1=t:=⟨_,rfl⟩
     rw [ht] at hltz
     obtain ⟨ls,hls,-⟩:=get_some cs (q+1) (by rw [H8.out];omega)
     obtain ⟨a',cap',cj0,hlies,hlc,hlm,-⟩:=HC.out (q+1) ls hls
     have cj:=cell_later HB.out cj0
     have hfl:=curveFl_get hls
     have hne:=HJ.out.2.1 (q+1) hlt
     rw [hfl] at hne
     have hokl:okCurve ls:=by
      rcases HCo.out (q+1) (by omega) with h | h
      · rw [hfl] at h;exact absurd h hne
      · rw [hfl] at h;exact h
     have HSu:=(show Hid (Calls Tryz.prog 119 #[.slice a M.length cap,.slice a' ls.length cap'] wr fun e w'=>SumEnd M ls wr e w') from sum_ends a a' cap cap' M ls wr ad (HE.out.below HB.out) HM.out.2.2.1 (hlies.below HB.out) HM.out.2.1 hokl)
     have HLs:Hid (curveFl cs (q+1)=ls ∧ ls ≠ [] ∧ okCurve ls):=⟨hfl,hne,hokl⟩
     rw [show off+(q+1)=off+1+q by omega] at cj
     obtain ⟨n',hn'⟩:∃ n',ls.length=n':=⟨_,rfl⟩
     obtain ⟨m',hm'⟩:∃ m',M.length=m':=⟨_,rfl⟩
     rw [hn'] at cj HSu
     rw [hm'] at HSu ⊢
     clear hls cj0 hlies hlc hlm hfl hne hokl hn' hm' ht
     go_wp2_with fail
     refine HSu.out.mono ?_
     rintro e w2 ⟨sa,sn,scap,E,code,L,rfl,hrel,hb2,hz,hnz⟩
     have HB2:Hid (Below w1.heap.size w1 w2):=HB.out.trans (hb2.mono HB.out.size)
     by_cases hc0:code=0
     ·
      obtain ⟨rfl,hsn,hlL,hL1,hL2⟩:=hz hc0
      have HM2:Hid (AddTo SumRel cs (q+1+1) L ∧ okCurve L ∧ Lies w2 sa L ∧ L.length ≤ scap ∧ scap ≤ maxLen):=by
       rw [hc0] at hrel
       have hn:=HLs.out
       exact ⟨addTo_next HM.out.1 (by rw [hn.1];exact hn.2.1) (by rw [hn.1];exact hrel),sumWay.ok M ls L HM.out.2.1 hn.2.2 hrel,hlL,hL1,hL2⟩
      have HSn:Hid (sn=L.length):=hsn
      clear hrel hb2 hz hnz hc0 hsn hlL hL1 hL2 HSu HM HB
      go_wp2_with fail
      go_roundg (8 - (q+1))
      case measure=>omega
      case rel=>exact ⟨q+1,sa,scap,L,by rw [HSn.out],by go_num,by omega,Nat.le_refl _,HM2,HB2⟩
     ·
      obtain ⟨ty,v,rfl⟩:=hnz hc0
      have HEnd:Hid (TogetherEnd cs w1 (.returned (.tuple #[.slice none 0 0,.iface ty v])) w2):=by
       have hn:=HLs.out
       exact ⟨HB2.out,.inr ⟨.inr ⟨HJ.out.2.1 0 (by omega),q+1,M,code,L,by omega,by omega,HM.out.1,by rw [hn.1];exact hn.2.1,by rw [hn.1];exact hrel,hc0⟩,ty,v,rfl⟩⟩
      clear hrel hb2 hz hnz hc0 HSu HM HB
      go_wp2_with fail
      go_ret2
      exact HEnd.out
    ·
     have hltz:¬ (q:Int) < ((8 - 1:Nat):Int):=by omega
     obtain ⟨t,ht⟩:∃ t,8 - 1=t:=⟨_,rfl⟩
     rw [ht] at hltz
     obtain rfl:q=t:=by omega
     have HEnd:Hid (TogetherEnd cs w1 (.returned (.tuple #[.slice a M.length cap,.nilIface])) wr):=by
      refine ⟨HB.out,.inl ⟨a,cap,M,⟨HJ.out.2.1 0 (by omega),8,hj1,HJ.out.1,?_,HJ.out.2.2⟩,rfl,HM.out.2.2⟩⟩
      rw [show 8=q+1 by omega]
      exact HM.out.1
     clear HM HB ht
     go_wp2_with fail
     go_ret2
     exact HEnd.out
end Go.Proofs.YtipdclphpkgceaaGreatDoor
