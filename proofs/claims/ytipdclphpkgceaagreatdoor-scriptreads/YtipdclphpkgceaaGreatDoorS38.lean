/- Own facts, put together: no statement of its own. -/
import Derived.Test.YtipdclphpkgceaaGreatDoorS32
import Derived.Test.YtipdclphpkgceaaGreatDoorS37
import Derived.ArgAppend
set_option maxHeartbeats 4000000
set_option maxRecDepth 100000

namespace Go.Proofs.YtipdclphpkgceaaGreatDoor
open Go.RowKit
def put4 (w:World) (b:Nat) (v0 v1 v2 v3:Value):World:=(((w.setCell ⟨b,0,none⟩ v0).setCell ⟨b,1,none⟩ v1).setCell ⟨b,2,none⟩ v2).setCell ⟨b,3,none⟩ v3
section
variable {w:World} {b:Nat} {v0 v1 v2 v3:Value}
theorem put4_but:But (fun k=>k=b) w (put4 w b v0 v1 v2 v3):=
 But.setCell (p:=⟨b,3,none⟩) (But.setCell (p:=⟨b,2,none⟩) (But.setCell (p:=⟨b,1,none⟩) (But.setCell (p:=⟨b,0,none⟩) (But.refl (fun k=>k=b) w) rfl _) rfl _) rfl _) rfl _
theorem put4_frozen (i:Nat):(put4 w b v0 v1 v2 v3).frozen? ⟨b,i,none⟩=w.frozen? ⟨b,i,none⟩:=by
 unfold put4
 rw [World.frozen?_setCell,World.frozen?_setCell,World.frozen?_setCell,World.frozen?_setCell]
theorem put4_cells {u0 u1 u2 u3 u4:Value} (h0:w.cell? ⟨b,0,none⟩=some u0) (h1:w.cell? ⟨b,1,none⟩=some u1) (h2:w.cell? ⟨b,2,none⟩=some u2) (h3:w.cell? ⟨b,3,none⟩=some u3) (h4:w.cell? ⟨b,4,none⟩=some u4) (i:Nat) (hi:i < 5) :
  (put4 w b v0 v1 v2 v3).cell? ⟨b,i,none⟩=(#[v0,v1,v2,v3,u4]:Array Value)[i]?:=by
 have e:∀ (W:World) (j k:Nat) (v:Value),j ≠ k → (W.setCell ⟨b,j,none⟩ v).cell? ⟨b,k,none⟩=W.cell? ⟨b,k,none⟩:=fun W j k v h=>World.cell?_setCell_other _ _ _ _ (by intro e';cases e';exact h rfl)
 unfold put4
 match i,hi with
 | 0,_=>
  rw [e _ 3 0 _ (by decide),e _ 2 0 _ (by decide),e _ 1 0 _ (by decide)]
  exact World.cell?_setCell_same' _ _ _ (by rw [h0];rfl)
 | 1,_=>
  rw [e _ 3 1 _ (by decide),e _ 2 1 _ (by decide)]
  exact World.cell?_setCell_same' _ _ _ (by rw [e _ 0 1 _ (by decide),h1];rfl)
 | 2,_=>
  rw [e _ 3 2 _ (by decide)]
  exact World.cell?_setCell_same' _ _ _ (by rw [e _ 1 2 _ (by decide),e _ 0 2 _ (by decide),h2];rfl)
 | 3,_=>exact World.cell?_setCell_same' _ _ _ (by rw [e _ 2 3 _ (by decide),e _ 1 3 _ (by decide),e _ 0 3 _ (by decide),h3];rfl)
 | 4,_=>
  rw [e _ 3 4 _ (by decide),e _ 2 4 _ (by decide),e _ 1 4 _ (by decide),e _ 0 4 _ (by decide),h4]
  rfl
end
theorem slim_of {s:Scr} (h:ScrOk s) {ns:List Int} (hn:ns.length ≤ 30):Slim s.cs ns:=by
 refine ⟨by rw [h.gate.len];decide,hn,fun i ls hi=>?_⟩
 rcases h.gate.curves i ls (by have:=lt_of_get hi;rw [h.gate.len] at this;exact this) hi with rfl | hk
 · simp
 · have:=hk.2.1;omega
section
variable (w0:World) (ad:Nat → Addr) (N g cb:Nat) (hS:Site w0 ad N g cb) (s:Scr) (w:World) (hw:Below w0.heap.size w0 w) (hp:PlayAt w N g cb s) (ho:ScrOk s)
theorem change_is (w0:World) (ad:Nat → Addr) (N g cb:Nat) (hS:Site w0 ad N g cb) (s:Scr) (w:World) (hw:Below w0.heap.size w0 w) (hp:PlayAt w N g cb s) (ho:ScrOk s) (kb:List UInt8) (per:Int) (na:Option Addr) (ncap:Nat) (ns:List Int) (hn:LiesN w na ns) (h1:ns.length ≤ ncap) (h2:ncap ≤ maxLen) (h3:na=none → ns=[] ∧ ncap=0) (hfar:∀ ad,na=some ad → N ≤ ad.block ∧ ad.block < w.heap.size ∧ ∀ na1 nc1 pv,PlayIn w N g cb na1 nc1 pv s → pv.ownBlock ≠ some ad.block) (h30:ns.length ≤ 30)
  (c p:Int) (hc:GateIs s.cs (kindOf kb) per ns c p) :
  Calls Tryz.prog 102 #[.pointer (some ⟨g,0,none⟩),.agg #[.slice (some ⟨cb,0,none⟩) 8 8,strW kb,.int .i64 per,.slice na ns.length ncap]] w fun e w'=>SetEnd N g cb s { s with kb:=kb,per:=per,ns:=ns } c w e w':=by
 have he:=hS.env.below hw
 obtain ⟨na1,nc1,pv,hpi⟩:=hp
 have hb1:Below w.heap.size w (w.alloc (.cells #[.slice (some ⟨cb,0,none⟩) 8 8,strW kb,.int .i64 per,.slice na ns.length ncap] 70)):=(Below.refl _ _).alloc (Nat.le_refl _) _
 have hga:=gateAt_new w (.slice (some ⟨cb,0,none⟩) 8 8) ⟨kb.toArray⟩ per (.slice na ns.length ncap) 70
 obtain ⟨V,hV⟩:∃ V,w.alloc (.cells #[.slice (some ⟨cb,0,none⟩) 8 8,strW kb,.int .i64 per,.slice na ns.length ncap] 70)=V:=⟨_,rfl⟩
 rw [hV] at hb1 hga
 have HCh:Hid (Calls Tryz.prog 82 #[.agg #[.slice (some ⟨cb,0,none⟩) 8 8,strW kb,.int .i64 per,.slice na ns.length ncap]] V fun e w'=>∃ E,e=.returned E ∧ ErrIs w' E c p ∧ Below V.heap.size V w'):=by
  have hg:=hpi.gate ho.gate.len (slim_of ho (ns:=s.ns) (by rcases ho.gate.nums.len with h | h;rw [h.2];decide;omega))
  have hg':GateLies V (some ⟨cb,0,none⟩) 8 s.cs na ncap ns:=⟨hg.curves.below hb1,hg.cfit,hg.cmax,hn.below hb1,h1,h2,h3,slim_of ho h30⟩
  have:=gateWalks.check (some ⟨cb,0,none⟩) 8 s.cs ⟨kb.toArray⟩ per na ncap ns V ad c p (he.below hb1).errs hg' (by rw [ByteArray.toList_mk];exact hc)
  rw [ho.gate.len] at this
  exact this
 have HEnd:Hid (∀ W,Below V.heap.size V W → GateAt W w.heap.size (.slice (some ⟨cb,0,none⟩) 8 8) ⟨kb.toArray⟩ per (.slice na ns.length ncap) ∧ (∀ i,i < 4 → ∃ u,W.cell? ⟨g,i,none⟩=some u) ∧ (∀ i,W.frozen? ⟨g,i,none⟩=false) ∧ (c=0 → SetEnd N g cb s { s with kb:=kb,per:=per,ns:=ns } c w (.returned .nilIface) (put4 W g (.slice (some ⟨cb,0,none⟩) 8 8) (strW kb) (.int .i64 per) (.slice na ns.length ncap)))):=fun W hW=>by
  have hbW:=hb1.trans (hW.mono hb1.size)
  have hpW:=hpi.below hbW
  refine ⟨hga.later hW,fun i hi=>?_,hpW.fg,fun h0=>?_⟩
  ·
   match i,hi with
   | 0,_=>exact ⟨_,hpW.c0⟩
   | 1,_=>exact ⟨_,hpW.c1⟩
   | 2,_=>exact ⟨_,hpW.c2⟩
   | 3,_=>exact ⟨_,hpW.c3⟩
  ·
   obtain ⟨k1,k2⟩:=hpW.setGate kb per (hn.below hbW) h1 h2 h3 (fun a e=>⟨(hfar a e).1,Nat.lt_of_lt_of_le (hfar a e).2.1 hbW.size,(hfar a e).2.2 _ _ _ hpi⟩) (put4_but (w:=W) (b:=g) (v0:=.slice (some ⟨cb,0,none⟩) 8 8) (v1:=strW kb) (v2:=.int .i64 per) (v3:=.slice na ns.length ncap)) (put4_cells hpW.c0 hpW.c1 hpW.c2 hpW.c3 hpW.c4) (fun i=>by rw [put4_frozen];exact hpW.fg i)
   subst h0
   exact ⟨.nilIface,-1,rfl,errIs_nil _,(But.ofBelow hbW).trans k2,.inl ⟨rfl,na,ncap,pv,k1⟩⟩
 have HEr:Hid (∀ W E,Below V.heap.size V W → ErrIs W E c p → c ≠ 0 → SetEnd N g cb s { s with kb:=kb,per:=per,ns:=ns } c w (.returned E) W):=fun W E hW hE h0=>setEnd_bad ⟨na1,nc1,pv,hpi⟩ (hb1.trans (hW.mono hb1.size)) hE h0
 obtain ⟨r,hr⟩:∃ r,ns.length=r:=⟨_,rfl⟩
 rw [hr] at HCh HEnd hV ⊢
 obtain ⟨y0,y1,y2,y3⟩:=(HEnd.out V (Below.refl _ _)).1
 clear hn h1 h2 h3 hfar h30 hc he hpi hb1 hga hr hw ho hS
 go_enter Tryz.func102,Tryz.ntmps102
 go_wp2_with fail
 refine HCh.out.mono ?_
 rintro e w1 ⟨E,rfl,hE,hb2⟩
 clear y0 y1 y2 y3
 by_cases hc0:c=0
 ·
  obtain rfl:=hE.none_ hc0
  obtain ⟨⟨z0,z1,z2,z3⟩,hu,hf,hend⟩:=HEnd.out w1 hb2
  obtain ⟨u0,x0⟩:=hu 0 (by decide)
  obtain ⟨u1,x1⟩:=hu 1 (by decide)
  obtain ⟨u2,x2⟩:=hu 2 (by decide)
  obtain ⟨u3,x3⟩:=hu 3 (by decide)
  have f0:=hf 0
  have f1:=hf 1
  have f2:=hf 2
  have f3:=hf 3
  have HE:=(show Hid (SetEnd N g cb s { s with kb:=kb,per:=per,ns:=ns } c w (.returned .nilIface) (put4 w1 g (.slice (some ⟨cb,0,none⟩) 8 8) (strW kb) (.int .i64 per) (.slice na r ncap))) from hend hc0)
  unfold put4 at HE
  clear hE hb2 hu hf hend hc0 HEnd hV HCh HEr
  go_wp2_with fail
  go_ret
  exact HE.out
 ·
  have HE:=(show Hid (SetEnd N g cb s { s with kb:=kb,per:=per,ns:=ns } c w (.returned E) w1) from HEr.out w1 E hb2 hE hc0)
  obtain ⟨ty,v,rfl⟩:=hE.some_ hc0
  clear hE hb2 hc0 HEnd HCh HEr
  go_wp2_with fail
  go_ret
  exact HE.out
theorem far_new {w W:World} {N g cb:Nat} {s:Scr} (hp:PlayAt w N g cb s) (hb:Below w.heap.size w W) {b:Nat} (hb1:w.heap.size ≤ b):N ≤ b ∧ ∀ na1 nc1 pv,PlayIn W N g cb na1 nc1 pv s → pv.ownBlock ≠ some b:=by
 obtain ⟨na,nc,pv,h⟩:=hp
 refine ⟨Nat.le_trans h.wN hb1,fun na1 nc1 pv1 h1 e=>?_⟩
 have:pv=pv1:=Option.some.inj ((cell_later hb h.c4).symm.trans h1.c4)
 subst this
 have:=(ownsRow_lt h.pks e).2
 omega
theorem setNumbers_is (w0:World) (ad:Nat → Addr) (N g cb:Nat) (hS:Site w0 ad N g cb) (s:Scr) (w:World) (hw:Below w0.heap.size w0 w) (hp:PlayAt w N g cb s) (ho:ScrOk s) (wb:Nat) (ws:List (List UInt8)) (hl:LiesW w (some ⟨wb,0,none⟩) ws) (hs:ShortW ws) (c:Int) (s1:Scr) (hc:NumbersTo s ws c s1) :
  Calls Tryz.prog 75 #[.pointer (some ⟨g,0,none⟩),.slice (some ⟨wb,0,none⟩) ws.length ws.length] w fun e w'=>SetEnd N g cb s s1 c w e w':=by
 have he:=hS.env.below hw
 have HRn:Hid (Calls Tryz.prog 103 #[.slice (some ⟨wb,0,none⟩) ws.length ws.length] w fun e w'=>ReadsEnd (ad 0) (numsW ws) w e w'):=readNumbers_is _ _ ws w (ad 0) he.errs.c0 hl hs
 have HEt:Hid (∀ W,Below w.heap.size w W → c=1 → SetEnd N g cb s s1 c w (.returned (.iface 312 (.pointer (some (ad 0))))) W):=fun W hW h1=>by
  subst h1
  exact setEnd_bad hp hW (errIs_sent (he.below hW).errs 0 (by decide)) (by decide)
 obtain ⟨n,hn⟩:∃ n,ws.length=n:=⟨_,rfl⟩
 have HC:Hid (NumbersTo s ws c s1 ∧ ws.length=n):=⟨hc,hn⟩
 have c0:=he.errs.c0
 have HS:Hid (Site w0 ad N g cb ∧ Below w0.heap.size w0 w ∧ PlayAt w N g cb s ∧ ScrOk s):=⟨hS,hw,hp,ho⟩
 rw [hn] at HRn ⊢
 clear hl hs hn he hc hS hw hp ho
 by_cases h8:n=8
 ·
  subst h8
  go_enter Tryz.func75,Tryz.ntmps75
  go_wp2_with fail
  refine HRn.out.mono ?_
  rintro e w1 ⟨hb1,⟨hns,rfl⟩ | ⟨ns,G,hns,rfl,hG,hGl,hln⟩⟩
  ·
   have HE:Hid (SetEnd N g cb s s1 c w (.returned (.iface 312 (.pointer (some (ad 0))))) w1):=by
    refine HEt.out w1 hb1 ?_
    obtain ⟨h,-⟩ | ⟨-,⟨-,h,-⟩ | ⟨ns,p,h,-⟩⟩:=HC.out.1
    · exact absurd HC.out.2 h
    · exact h
    · rw [hns] at h;cases h
   clear hns hb1
   go_wp2_with fail
   go_ret
   exact HE.out
  ·
   obtain ⟨p,hs1,hgi⟩:∃ p,s1={ s with ns:=ns } ∧ GateIs s.cs (kindOf s.kb) s.per ns c p:=by
    obtain ⟨h,-⟩ | ⟨-,⟨h,-⟩ | ⟨ns',p,h,e1,e2⟩⟩:=HC.out.1
    · exact absurd HC.out.2 h
    · rw [hns] at h;cases h
    ·
     rw [hns] at h
     obtain rfl:=Option.some.inj h
     exact ⟨p,e1,e2⟩
   have hl8:ns.length=8:=by rw [numsW_length hns,HC.out.2]
   obtain ⟨na1,nc1,pv,hpi⟩:=HS.out.2.2.1
   have hp1:=hpi.below hb1
   have y0:=hp1.c0
   have y1:=hp1.c1
   have y2:=hp1.c2
   have y3:=hp1.c3
   have HCh:Hid (∀ W,Below w1.heap.size w1 W → Calls Tryz.prog 102 #[.pointer (some ⟨g,0,none⟩),.agg #[.slice (some ⟨cb,0,none⟩) 8 8,strW s.kb,.int .i64 s.per,.slice (some ⟨G,0,none⟩) 8 8]] W fun e w'=>∃ E,e=.returned E ∧ SetEnd N g cb s s1 c w (.returned E) w'):=fun W hW=>by
    have hbW:=hb1.trans (hW.mono hb1.size)
    have hf:=far_new HS.out.2.2.1 hbW (b:=G) hG
    have:=change_is w0 ad N g cb HS.out.1 s W (HS.out.2.1.trans (hbW.mono HS.out.2.1.size)) (HS.out.2.2.1.below hbW) HS.out.2.2.2 s.kb s.per (some ⟨G,0,none⟩) 8 ns (hln.below hW) (by omega) (by simp [maxLen]) (fun e=>by cases e) (fun a e=>by cases e;exact ⟨hf.1,Nat.lt_of_lt_of_le hGl hW.size,hf.2⟩) (by omega) c p hgi
    rw [hl8] at this
    refine this.mono ?_
    rintro e w' ⟨E,q,rfl,hE,hbt,hend⟩
    refine ⟨E,rfl,E,q,rfl,hE,(But.ofBelow hbW).trans hbt,?_⟩
    rw [hs1]
    exact hend
   rw [hl8]
   obtain ⟨kb,hkb⟩:∃ kb,s.kb=kb:=⟨_,rfl⟩
   obtain ⟨per,hper⟩:∃ per,s.per=per:=⟨_,rfl⟩
   obtain ⟨r,hr⟩:∃ r,s.ns.length=r:=⟨_,rfl⟩
   rw [hkb] at y1 HCh
   rw [hper] at y2 HCh
   rw [hr] at y3
   clear hns hb1 hG hGl hln hs1 hgi hl8 hpi hp1 hkb hper hr
   go_wp2_with fail
   refine (HCh.out _ ?_).mono ?_
   · exact (Below.refl _ _).alloc (Nat.le_refl _) _
   rintro e w2 ⟨E,rfl,hE⟩
   have HE:Hid (SetEnd N g cb s s1 c w (.returned E) w2):=hE
   clear hE
   go_wp2_with fail
   go_ret
   exact HE.out
 ·
  have h8':((n:Int) == 8)=false:=by simp;omega
  have HE:Hid (SetEnd N g cb s s1 c w (.returned (.iface 312 (.pointer (some (ad 0))))) w):=by
   refine HEt.out w (Below.refl _ _) ?_
   obtain ⟨-,h,-⟩ | ⟨h,-⟩:=HC.out.1
   · exact h
   · exact absurd (HC.out.2.symm.trans h) h8
  clear h8
  go_enter Tryz.func75,Tryz.ntmps75
  go_wp2_with fail
  go_ret
  exact HE.out
end
end Go.Proofs.YtipdclphpkgceaaGreatDoor

namespace Go.Proofs.YtipdclphpkgceaaGreatDoor
open Go.RowKit Go.Extern.Stop Go.Stop Go.Extern
theorem is_nil (a:Addr) (w:World):Calls Tryz.prog 28 #[.nilIface,.iface 312 (.pointer (some a))] w fun e w'=>e=.returned (.bool false) ∧ w'=w:=by
 have heq:(binOp .eql 25 .nilIface (.iface 312 (.pointer (some a)))).run Tryz.prog w=.ok (.bool false) w:=by kernel_rfl
 go_enter Tryz.func28,Tryz.ntmps28
 go_wp2_with fail
 go_ret
 exact ⟨rfl,rfl⟩
theorem isKind_is {w:World} {ad:Nat → Addr} {E:Value} {c p:Int} (he:Errs9 w ad) (hE:ErrIs w E c p) (hc:c=0 ∨ known c) :
  Calls Tryz.prog 28 #[E,.iface 312 (.pointer (some (ad 8)))] w fun e w'=>e=.returned (.bool (decide (c=9))) ∧ w'=w:=by
 rcases hc with rfl | hk
 ·
  rw [hE.none_ rfl]
  exact is_nil (ad 8) w
 ·
  rcases hE.code with ⟨-,h0,-⟩ | ⟨ad',he',k,hk9,hck,hEE⟩
  ·
   subst h0
   rcases hk with h | h <;> omega
  ·
   have hsx:six k:=by unfold six;rcases hk with h | h <;> omega
   have e1:ad' k=ad k:=he'.one he k hsx
   obtain ⟨cb,tb,hb⟩:=he.blk 8 (.inr rfl)
   by_cases h8:k=8
   ·
    subst h8
    have hd:decide (c=9)=true:=decide_eq_true (by omega)
    rw [hd]
    rcases hEE with ⟨rfl,-⟩ | ⟨pb,rfl,-,h3⟩
    ·
     rw [e1]
     exact is_same (ad 8) w
    ·
     rw [e1] at h3
     exact is_fault_same pb (ad 8) w h3
   ·
    have hd:decide (c=9)=false:=decide_eq_false (by omega)
    rw [hd]
    obtain ⟨ca,ta,ha⟩:=he.blk k hsx
    have hne:=he.ne k 8 hsx (.inr rfl) h8
    rcases hEE with ⟨rfl,-⟩ | ⟨pb,rfl,-,h3⟩
    ·
     rw [e1]
     exact is_other (ad k) (ad 8) ca cb ta tb w hne ha hb
    ·
     rw [e1] at h3
     exact is_fault_other pb (ad 8) (ad k) ca cb ta tb w h3 hne ha hb
def FirstEnd (k:List UInt8) (w:World) (e:Ending) (w':World):Prop:=
 ∃ na ncap,e=.returned (.slice na (firstNs k).length ncap) ∧ LiesN w' na (firstNs k) ∧ (firstNs k).length ≤ ncap ∧ ncap ≤ maxLen ∧ (na=none → firstNs k=[] ∧ ncap=0) ∧ (∀ a,na=some a → w.heap.size ≤ a.block ∧ a.block < w'.heap.size) ∧ Below w.heap.size w w'
theorem firstNumbers_is (k:List UInt8) (w:World):Calls Tryz.prog 101 #[strW k] w fun e w'=>FirstEnd k w e w':=by
 have ht:((⟨k.toArray⟩:ByteArray).toList == ByteArray.toList ⟨#[102,105,102,111]⟩)=decide (k=fifoW):=by
  rw [ByteArray.toList_mk,bytes_fifo]
  by_cases h:k=fifoW
  · rw [decide_eq_true h,h];decide
  ·
   rw [decide_eq_false h]
   simpa [fifoW] using h
 by_cases h:k=fifoW
 ·
  have HE:Hid (FirstEnd k w (.returned (.slice none 0 0)) w):=⟨none,0,by simp [firstNs,h],.inl (by simp [firstNs,h]),by simp [firstNs,h],by simp [maxLen],(fun _=>⟨by simp [firstNs,h],rfl⟩),(fun a e=>by cases e),Below.refl _ _⟩
  rw [decide_eq_true h] at ht
  clear h
  obtain ⟨ks,hks⟩:∃ ks:ByteArray,⟨k.toArray⟩=ks:=⟨_,rfl⟩
  show Calls Tryz.prog 101 #[.string ⟨k.toArray⟩] w fun e w'=>FirstEnd k w e w'
  rw [hks] at ht ⊢
  have ht':(ks.toList == [102,105,102,111])=true:=by rw [← bytes_fifo];exact ht
  go_enter Tryz.func101,Tryz.ntmps101
  go_wp2_with fail
  go_ret
  exact HE.out
 ·
  rw [decide_eq_false h] at ht
  have hf:firstNs k=[1,1,1,1,1,1,1,1]:=by simp [firstNs,h,onesW]
  have hb1:Below w.heap.size w (w.alloc (.cells #[.int .i64 1] 3)):=(Below.refl _ _).alloc (Nat.le_refl _) _
  have HR:Hid (Calls Tryz.prog 129 #[.slice (some ⟨w.heap.size,0,none⟩) 1 1,.int .i64 8] (w.alloc (.cells #[.int .i64 1] 3)) fun e w'=>FirstEnd k w e w'):=by
   refine (repeat_ones w.heap.size _ (by simp)).mono ?_
   rintro e w' ⟨G,rfl,hG,hl,hb⟩
   have hGl:G < w'.heap.size:=by
    rcases hl with h' | ⟨b,off,h',hlt,-⟩
    · cases h'
    · cases h';exact hlt
   exact ⟨some ⟨G,0,none⟩,8,by rw [hf];rfl,by rw [hf];exact hl,by rw [hf];decide,by simp [maxLen],(fun e=>by cases e),(fun a e=>by cases e;exact ⟨Nat.le_trans hb1.size hG,hGl⟩),hb1.trans (hb.mono hb1.size)⟩
  clear h hf hb1
  obtain ⟨ks,hks⟩:∃ ks:ByteArray,⟨k.toArray⟩=ks:=⟨_,rfl⟩
  show Calls Tryz.prog 101 #[.string ⟨k.toArray⟩] w fun e w'=>FirstEnd k w e w'
  rw [hks] at ht ⊢
  have ht':(ks.toList == [102,105,102,111])=false:=by rw [← bytes_fifo];exact ht
  go_enter Tryz.func101,Tryz.ntmps101
  go_wp2_with fail
  refine HR.out.mono ?_
  rintro e w1 h
  obtain ⟨na,ncap,rfl,h2⟩:=h
  have HE:Hid (FirstEnd k w (.returned (.slice na (firstNs k).length ncap)) w1):=⟨na,ncap,rfl,h2⟩
  clear h2
  obtain ⟨r,hr⟩:∃ r,(firstNs k).length=r:=⟨_,rfl⟩
  rw [hr] at HE ⊢
  clear hr
  go_wp2_with fail
  go_ret
  exact HE.out
theorem faultIs_known {ls:List (Int × Int)} {c p:Int} (h:FaultIs ls c p):c=0 ∨ c=2 ∨ c=3:=by
 rcases h with ⟨-,h,-⟩ | ⟨-,-,j,-,-,-,h,-⟩ | ⟨-,h,-⟩
 · exact .inr (.inr h)
 · exact .inr (.inl h)
 · exact .inl h
theorem gateIs_known {cs:List (List (Int × Int))} {k:Nat} {per:Int} {ns:List Int} {d p:Int} (h:GateIs cs k per ns d p):d=0 ∨ known d:=by
 unfold known
 rcases h with ⟨-,h,-⟩ | ⟨-,i,⟨ls,q,-,-,hf,-⟩,-⟩ | ⟨-,-,-,⟨-,h⟩ | ⟨-,-,⟨-,h⟩ | ⟨-,-,m,hd,h⟩⟩⟩
 · omega
 ·
  have:=faultIs_known hf
  omega
 · omega
 · omega
 ·
  have:=hd.few
  omega
section
variable (w0:World) (ad:Nat → Addr) (N g cb:Nat) (hS:Site w0 ad N g cb) (s:Scr) (w:World) (hw:Below w0.heap.size w0 w) (hp:PlayAt w N g cb s) (ho:ScrOk s)
theorem setLink_is (w0:World) (ad:Nat → Addr) (N g cb:Nat) (hS:Site w0 ad N g cb) (s:Scr) (w:World) (hw:Below w0.heap.size w0 w) (hp:PlayAt w N g cb s) (ho:ScrOk s) (wb:Nat) (ws:List (List UInt8)) (hl:LiesW w (some ⟨wb,0,none⟩) ws) (hs:ShortW ws) (c:Int) (s1:Scr) (hc:LinkTo s ws c s1) :
  Calls Tryz.prog 74 #[.pointer (some ⟨g,0,none⟩),.slice (some ⟨wb,0,none⟩) ws.length ws.length] w fun e w'=>SetEnd N g cb s s1 c w e w':=by
 have he:=hS.env.below hw
 have HEt:Hid (∀ W,Below w.heap.size w W → c=1 → SetEnd N g cb s s1 c w (.returned (.iface 312 (.pointer (some (ad 0))))) W):=fun W hW h1=>by
  subst h1
  exact setEnd_bad hp hW (errIs_sent (he.below hW).errs 0 (by decide)) (by decide)
 have c0:=he.errs.c0
 have HS:Hid (Site w0 ad N g cb ∧ Below w0.heap.size w0 w ∧ PlayAt w N g cb s ∧ ScrOk s ∧ Env w ad):=⟨hS,hw,hp,ho,he⟩
 by_cases h2:ws.length=2
 ·
  obtain ⟨k,y,rfl⟩:∃ k y,ws=[k,y]:=by
   match ws,h2 with
   | [k,y],_=>exact ⟨k,y,rfl⟩
  obtain ⟨x0,x1,hlt⟩:w.cell? ⟨wb,0,none⟩=some (strW k) ∧ w.cell? ⟨wb,1,none⟩=some (strW y) ∧ wb < w.heap.size:=by
   obtain ⟨b,off,e,hlt,hc⟩:=hl.place (by simp)
   cases e
   exact ⟨hc 0 k rfl,hc 1 y rfl,hlt⟩
  have HRn:Hid (Calls Tryz.prog 100 #[strW y] w fun e w'=>ReadEnd (ad 0) (numW y) w e w'):=readNumber_is ⟨y.toArray⟩ w (ad 0) he.errs.c0 (by have:=hs.2 y (by simp);show y.toArray.size ≤ _;simp;omega)
  have HC:Hid (LinkTo s [k,y] c s1):=hc
  clear hl hs hc h2 hS hw hp ho he
  go_enter Tryz.func74,Tryz.ntmps74
  go_wp2_with fail
  refine HRn.out.mono ?_
  rintro e w1 ⟨hb1,⟨hn,rfl⟩ | ⟨per,hn,rfl⟩⟩
  ·
   have HE:Hid (SetEnd N g cb s s1 c w (.returned (.iface 312 (.pointer (some (ad 0))))) w1):=by
    refine HEt.out w1 hb1 ?_
    obtain ⟨h,-⟩ | ⟨k',y',e,⟨-,h,-⟩ | ⟨per,h,-⟩⟩:=HC.out
    · exact absurd rfl h
    · exact h
    ·
     cases e
     rw [hn] at h;cases h
   clear hn hb1
   go_wp2_with fail
   go_ret
   exact HE.out
  ·
   obtain ⟨hs1,d,p,hgi,hcd⟩:s1={ s with kb:=k,per:=per,ns:=firstNs k } ∧ ∃ d p,GateIs s.cs (kindOf k) per (firstNs k) d p ∧ ((d=9 ∧ c=1) ∨ (d ≠ 9 ∧ c=d)):=by
    obtain ⟨h,-⟩ | ⟨k',y',e,⟨h,-⟩ | ⟨per',h,e1,e2⟩⟩:=HC.out
    · exact absurd rfl h
    ·
     cases e
     rw [hn] at h;cases h
    ·
     cases e
     rw [hn] at h
     obtain rfl:=Option.some.inj h
     exact ⟨e1,e2⟩
   obtain ⟨na1,nc1,pv,hpi⟩:=HS.out.2.2.1
   have hp1:=hpi.below hb1
   have y0:=hp1.c0
   have y1:=hp1.c1
   have y2:=hp1.c2
   have y3:=hp1.c3
   have z0:=cell_later hb1 x0
   obtain ⟨okb,hkb⟩:∃ kb,s.kb=kb:=⟨_,rfl⟩
   obtain ⟨oper,hper⟩:∃ per,s.per=per:=⟨_,rfl⟩
   obtain ⟨r,hr⟩:∃ r,s.ns.length=r:=⟨_,rfl⟩
   rw [hkb] at y1
   rw [hper] at y2
   rw [hr] at y3
   have HB1:Hid (Below w.heap.size w w1 ∧ wb < w1.heap.size):=⟨hb1,Nat.lt_of_lt_of_le hlt hb1.size⟩
   have HD:Hid (s1={ s with kb:=k,per:=per,ns:=firstNs k } ∧ GateIs s.cs (kindOf k) per (firstNs k) d p ∧ ((d=9 ∧ c=1) ∨ (d ≠ 9 ∧ c=d))):=⟨hs1,hgi,hcd⟩
   clear hn hpi hp1 hkb hper hr x0 x1 c0 hb1 hs1 hgi hcd hlt HRn HC
   go_wp2_with fail
   have hb2:Below w1.heap.size w1 (w1.alloc (.cells #[.slice (some ⟨cb,0,none⟩) 8 8,strW okb,.int .i64 oper,.slice na1 r nc1] 70)):=(Below.refl _ _).alloc (Nat.le_refl _) _
   have hga:=gateAt_new w1 (.slice (some ⟨cb,0,none⟩) 8 8) ⟨okb.toArray⟩ oper (.slice na1 r nc1) 70
   have hfz:∀ i,(w1.alloc (.cells #[.slice (some ⟨cb,0,none⟩) 8 8,strW okb,.int .i64 oper,.slice na1 r nc1] 70)).frozen? ⟨w1.heap.size,i,none⟩=false:=fun i=>World.frozen?_alloc_new w1 _ _ i
   obtain ⟨V1,hV1⟩:∃ V1,w1.alloc (.cells #[.slice (some ⟨cb,0,none⟩) 8 8,strW okb,.int .i64 oper,.slice na1 r nc1] 70)=V1:=⟨_,rfl⟩
   rw [hV1] at hb2 hga hfz ⊢
   have hXl:w1.heap.size < V1.heap.size:=by rw [← hV1];simp
   obtain ⟨X,hX⟩:∃ X,w1.heap.size=X:=⟨_,rfl⟩
   have HX:Hid (w1.heap.size=X ∧ wb < X ∧ Below w1.heap.size w1 V1 ∧ X < V1.heap.size):=⟨hX,by rw [← hX];exact HB1.out.2,hb2,by rw [← hX];exact hXl⟩
   rw [hX] at hga hfz ⊢
   have HXg:Hid (∀ W,Below V1.heap.size V1 W → GateAt W X (.slice (some ⟨cb,0,none⟩) 8 8) ⟨okb.toArray⟩ oper (.slice na1 r nc1) ∧ (∀ i,W.frozen? ⟨X,i,none⟩=false)):=fun W hW=>⟨hga.later hW,fun i=>by rw [hW.frozen (p:=⟨X,i,none⟩) HX.out.2.2.2];exact hfz i⟩
   have HFn:Hid (∀ W,Below V1.heap.size V1 W → Calls Tryz.prog 101 #[strW k] W fun e w'=>FirstEnd k W e w'):=fun W _=>firstNumbers_is k W
   have hS:=cell_later hb2 z0
   have HSb:Hid (∀ W,Below V1.heap.size V1 W → W.cell? ⟨wb,0,none⟩=some (strW k)):=fun W hW=>cell_later hW hS
   have HSs:Hid (∀ (W:World) i v,W.cell? ⟨wb,0,none⟩=some (strW k) → (W.setCell ⟨X,i,none⟩ v).cell? ⟨wb,0,none⟩=some (strW k)):=fun W i v hW=>by
    have:=HX.out.2.1
    rw [World.cell?_setCell_other _ _ _ _ (fun e=>by injection e with e;omega)]
    exact hW
   have HB:Hid (Below V1.heap.size V1 V1.drew):=below_drewN (Below.refl _ _) 1
   have hS:=HSb.out _ HB.out
   clear hb2 hga hfz hV1 hX hXl y0 y1 y2 y3 z0
   go_region_held3 (fun w'=>w'.cell? ⟨wb,0,none⟩=some (strW k))
    (first | exact hS | exact HSs.out _ _ _ hS | exact HSs.out _ _ _ (HSs.out _ _ _ hS) | exact HSs.out _ _ _ (HSs.out _ _ _ (HSs.out _ _ _ hS)))
    (first
    | (go_at_call 101;refine (HFn.out _ HB.out).mono ?_;rintro e w6 ⟨na,ncap,rfl,q1,q2,q3,q4,q5,hb6⟩;have HF:Hid (LiesN w6 na (firstNs k) ∧ (firstNs k).length ≤ ncap ∧ ncap ≤ maxLen ∧ (na=none → firstNs k=[] ∧ ncap=0) ∧ (∀ a,na=some a → V1.heap.size ≤ a.block ∧ a.block < w6.heap.size)):=⟨q1,q2,q3,q4,(fun a e=>⟨Nat.le_trans (by simp) (q5 a e).1,(q5 a e).2⟩)⟩;have HB:Hid (Below V1.heap.size V1 w6):=HB.out.trans (hb6.mono HB.out.size);have hS:=HSb.out _ HB.out;obtain ⟨⟨g0,g1,g2,g3⟩,hf6⟩:=HXg.out _ HB.out;have f1:=hf6 1;have f2:=hf6 2;have f3:=hf6 3;obtain ⟨m,hm⟩:∃ m,(firstNs k).length=m:=⟨_,rfl⟩;have HM:Hid ((firstNs k).length=m):=hm;rw [hm];clear hm hb6 q1 q2 q3 q4 q5 hf6))
   have hbV:Below w1.heap.size w1 (((w6.setCell ⟨X,1,none⟩ (strW k)).setCell ⟨X,2,none⟩ (.int .i64 per)).setCell ⟨X,3,none⟩ (.slice na m ncap)):=by
    have hb6:=HX.out.2.2.1.trans (HB.out.mono HX.out.2.2.1.size)
    have hx:w1.heap.size ≤ X:=by rw [HX.out.1];exact Nat.le_refl _
    exact below_store (below_store (below_store hb6 hx _) hx _) hx _
   have hbt:But (fun b=>b=X) w6 (((w6.setCell ⟨X,1,none⟩ (strW k)).setCell ⟨X,2,none⟩ (.int .i64 per)).setCell ⟨X,3,none⟩ (.slice na m ncap)):=But.setCell (p:=⟨X,3,none⟩) (But.setCell (p:=⟨X,2,none⟩) (But.setCell (p:=⟨X,1,none⟩) (But.refl (fun b=>b=X) w6) rfl _) rfl _) rfl _
   have e:∀ (W:World) (j k:Nat) (v:Value),j ≠ k → (W.setCell ⟨X,j,none⟩ v).cell? ⟨X,k,none⟩=W.cell? ⟨X,k,none⟩:=fun W j k v h=>World.cell?_setCell_other _ _ _ _ (by intro e';cases e';exact h rfl)
   have l0:(((w6.setCell ⟨X,1,none⟩ (strW k)).setCell ⟨X,2,none⟩ (.int .i64 per)).setCell ⟨X,3,none⟩ (.slice na m ncap)).cell? ⟨X,0,none⟩=some (.slice (some ⟨cb,0,none⟩) 8 8):=by
    rw [e _ 3 0 _ (by decide),e _ 2 0 _ (by decide),e _ 1 0 _ (by decide)];exact g0
   have l1:(((w6.setCell ⟨X,1,none⟩ (strW k)).setCell ⟨X,2,none⟩ (.int .i64 per)).setCell ⟨X,3,none⟩ (.slice na m ncap)).cell? ⟨X,1,none⟩=some (strW k):=by
    rw [e _ 3 1 _ (by decide),e _ 2 1 _ (by decide)];exact World.cell?_setCell_same' _ _ _ (by rw [g1];rfl)
   have l2:(((w6.setCell ⟨X,1,none⟩ (strW k)).setCell ⟨X,2,none⟩ (.int .i64 per)).setCell ⟨X,3,none⟩ (.slice na m ncap)).cell? ⟨X,2,none⟩=some (.int .i64 per):=by
    rw [e _ 3 2 _ (by decide)];exact World.cell?_setCell_same' _ _ _ (by rw [e _ 1 2 _ (by decide),g2];rfl)
   have l3:(((w6.setCell ⟨X,1,none⟩ (strW k)).setCell ⟨X,2,none⟩ (.int .i64 per)).setCell ⟨X,3,none⟩ (.slice na m ncap)).cell? ⟨X,3,none⟩=some (.slice na m ncap):=
    World.cell?_setCell_same' _ _ _ (by rw [e _ 2 3 _ (by decide),e _ 1 3 _ (by decide),g3];rfl)
   obtain ⟨V2,hV2⟩:∃ V2,((w6.setCell ⟨X,1,none⟩ (strW k)).setCell ⟨X,2,none⟩ (.int .i64 per)).setCell ⟨X,3,none⟩ (.slice na m ncap)=V2:=⟨_,rfl⟩
   rw [hV2] at hbV hbt l0 l1 l2 l3
   have HCh:Hid (Calls Tryz.prog 102 #[.pointer (some ⟨g,0,none⟩),.agg #[.slice (some ⟨cb,0,none⟩) 8 8,strW k,.int .i64 per,.slice na m ncap]] V2 fun e w'=>SetEnd N g cb s s1 d V2 e w'):=by
    have hb2:=HB1.out.1.trans (hbV.mono HB1.out.1.size)
    obtain ⟨q1,q2,q3,q4,q5⟩:=HF.out
    have:=change_is w0 ad N g cb HS.out.1 s V2 (HS.out.2.1.trans (hb2.mono HS.out.2.1.size)) (HS.out.2.2.1.below hb2) HS.out.2.2.2.1 k per na ncap (firstNs k) (liesN_keep q1 hbt fun a ea=>by have:=(q5 a ea).1;have:=HX.out.2.2.2;show ¬ a.block=X;omega) q2 q3 q4 (fun a ea=>by
     have hf:=far_new HS.out.2.2.1 hb2 (b:=a.block) (by have:=(q5 a ea).1;have:=HX.out.2.2.1.size;have:=HB1.out.1.size;omega)
     exact ⟨hf.1,Nat.lt_of_lt_of_le (q5 a ea).2 hbt.size,hf.2⟩) (by unfold firstNs;split <;> decide) d p HD.out.2.1
    rw [HM.out] at this
    rw [HD.out.1]
    exact this
   have HV2:Hid (Below w.heap.size w V2):=HB1.out.1.trans (hbV.mono HB1.out.1.size)
   show Exit.then _ _ _ _ (((w6.setCell ⟨X,1,none⟩ (strW k)).setCell ⟨X,2,none⟩ (.int .i64 per)).setCell ⟨X,3,none⟩ (.slice na m ncap))
   rw [hV2]
   clear hbV hbt e hV2 g0 g1 g2 g3 f1 f2 f3 hS HB HF HM HSs HSb HXg HFn HX
   go_wp2_with fail
   refine HCh.out.mono ?_
   rintro e w7 ⟨E,q,rfl,hE,hbt,hend⟩
   have hw7:=HS.out.1.later (HS.out.2.1.trans (HV2.out.mono HS.out.2.1.size)) hbt
   have he7:=HS.out.1.env.below hw7
   have c8:=he7.errs.c8
   have c0:=he7.errs.c0
   have HIs:Hid (Calls Tryz.prog 28 #[E,.iface 312 (.pointer (some (ad 8)))] w7 fun e w'=>e=.returned (.bool (decide (d=9))) ∧ w'=w7):=isKind_is he7.errs hE (gateIs_known HD.out.2.1)
   rcases HD.out.2.2 with ⟨hd,hcd⟩ | ⟨hd,hcd⟩
   ·
    have HE:Hid (SetEnd N g cb s s1 c w (.returned (.iface 312 (.pointer (some (ad 0))))) w7):=by
     rcases hend with ⟨h0,-⟩ | ⟨-,h⟩
     · omega
     ·
      subst hcd
      exact ⟨_,-1,rfl,errIs_sent he7.errs 0 (by decide),(But.ofBelow HV2.out).trans hbt,.inr ⟨by decide,h⟩⟩
    rw [decide_eq_true hd] at HIs
    clear hE hbt hend hw7 he7 hd hcd l0 l1 l2 l3
    go_wp2_with fail
    refine HIs.out.mono ?_
    rintro e w8 ⟨rfl,rfl⟩
    go_wp2_with fail
    go_ret
    exact HE.out
   ·
    have HE:Hid (SetEnd N g cb s s1 c w (.returned E) w7):=by
     rw [hcd]
     exact ⟨E,q,rfl,hE,(But.ofBelow HV2.out).trans hbt,hend⟩
    rw [decide_eq_false hd] at HIs
    clear hE hbt hend hw7 he7 hd hcd l0 l1 l2 l3
    go_wp2_with fail
    refine HIs.out.mono ?_
    rintro e w8 ⟨rfl,rfl⟩
    go_wp2_with fail
    go_ret
    exact HE.out
 ·
  have h2':((ws.length:Int) == 2)=false:=by simp;omega
  have HE:Hid (SetEnd N g cb s s1 c w (.returned (.iface 312 (.pointer (some (ad 0))))) w):=by
   refine HEt.out w (Below.refl _ _) ?_
   obtain ⟨-,h,-⟩ | ⟨k,y,h,-⟩:=hc
   · exact h
   · rw [h] at h2;exact absurd rfl h2
  obtain ⟨n,hn⟩:∃ n,ws.length=n:=⟨_,rfl⟩
  rw [hn] at h2' ⊢
  clear h2 hl hs hc hn hS hw hp ho he
  go_enter Tryz.func74,Tryz.ntmps74
  go_wp2_with fail
  go_ret
  exact HE.out
end
end Go.Proofs.YtipdclphpkgceaaGreatDoor

namespace Go.Proofs.YtipdclphpkgceaaGreatDoor
open Go.RowKit
theorem own_new {w w':World} {N:Nat} {ps:List Pk} {q:Pk} {v':Value} (hN:N ≤ w.heap.size) (hown:w'.ownsRow w.heap.size 58 3 v' (ps.length+1) (cellsP ps ++ cellsP [q])):∃ g cap,v'=.slice (some ⟨g,0,none⟩) (ps.length+1) cap ∧ w.heap.size ≤ g ∧ OwnP w' N (.slice (some ⟨g,0,none⟩) (ps.length+1) cap) (ps ++ [q]):=by
 obtain ⟨g,cap,rfl,hg,-⟩:=World.ownsRow.form hown (by omega)
 refine ⟨g,cap,rfl,hg,?_⟩
 unfold OwnP
 rw [cellsP_append,List.length_append]
 exact ownsRow_mono hown hN
theorem but_grown {w w':World} {S:Nat → Prop} (h:w.grownBy w' none):But S w w':=⟨h.os,h.tape,h.output,h.size,fun k hk _=>h.block k hk (by simp)⟩
theorem take_set3 {α:Type}:∀ (L:List α) (n:Nat) (a b c:α),n+3 ≤ L.length → (((L.set n a).set (n+1) b).set (n+2) c).take (n+3)=L.take n ++ [a,b,c]
 | x :: y :: z :: r,0,a,b,c,_=>by simp
 | x :: r,n+1,a,b,c,h=>by
  have:=take_set3 r n a b c (by simp at h;omega)
  simp only [List.set_cons_succ,List.take_succ_cons,List.cons_append]
  rw [show n+2+1=n+3 by omega,this]
 | [],n,a,b,c,h=>by simp at h
 | [_],0,a,b,c,h=>by simp at h
 | [_,_],0,a,b,c,h=>by simp at h
theorem take_set0 {α:Type}:∀ (L:List α) (n:Nat) (a b c:α),(((L.set n a).set (n+1) b).set (n+2) c).take n=L.take n
 | L,0,a,b,c=>by simp
 | [],n+1,a,b,c=>by simp
 | x :: r,n+1,a,b,c=>by
  have:=take_set0 r n a b c
  rw [List.set_cons_succ,List.set_cons_succ,show n+1+2=n+2+1 by omega,List.set_cons_succ,List.take_succ_cons,List.take_succ_cons,this]
theorem but_three (w:World) (b i j k:Nat) (u v x:Value):But (fun m=>m=b) w (((w.setCell ⟨b,i,none⟩ u).setCell ⟨b,j,none⟩ v).setCell ⟨b,k,none⟩ x):=
 But.setCell (p:=⟨b,k,none⟩) (But.setCell (p:=⟨b,j,none⟩) (But.setCell (p:=⟨b,i,none⟩) (But.refl (fun m=>m=b) w) rfl _) rfl _) rfl _
theorem cellsP_single (q:Pk):cellsP [q]=[.int .i64 q.flow,.int .i64 q.size,.int .i64 q.tick]:=rfl
theorem run_append_pkt (w:World) (N:Nat) (pv:Value) (ps:List Pk) (q:Pk) (ad:Addr) (c:Nat) (h:OwnP w N pv ps) (hN:N ≤ w.heap.size) (hq:LiesP w (some ad) [q]) (hn:ps.length ≤ 1000) :
  ∃ g cap w',(Builtin.append_ #[52,52] 52 #[pv,.slice (some ad) 1 c]).run Tryz.prog w=.ok (.slice (some ⟨g,0,none⟩) (ps.length+1) cap) w' ∧ OwnP w' N (.slice (some ⟨g,0,none⟩) (ps.length+1) cap) (ps ++ [q]) ∧ OwnP w' N pv ps ∧ But (fun k=>pv.ownBlock=some k) w w' ∧ (pv.ownBlock=some g ∨ w.heap.size ≤ g):=by
 obtain ⟨i0,hi,hz0,hz1,hz2⟩:=info_parts Tryz.infoPkt
 have hnews:=liesP_news hq
 have h1:=cellsP_one [q]
 have h':=h
 obtain ⟨hlen,⟨rfl,h0⟩ | ⟨b,cap,cur,rfl,hB,hg,hc,hm,hcs,ht⟩⟩:=h'
 ·
  have e:ps=[]:=List.length_eq_zero_iff.1 h0
  subst e
  obtain ⟨v',w',hrun,r1,r2,-⟩:=run_append_own (P:=Tryz.prog) w w.heap.size 52 52 58 i0 _ 3 24 Tryz.underlying52 hi hz0 hz1 hz2 rfl (by decide) (.slice none 0 0) 0 [] (World.ownsRow_nil w _ _ _) ad 1 c (cellsP [q]) rfl hnews h1 (by simp [maxLen]) (by decide) (Nat.le_refl _)
  obtain ⟨g,cap,rfl,g1,g2⟩:=own_new (ps:=[]) hN r1
  exact ⟨g,cap,w',hrun,g2,World.ownsRow_nil _ _ _ _,but_grown r2,.inr g1⟩
 ·
  by_cases hr:ps.length+1 ≤ cap
  ·
   have hsz:(cellsP [q]).length=3:=rfl
   have hcell:∀ j,j < 3 → (w.cell? ⟨b,0+ps.length * 3+j,none⟩).isSome=true:=fun j hj=>by
    rw [cell_of_row w b _ cur 58 (0,0) hg,Array.getElem?_eq_getElem (by rw [hcs];omega)];rfl
   have hrun:=run_append_room_cells (P:=Tryz.prog) w 52 52 58 i0 Tryz.underlying52 hi b 0 ps.length cap ad 1 c (cellsP [q]) (by rw [hz1];rfl) hnews h1 hr (fun j hj=>by rw [hz1];exact hcell j (by omega)) (fun j _=>frozen_of_row w b _ cur 58 hg)
   rw [hz1] at hrun
   have hw:w.setCells b (0+ps.length * 3) (cellsP [q])=((w.setCell ⟨b,0+ps.length * 3,none⟩ (.int .i64 q.flow)).setCell ⟨b,0+ps.length * 3+1,none⟩ (.int .i64 q.size)).setCell ⟨b,0+ps.length * 3+2,none⟩ (.int .i64 q.tick):=rfl
   rw [hw] at hrun
   have hbut:=but_three w b (0+ps.length * 3) (0+ps.length * 3+1) (0+ps.length * 3+2) (.int .i64 q.flow) (.int .i64 q.size) (.int .i64 q.tick)
   have hc3:ps.length * 3+3 ≤ cur.toList.length:=by
    have:cur.toList.length=cur.size:=by simp
    omega
   have k1:=heap_setCell_same w b (0+ps.length * 3) cur 58 (.int .i64 q.flow) hg
   have k2:=heap_setCell_same _ b (0+ps.length * 3+1) _ 58 (.int .i64 q.size) k1
   have k3:=heap_setCell_same _ b (0+ps.length * 3+2) _ 58 (.int .i64 q.tick) k2
   refine ⟨b,cap,_,hrun,⟨?_,.inr ⟨b,cap,_,?_,hB,k3,?_,hm,by simpa using hcs,?_⟩⟩,⟨hlen,.inr ⟨b,cap,_,rfl,hB,k3,hc,hm,by simpa using hcs,?_⟩⟩,hbut.mono (fun k hk=>by rw [hk];rfl),.inl rfl⟩
   · rw [cellsP_length]
   · rw [List.length_append];rfl
   · rw [List.length_append];exact hr
   · rw [Array.toList_setIfInBounds,Array.toList_setIfInBounds,Array.toList_setIfInBounds,cellsP_append,cellsP_single,List.length_append,Nat.zero_add,show (ps.length + [q].length) * 3=ps.length * 3+3 by simp;omega,take_set3 _ _ _ _ _ hc3,ht]
   · rw [Array.toList_setIfInBounds,Array.toList_setIfInBounds,Array.toList_setIfInBounds,Nat.zero_add,take_set0,ht]
  ·
   obtain ⟨v',w',hrun,r1,r2⟩:=run_append_arg_grows (P:=Tryz.prog) w 52 52 58 i0 _ 3 24 Tryz.underlying52 hi hz0 hz1 hz2 rfl (by decide) ⟨b,0,none⟩ ps.length cap (cellsP ps) (cellsP_length ps) (fun j u hu=>by
    have hl:=(List.getElem?_eq_some_iff.1 hu).1
    rw [cellsP_length] at hl
    rw [Addr.add_lit,Nat.zero_add,World.ownsRow.cellAt h j hl]
    exact hu) ad 1 c (cellsP [q]) rfl hnews (by omega) (by unfold maxLen;omega) (by omega)
   obtain ⟨g,cap',rfl,g1,g2⟩:=own_new hN r1
   exact ⟨g,cap',w',hrun,g2,ownsRow_but (S:=fun _=>False) h (but_grown r2) (fun _ _=>id),but_grown r2,.inr g1⟩
end Go.Proofs.YtipdclphpkgceaaGreatDoor
