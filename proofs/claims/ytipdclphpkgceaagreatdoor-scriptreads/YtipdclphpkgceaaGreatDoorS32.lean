/- Own facts, put together: no statement of its own. -/
import Derived.Test.YtipdclphpkgceaaGreatDoorS31
import Derived.Test.YtipdclphpkgceaaGreatDoorS17
import Derived.Test.YtipdclphpkgceaaGreatDoorS11
import Derived.Test.YtipdclphpkgceaaGreatDoorS13
set_option maxHeartbeats 4000000
set_option maxRecDepth 100000

namespace Go.Proofs.YtipdclphpkgceaaGreatDoor
open Go.RowKit
theorem lies_keep {S:Nat → Prop} {w w':World} {a:Option Addr} {ls:List (Int × Int)} (h:Lies w a ls) (hb:But S w w') (hs:∀ ad,a=some ad → ¬ S ad.block):Lies w' a ls:=by
 rcases h with rfl | ⟨b,off,rfl,hlt,hc⟩
 · exact .inl rfl
 ·
  have hn:¬ S b:=hs _ rfl
  refine .inr ⟨b,off,rfl,Nat.lt_of_lt_of_le hlt hb.size,fun i x y hi=>?_⟩
  rw [hb.cell (p:=⟨b,off+i * 2,none⟩) hlt hn,hb.cell (p:=⟨b,off+i * 2+1,none⟩) hlt hn]
  exact hc i x y hi
structure CurveIn (w:World) (N cb:Nat) (pv:Value) (i:Nat) (ls:List (Int × Int)) (a:Option Addr) (cap:Nat):Prop where
 cell:w.cell? ⟨cb,i,none⟩=some (.slice a ls.length cap)
 lies:Lies w a ls
 le:ls.length ≤ cap
 max:cap ≤ maxLen
 nil:a=none → ls=[] ∧ cap=0
 far:∀ ad,a=some ad → N ≤ ad.block ∧ ad.block < w.heap.size ∧ pv.ownBlock ≠ some ad.block
structure PlayIn (w:World) (N g cb:Nat) (na:Option Addr) (ncap:Nat) (pv:Value) (s:Scr):Prop where
 gN:g < N
 cN:cb < N
 ne:g ≠ cb
 wN:N ≤ w.heap.size
 c0:w.cell? ⟨g,0,none⟩=some (.slice (some ⟨cb,0,none⟩) 8 8)
 c1:w.cell? ⟨g,1,none⟩=some (strW s.kb)
 c2:w.cell? ⟨g,2,none⟩=some (.int .i64 s.per)
 c3:w.cell? ⟨g,3,none⟩=some (.slice na s.ns.length ncap)
 c4:w.cell? ⟨g,4,none⟩=some pv
 fg:∀ i,w.frozen? ⟨g,i,none⟩=false
 fc:∀ i,w.frozen? ⟨cb,i,none⟩=false
 nums:LiesN w na s.ns
 nle:s.ns.length ≤ ncap
 nmax:ncap ≤ maxLen
 nnil:na=none → s.ns=[] ∧ ncap=0
 nfar:∀ ad,na=some ad → N ≤ ad.block ∧ ad.block < w.heap.size ∧ pv.ownBlock ≠ some ad.block
 pks:OwnP w N pv s.ps
 curves:∀ (i:Nat) ls,s.cs[i]? = some ls → ∃ a cap,CurveIn w N cb pv i ls a cap
def ownS (N g cb:Nat) (k:Nat):Prop:=k=g ∨ k=cb ∨ N ≤ k
section
variable {w w':World} {N g cb:Nat} {na:Option Addr} {ncap:Nat} {pv:Value} {s:Scr}
theorem CurveIn.but {S:Nat → Prop} {i:Nat} {ls:List (Int × Int)} {a:Option Addr} {cap:Nat} (h:CurveIn w N cb pv i ls a cap) (hb:But S w w') (h1:¬ S cb) (h2:∀ ad,a=some ad → ¬ S ad.block):CurveIn w' N cb pv i ls a cap:=
 ⟨by rw [hb.cell (p:=⟨cb,i,none⟩) (cell_lt h.cell) h1];exact h.cell,lies_keep h.lies hb h2,h.le,h.max,h.nil,fun ad e=>⟨(h.far ad e).1,Nat.lt_of_lt_of_le (h.far ad e).2.1 hb.size,(h.far ad e).2.2⟩⟩
theorem PlayIn.below (h:PlayIn w N g cb na ncap pv s) (hb:Below w.heap.size w w'):PlayIn w' N g cb na ncap pv s:=by
 refine ⟨h.gN,h.cN,h.ne,Nat.le_trans h.wN hb.size,cell_later hb h.c0,cell_later hb h.c1,cell_later hb h.c2,cell_later hb h.c3,cell_later hb h.c4,fun i=>?_,fun i=>?_,h.nums.below hb,h.nle,h.nmax,h.nnil,fun ad e=>⟨(h.nfar ad e).1,Nat.lt_of_lt_of_le (h.nfar ad e).2.1 hb.size,(h.nfar ad e).2.2⟩,h.pks.later hb,fun i ls hi=>?_⟩
 · rw [hb.frozen (p:=⟨g,i,none⟩) (Nat.lt_of_lt_of_le h.gN h.wN)];exact h.fg i
 · rw [hb.frozen (p:=⟨cb,i,none⟩) (Nat.lt_of_lt_of_le h.cN h.wN)];exact h.fc i
 ·
  obtain ⟨a,cap,hc⟩:=h.curves i ls hi
  exact ⟨a,cap,hc.but (S:=fun _=>False) (.ofBelow hb) id fun _ _=>id⟩
theorem PlayIn.gate (h:PlayIn w N g cb na ncap pv s) (hl:s.cs.length=8) (hs:Slim s.cs s.ns):GateLies w (some ⟨cb,0,none⟩) 8 s.cs na ncap s.ns:=
 ⟨.inr ⟨cb,0,rfl,Nat.lt_of_lt_of_le h.cN h.wN,fun i ls hi=>by
  obtain ⟨a,cap,hc⟩:=h.curves i ls hi
  rw [Nat.zero_add]
  exact ⟨a,cap,hc.cell,hc.lies,hc.le,hc.max,hc.nil⟩⟩,by omega,by simp [maxLen],h.nums,h.nle,h.nmax,h.nnil,hs⟩
theorem OwnP.value {w:World} {B:Nat} {v:Value} {ps:List Pk} (h:OwnP w B v ps):∃ a cap,v=.slice a ps.length cap ∧ PksLie w a cap ps:=by
 have h':=h
 obtain ⟨-,⟨rfl,h0⟩ | ⟨b,cap,cur,rfl,hB,hg,hc,hm,hcs,ht⟩⟩:=h'
 ·
  have e:ps=[]:=List.length_eq_zero_iff.1 h0
  subst e
  exact ⟨none,0,rfl,.inl rfl,by simp,by simp [maxLen],fun _=>⟨rfl,rfl⟩⟩
 ·
  refine ⟨_,cap,rfl,?_,hc,hm,fun e=>by cases e⟩
  have hlt:b < w.heap.size:=by
   rcases Nat.lt_or_ge b w.heap.size with h' | h'
   · exact h'
   · rw [Array.getElem?_eq_none h'] at hg;cases hg
  refine .inr ⟨b,0,rfl,hlt,fun i p hi=>?_⟩
  have hil:=lt_of_get hi
  have key:∀ j,j < 3 → w.cell? ⟨b,i * 3+j,none⟩=(cellsP ps)[i * 3+j]?:=fun j hj=>World.ownsRow.cellAt h (i * 3+j) (by omega)
  obtain ⟨q0,q1,q2⟩:=cellsP_get ps i p hi
  have k0:=key 0 (by omega)
  have k1:=key 1 (by omega)
  have k2:=key 2 (by omega)
  rw [Nat.zero_add]
  exact ⟨k0.trans q0,k1.trans q1,k2.trans q2⟩
theorem PlayIn.setCurve (h:PlayIn w N g cb na ncap pv s) {f:Nat} (hf:f < 8) (hl:s.cs.length=8) {ls:List (Int × Int)} {G:Nat} (hG:N ≤ G) (hGl:G < w.heap.size) (hp:pv.ownBlock ≠ some G) (hls:Lies w (some ⟨G,0,none⟩) ls) (hm:ls.length ≤ maxLen) :
  PlayIn (w.setCell ⟨cb,f,none⟩ (.slice (some ⟨G,0,none⟩) ls.length ls.length)) N g cb na ncap pv { s with cs:=s.cs.set f ls } ∧ But (ownS N g cb) w (w.setCell ⟨cb,f,none⟩ (.slice (some ⟨G,0,none⟩) ls.length ls.length)):=by
 have hb:But (fun k=>k=cb) w (w.setCell ⟨cb,f,none⟩ (.slice (some ⟨G,0,none⟩) ls.length ls.length)):=But.setCell (p:=⟨cb,f,none⟩) (But.refl (fun k=>k=cb) w) rfl _
 have gl:=Nat.lt_of_lt_of_le h.gN h.wN
 have e:∀ i,(w.setCell ⟨cb,f,none⟩ (.slice (some ⟨G,0,none⟩) ls.length ls.length)).cell? ⟨g,i,none⟩=w.cell? ⟨g,i,none⟩:=fun i=>hb.cell (p:=⟨g,i,none⟩) gl h.ne
 have hcN:=h.cN
 refine ⟨⟨h.gN,h.cN,h.ne,Nat.le_trans h.wN hb.size,(e 0).trans h.c0,(e 1).trans h.c1,(e 2).trans h.c2,(e 3).trans h.c3,(e 4).trans h.c4,fun i=>by rw [World.frozen?_setCell];exact h.fg i,fun i=>by rw [World.frozen?_setCell];exact h.fc i,liesN_keep h.nums hb (fun ad e'=>by have:=(h.nfar ad e').1;show ¬ ad.block=cb;omega),h.nle,h.nmax,h.nnil,(fun ad e=>⟨(h.nfar ad e).1,Nat.lt_of_lt_of_le (h.nfar ad e).2.1 hb.size,(h.nfar ad e).2.2⟩),ownsRow_but h.pks hb (fun k hk=>by have:=(ownsRow_lt h.pks hk).1;show ¬ k=cb;omega),fun i l' hi=>?_⟩,hb.mono fun k hk=>.inr (.inl hk)⟩
 have hi':(s.cs.set f ls)[i]? = some l':=hi
 by_cases hfi:f=i
 ·
  subst hfi
  rw [List.getElem?_set_self (by omega)] at hi'
  obtain rfl:=Option.some.inj hi'
  obtain ⟨a,cap,hc⟩:=h.curves f s.cs[f] (List.getElem?_eq_getElem (by omega))
  exact ⟨some ⟨G,0,none⟩,ls.length,World.cell?_setCell_same' _ _ _ (by rw [hc.cell];rfl),lies_keep hls hb (fun ad e'=>by cases e';show ¬ G=cb;omega),Nat.le_refl _,hm,(fun e'=>by cases e'),fun ad e'=>by cases e';exact ⟨hG,Nat.lt_of_lt_of_le hGl hb.size,hp⟩⟩
 ·
  rw [List.getElem?_set_ne hfi] at hi'
  obtain ⟨a,cap,hc⟩:=h.curves i l' hi'
  refine ⟨a,cap,?_,lies_keep hc.lies hb (fun ad e'=>by have:=(hc.far ad e').1;show ¬ ad.block=cb;omega),hc.le,hc.max,hc.nil,fun ad e=>⟨(hc.far ad e).1,Nat.lt_of_lt_of_le (hc.far ad e).2.1 hb.size,(hc.far ad e).2.2⟩⟩
  rw [World.cell?_setCell_other _ _ _ _ (by intro e';cases e';exact hfi rfl)]
  exact hc.cell
theorem PlayIn.setGate (h:PlayIn w N g cb na ncap pv s) (kb:List UInt8) (per:Int) {na':Option Addr} {ncap':Nat} {ns:List Int} (hn:LiesN w na' ns) (h1:ns.length ≤ ncap') (h2:ncap' ≤ maxLen) (h3:na'=none → ns=[] ∧ ncap'=0) (h4:∀ ad,na'=some ad → N ≤ ad.block ∧ ad.block < w.heap.size ∧ pv.ownBlock ≠ some ad.block) {w':World}
  (hb:But (fun k=>k=g) w w') (hc:∀ i,i < 5 → w'.cell? ⟨g,i,none⟩=(#[.slice (some ⟨cb,0,none⟩) 8 8,strW kb,.int .i64 per,.slice na' ns.length ncap',pv]:Array Value)[i]?) (hfz:∀ i,w'.frozen? ⟨g,i,none⟩=false) :
  PlayIn w' N g cb na' ncap' pv { s with kb:=kb,per:=per,ns:=ns } ∧ But (ownS N g cb) w w':=by
 have hgN:=h.gN
 have cl:=Nat.lt_of_lt_of_le h.cN h.wN
 refine ⟨⟨h.gN,h.cN,h.ne,Nat.le_trans h.wN hb.size,hc 0 (by omega),hc 1 (by omega),hc 2 (by omega),hc 3 (by omega),hc 4 (by omega),hfz,fun i=>by rw [hb.frozen (p:=⟨cb,i,none⟩) cl h.ne.symm];exact h.fc i,liesN_keep hn hb (fun ad e'=>by have:=(h4 ad e').1;show ¬ ad.block=g;omega),h1,h2,h3,(fun ad e=>⟨(h4 ad e).1,Nat.lt_of_lt_of_le (h4 ad e).2.1 hb.size,(h4 ad e).2.2⟩),ownsRow_but h.pks hb (fun k hk=>by have:=(ownsRow_lt h.pks hk).1;show ¬ k=g;omega),fun i l' hi=>?_⟩,hb.mono fun k hk=>.inl hk⟩
 obtain ⟨a,cap,hc'⟩:=h.curves i l' hi
 exact ⟨a,cap,hc'.but hb h.ne.symm fun ad e'=>by have:=(hc'.far ad e').1;show ¬ ad.block=g;omega⟩
theorem PlayIn.setPks (h:PlayIn w N g cb na ncap pv s) {pv':Value} {ps:List Pk} {w1 w':World} (hb1:But (fun k=>pv.ownBlock=some k) w w1) (hp:OwnP w1 N pv' ps) (hnew:∀ k,pv'.ownBlock=some k → pv.ownBlock=some k ∨ w.heap.size ≤ k)
  (hw':w'=w1.setCell ⟨g,4,none⟩ pv'):PlayIn w' N g cb na ncap pv' { s with ps:=ps } ∧ But (ownS N g cb) w w':=by
 subst hw'
 have hgN:=h.gN
 have hcN:=h.cN
 have hwN:=h.wN
 have hne:=h.ne
 have gl:g < w.heap.size:=by omega
 have cl:cb < w.heap.size:=by omega
 have po:∀ k,pv.ownBlock=some k → N ≤ k ∧ k < w.heap.size:=fun k hk=>ownsRow_lt h.pks hk
 have pn:∀ k,pv'.ownBlock=some k → N ≤ k:=fun k hk=>(ownsRow_lt hp hk).1
 have hb2:But (fun k=>k=g ∨ pv.ownBlock=some k) w (w1.setCell ⟨g,4,none⟩ pv'):=But.setCell (p:=⟨g,4,none⟩) (hb1.mono fun k hk=>.inr hk) (.inl rfl) _
 have g1:¬ pv.ownBlock=some g:=fun hk=>by have:=(po g hk).1;omega
 have c1:¬ pv.ownBlock=some cb:=fun hk=>by have:=(po cb hk).1;omega
 have eg:∀ i,w1.cell? ⟨g,i,none⟩=w.cell? ⟨g,i,none⟩:=fun i=>hb1.cell (p:=⟨g,i,none⟩) gl g1
 have e:∀ i,i ≠ 4 → (w1.setCell ⟨g,4,none⟩ pv').cell? ⟨g,i,none⟩=w.cell? ⟨g,i,none⟩:=fun i hi=>by
  rw [World.cell?_setCell_other _ _ _ _ (by intro e';cases e';exact hi rfl)]
  exact eg i
 have far:∀ ad:Addr,N ≤ ad.block → ad.block < w.heap.size → pv.ownBlock ≠ some ad.block → ¬ (ad.block=g ∨ pv.ownBlock=some ad.block) ∧ pv'.ownBlock ≠ some ad.block:=fun ad q1 q2 q3=>by
  refine ⟨fun q=>?_,fun q=>?_⟩
  ·
   rcases q with q | q
   · omega
   · exact q3 q
  ·
   rcases hnew _ q with q' | q'
   · exact q3 q'
   · omega
 have nf:∀ ad,na=some ad → ¬ (ad.block=g ∨ pv.ownBlock=some ad.block) ∧ pv'.ownBlock ≠ some ad.block:=fun ad e'=>far ad (h.nfar ad e').1 (h.nfar ad e').2.1 (h.nfar ad e').2.2
 refine ⟨⟨h.gN,h.cN,h.ne,Nat.le_trans h.wN hb2.size,(e 0 (by omega)).trans h.c0,(e 1 (by omega)).trans h.c1,(e 2 (by omega)).trans h.c2,(e 3 (by omega)).trans h.c3,World.cell?_setCell_same' _ _ _ (by rw [eg,h.c4];rfl),fun i=>?_,fun i=>?_,liesN_keep h.nums hb2 (fun ad e'=>(nf ad e').1),h.nle,h.nmax,h.nnil,(fun ad e'=>⟨(h.nfar ad e').1,Nat.lt_of_lt_of_le (h.nfar ad e').2.1 hb2.size,(nf ad e').2⟩),?_,fun i l' hi=>?_⟩,?_⟩
 · rw [World.frozen?_setCell,hb1.frozen (p:=⟨g,i,none⟩) gl g1];exact h.fg i
 · rw [World.frozen?_setCell,hb1.frozen (p:=⟨cb,i,none⟩) cl c1];exact h.fc i
 · exact ownsRow_but hp (S:=fun k=>k=g) (But.setCell (p:=⟨g,4,none⟩) (But.refl (fun k=>k=g) w1) rfl _) fun k hk=>by have:=pn k hk;show ¬ k=g;omega
 ·
  obtain ⟨a,cap,hc⟩:=h.curves i l' hi
  have cf:∀ ad,a=some ad → ¬ (ad.block=g ∨ pv.ownBlock=some ad.block) ∧ pv'.ownBlock ≠ some ad.block:=fun ad e'=>far ad (hc.far ad e').1 (hc.far ad e').2.1 (hc.far ad e').2.2
  refine ⟨a,cap,?_,lies_keep hc.lies hb2 (fun ad e'=>(cf ad e').1),hc.le,hc.max,hc.nil,fun ad e'=>⟨(hc.far ad e').1,Nat.lt_of_lt_of_le (hc.far ad e').2.1 hb2.size,(cf ad e').2⟩⟩
  rw [hb2.cell (p:=⟨cb,i,none⟩) cl (fun q=>by rcases q with q | q;exact hne q.symm;exact c1 q)]
  exact hc.cell
 ·
  refine hb2.mono fun k hk=>?_
  rcases hk with hk | hk
  · exact .inl hk
  · exact .inr (.inr (po k hk).1)
theorem PlayIn.far (h:PlayIn w N g cb na ncap pv s) {b:Nat} (hb:b < N) (hg:b ≠ g) (hc:b ≠ cb) (i:Nat) (u:Value):PlayIn (w.setCell ⟨b,i,none⟩ u) N g cb na ncap pv s:=by
 have hbt:But (fun k=>k=b) w (w.setCell ⟨b,i,none⟩ u):=But.setCell (p:=⟨b,i,none⟩) (But.refl (fun k=>k=b) w) rfl _
 have hgN:=h.gN
 have hcN:=h.cN
 have hwN:=h.wN
 have eg:∀ i',(w.setCell ⟨b,i,none⟩ u).cell? ⟨g,i',none⟩=w.cell? ⟨g,i',none⟩:=fun i'=>hbt.cell (p:=⟨g,i',none⟩) (by show g < _;omega) (fun e=>hg e.symm)
 refine ⟨h.gN,h.cN,h.ne,Nat.le_trans h.wN hbt.size,(eg 0).trans h.c0,(eg 1).trans h.c1,(eg 2).trans h.c2,(eg 3).trans h.c3,(eg 4).trans h.c4,fun i'=>by rw [World.frozen?_setCell];exact h.fg i',fun i'=>by rw [World.frozen?_setCell];exact h.fc i',liesN_keep h.nums hbt (fun ad e=>by have:=(h.nfar ad e).1;show ¬ ad.block=b;omega),h.nle,h.nmax,h.nnil,(fun ad e=>⟨(h.nfar ad e).1,Nat.lt_of_lt_of_le (h.nfar ad e).2.1 hbt.size,(h.nfar ad e).2.2⟩),ownsRow_but h.pks hbt (fun k hk=>by have:=(ownsRow_lt h.pks hk).1;show ¬ k=b;omega),fun i' ls hi=>?_⟩
 obtain ⟨a,cap,hc'⟩:=h.curves i' ls hi
 exact ⟨a,cap,hc'.but hbt (fun e=>hc e.symm) fun ad e=>by have:=(hc'.far ad e).1;show ¬ ad.block=b;omega⟩
end
structure Site (w0:World) (ad:Nat → Addr) (N g cb:Nat):Prop where
 env:Env w0 ad
 bg:w0.heap.size ≤ g
 bc:w0.heap.size ≤ cb
 bN:w0.heap.size ≤ N
theorem Site.later {w0 w w':World} {ad:Nat → Addr} {N g cb:Nat} (h:Site w0 ad N g cb) (hw:Below w0.heap.size w0 w) (hb:But (ownS N g cb) w w'):Below w0.heap.size w0 w':=
 hw.trans (hb.below hw.size fun k hk=>by
  have h1:=h.bg;have h2:=h.bc;have h3:=h.bN
  rcases hk with hk | hk | hk <;> omega)
def PlayAt (w:World) (N g cb:Nat) (s:Scr):Prop:=∃ na ncap pv,PlayIn w N g cb na ncap pv s
theorem PlayAt.below {w w':World} {N g cb:Nat} {s:Scr} (h:PlayAt w N g cb s) (hb:Below w.heap.size w w'):PlayAt w' N g cb s:=by
 obtain ⟨na,ncap,pv,h⟩:=h
 exact ⟨na,ncap,pv,h.below hb⟩
def SetEnd (N g cb:Nat) (s s1:Scr) (c:Int) (w:World) (e:Ending) (w':World):Prop:=
 ∃ E p,e=.returned E ∧ ErrIs w' E c p ∧ But (ownS N g cb) w w' ∧ ((c=0 ∧ PlayAt w' N g cb s1) ∨ (c ≠ 0 ∧ PlayAt w' N g cb s))
theorem setEnd_bad {N g cb:Nat} {s s1:Scr} {c p:Int} {w w':World} {E:Value} (hp:PlayAt w N g cb s) (hb:Below w.heap.size w w') (he:ErrIs w' E c p) (hc:c ≠ 0):SetEnd N g cb s s1 c w (.returned E) w':=⟨E,p,rfl,he,.ofBelow hb,.inr ⟨hc,hp.below hb⟩⟩
theorem tail_slice (wb n:Nat) (h:1 ≤ n) (hn:n ≤ 1000):∃ ta m,(∀ W:World,(Instr.slice 22 (.slice (some ⟨wb,0,none⟩) n n) (some (.int .i64 1)) none none).run Tryz.prog W=.ok (.slice ta m m) W) ∧ m=n - 1 ∧ (2 ≤ n → ta=some ⟨wb,1,none⟩):=by
 by_cases h1:n=1
 ·
  subst h1
  exact ⟨some ⟨wb,0,none⟩,0,fun W=>by kernel_rfl,rfl,fun h=>by omega⟩
 ·
  refine ⟨some ⟨wb,1,none⟩,n - 1,fun W=>?_,rfl,fun _=>rfl⟩
  have hz:(sizeOf (Tryz.prog.elem 22)).run Tryz.prog W=.ok 1 W:=by kernel_rfl
  rw [run_slice_l W 22 (some ⟨wb,0,none⟩) n n (by kernel_rfl) .i64 1 (by decide) (by omega),hz]
  simp [Result.andThen,sliced,Addr.add]
  exact h1
theorem linesW_short {ws:List (List UInt8)} {ls:List (Int × Int)} (h:linesW ws=some ls):ls.length ≤ ws.length:=by
 unfold linesW at h
 split at h
 · cases h
 ·
  obtain ⟨ns,h1,rfl⟩:=Option.map_eq_some_iff.1 h
  rw [pairsW_length,numsW_length h1]
  omega
theorem liesW_tail {w:World} {wb:Nat} {ws:List (List UInt8)} {ta:Option Addr} (h:LiesW w (some ⟨wb,0,none⟩) ws) (ht:2 ≤ ws.length → ta=some ⟨wb,1,none⟩):LiesW w ta ws.tail:=by
 match ws,h,ht with
 | [],_,_=>exact .inl rfl
 | [_],_,_=>exact .inl rfl
 | x :: y :: r,h,ht=>
  obtain ⟨b,off,e,hlt,hc⟩:=h.place (by simp)
  cases e
  rw [ht (by simp)]
  refine .inr ⟨wb,1,rfl,hlt,fun i z hi=>?_⟩
  have:=hc (i+1) z (by simpa using hi)
  rwa [show 0+(i+1)=1+i by omega] at this
section
variable (w0:World) (ad:Nat → Addr) (N g cb:Nat) (hS:Site w0 ad N g cb) (s:Scr) (w:World) (hw:Below w0.heap.size w0 w) (hp:PlayAt w N g cb s) (ho:ScrOk s)
 (wb:Nat) (ws:List (List UInt8)) (hl:LiesW w (some ⟨wb,0,none⟩) ws) (hs:ShortW ws)
theorem setCurve_is (w0:World) (ad:Nat → Addr) (N g cb:Nat) (hS:Site w0 ad N g cb) (s:Scr) (w:World) (hw:Below w0.heap.size w0 w) (hp:PlayAt w N g cb s) (ho:ScrOk s) (wb:Nat) (ws:List (List UInt8)) (hl:LiesW w (some ⟨wb,0,none⟩) ws) (hs:ShortW ws) (h1:1 ≤ ws.length) (c:Int) (s1:Scr) (hc:CurveTo s ws c s1) :
  Calls Tryz.prog 73 #[.pointer (some ⟨g,0,none⟩),.slice (some ⟨wb,0,none⟩) ws.length ws.length] w fun e w'=>SetEnd N g cb s s1 c w e w':=by
 have he:=hS.env.below hw
 obtain ⟨x,r,rfl⟩:∃ x r,ws=x :: r:=by
  cases ws with
  | nil=>simp at h1
  | cons x r=>exact ⟨x,r,rfl⟩
 have hx:w.cell? ⟨wb,0,none⟩=some (strW x):=by
  obtain ⟨b,off,e,-,hc⟩:=hl.place h1
  cases e
  exact hc 0 x rfl
 obtain ⟨n,hn⟩:∃ n,(x :: r).length=n:=⟨_,rfl⟩
 obtain ⟨ta,m,hsl,hm,hta⟩:=tail_slice wb n (by omega) (by rw [← hn];exact hs.1)
 have hmr:r.length=m:=by rw [hm,← hn];simp
 have HRf:Hid (Calls Tryz.prog 98 #[strW x] w fun e w'=>ReadEnd (ad 0) (flowW x) w e w'):=readFlow_is ⟨x.toArray⟩ w (ad 0) he.errs.c0 (by have:=hs.2 x (by simp);show x.toArray.size ≤ _;simp;omega)
 have HRl:Hid (∀ W,Below w.heap.size w W → Calls Tryz.prog 99 #[.slice ta m m] W fun e w'=>LinesEnd (ad 0) (linesW r) W e w'):=fun W hW=>by
  have ht:LiesW W ta r:=liesW_tail (ws:=x :: r) (hl.below hW) (by rw [hn];exact hta)
  have:=readLines_is ta m r W (ad 0) (he.below hW).errs.c0 ht ⟨by have:=hs.1;simp at this;omega,fun y hy=>hs.2 y (List.mem_cons_of_mem _ hy)⟩
  rwa [hmr] at this
 have hn0:0 < n:=by rw [← hn];simp
 have hsh:r.length ≤ 1000:=by have:=hs.1;simp at this;omega
 have HP:Hid (PlayAt w N g cb s):=hp
 have HO:Hid (ScrOk s):=ho
 have HEn:Hid (Env w ad):=he
 have HC:Hid (CurveTo s (x :: r) c s1):=hc
 rw [hn]
 clear hl hs he hc hn hm hta hmr h1 hp ho hw hS
 go_enter Tryz.func73,Tryz.ntmps73
 go_wp2_with fail
 refine HRf.out.mono ?_
 rintro e w1 ⟨hb1,⟨hf,rfl⟩ | ⟨f,hf,rfl⟩⟩
 ·
  have HE:Hid (SetEnd N g cb s s1 c w (.returned (.iface 312 (.pointer (some (ad 0))))) w1):=by
   obtain ⟨-,rfl,-⟩ | ⟨f',hf',-⟩:=HC.out
   · exact setEnd_bad HP.out hb1 (errIs_sent (HEn.out.below hb1).errs 0 (by decide)) (by decide)
   ·
    have h':flowW x=some f':=hf'
    rw [hf] at h';cases h'
  clear hf hb1
  go_wp2_with fail
  go_ret
  exact HE.out
 ·
  have hf8:0 ≤ f ∧ f < 8:=by
   unfold flowW at hf
   obtain ⟨z,-,hz⟩:=Option.bind_eq_some_iff.1 hf
   split at hz
   · rename_i h8;cases hz;exact h8
   · cases hz
  have HB1:Hid (Below w.heap.size w w1 ∧ flowW x=some f):=⟨hb1,hf⟩
  clear hf hb1
  go_wp2_with fail
  refine (HRl.out w1 HB1.out.1).mono ?_
  rintro e w2 ⟨hb2,⟨hln,rfl⟩ | ⟨ls,G,hln,rfl,hG,hGl,hls⟩⟩
  ·
   have HE:Hid (SetEnd N g cb s s1 c w (.returned (.iface 312 (.pointer (some (ad 0))))) w2):=by
    have hb:=HB1.out.1.trans (hb2.mono HB1.out.1.size)
    obtain ⟨hf',-⟩ | ⟨f',-,⟨-,rfl,-⟩ | ⟨l',hl',-⟩⟩:=HC.out
    ·
     have h':flowW x=none:=hf'
     rw [HB1.out.2] at h';cases h'
    · exact setEnd_bad HP.out hb (errIs_sent (HEn.out.below hb).errs 0 (by decide)) (by decide)
    ·
     have h':linesW r=some l':=hl'
     rw [hln] at h';cases h'
   clear hln hb2
   go_wp2_with fail
   go_ret
   exact HE.out
  ·
   have hb:=HB1.out.1.trans (hb2.mono HB1.out.1.size)
   obtain ⟨hs1,hcc⟩:s1={ s with cs:=s.cs.set f.toNat ls } ∧ ((ls=[] ∧ c=0) ∨ (ls ≠ [] ∧ ∃ p,FaultIs ls c p)):=by
    obtain ⟨hf',-⟩ | ⟨f',hf',⟨hl',-⟩ | ⟨l',hl',e1,e2⟩⟩:=HC.out
    ·
     have h':flowW x=none:=hf'
     rw [HB1.out.2] at h';cases h'
    ·
     have h':linesW r=none:=hl'
     rw [hln] at h';cases h'
    ·
     have h':flowW x=some f':=hf'
     rw [HB1.out.2] at h'
     obtain rfl:=Option.some.inj h'
     have h':linesW r=some l':=hl'
     rw [hln] at h'
     obtain rfl:=Option.some.inj h'
     exact ⟨e1,e2⟩
   obtain ⟨fn,rfl⟩:∃ fn:Nat,f=fn:=⟨f.toNat,by omega⟩
   have hfn:fn < 8:=by omega
   have hlm:ls.length ≤ maxLen:=by
    have:=linesW_short hln
    have:=hsh
    unfold maxLen
    omega
   obtain ⟨na,ncap,pv,hp⟩:=HP.out
   have hGN:w.heap.size ≤ G:=Nat.le_trans HB1.out.1.size hG
   have HSt:Hid (∀ W,Below w2.heap.size w2 W → W.cell? ⟨g,0,none⟩=some (.slice (some ⟨cb,0,none⟩) 8 8) ∧ (∃ u,W.cell? ⟨cb,fn,none⟩=some u) ∧ W.frozen? ⟨cb,fn,none⟩=false ∧ (c=0 → SetEnd N g cb s s1 c w (.returned .nilIface) (W.setCell ⟨cb,fn,none⟩ (.slice (some ⟨G,0,none⟩) ls.length ls.length)))):=fun W hW=>by
    have hbW:=hb.trans (hW.mono hb.size)
    have hpW:=hp.below hbW
    obtain ⟨l',hl',-⟩:=get_some s.cs fn (by rw [HO.out.gate.len];exact hfn)
    obtain ⟨a',cap',hc'⟩:=hpW.curves fn l' hl'
    refine ⟨hpW.c0,⟨_,hc'.cell⟩,hpW.fc fn,fun h0=>?_⟩
    obtain ⟨k1,k2⟩:=hpW.setCurve hfn HO.out.gate.len (ls:=ls) (G:=G) (Nat.le_trans hp.wN hGN) (Nat.lt_of_lt_of_le hGl hW.size) (fun hk=>by have:=(ownsRow_lt hp.pks hk).2;omega) (hls.below hW) hlm
    subst h0
    exact ⟨.nilIface,-1,rfl,errIs_nil _,(But.ofBelow hbW).trans k2,.inl ⟨rfl,na,ncap,pv,by rw [hs1];simpa using k1⟩⟩
   have HEr:Hid (∀ W E p,Below w2.heap.size w2 W → ErrIs W E c p → c ≠ 0 → SetEnd N g cb s s1 c w (.returned E) W):=fun W E p hW hE hc0=>setEnd_bad HP.out (hb.trans (hW.mono hb.size)) hE hc0
   have HCk:Hid (∀ p,FaultIs ls c p → Calls Tryz.prog 89 #[.slice (some ⟨G,0,none⟩) ls.length ls.length] w2 fun e w'=>∃ E,e=.returned E ∧ ErrIs w' E c p ∧ Below w2.heap.size w2 w'):=fun p hp=>check_is _ _ ls w2 ad (HEn.out.below hb).errs hls (Nat.le_refl _) hlm c p hp
   obtain ⟨k,hk⟩:∃ k,ls.length=k:=⟨_,rfl⟩
   rw [hk] at HSt HCk hlm ⊢
   have hk0:(ls=[] ↔ k=0):=by rw [← hk];exact List.length_eq_zero_iff.symm
   unfold maxLen at hlm
   clear hln hb2 hb hs1 hp hGN hGl hG hls hk hf8 HB1 HRl HRf
   rcases hcc with ⟨h0,hc0⟩ | ⟨h0,p,hfl⟩
   ·
    obtain rfl:=hk0.1 h0
    obtain ⟨y0,⟨u,y1⟩,y2,y3⟩:=HSt.out w2 (Below.refl _ _)
    have HE:=(show Hid (SetEnd N g cb s s1 c w (.returned .nilIface) (w2.setCell ⟨cb,fn,none⟩ (.slice (some ⟨G,0,none⟩) 0 0))) from y3 hc0)
    clear h0 hk0 y3 HSt hc0
    go_wp2_with fail
    go_ret
    exact HE.out
   ·
    have hkz:0 < k:=Nat.pos_of_ne_zero fun e=>h0 (hk0.2 e)
    clear h0 hk0
    go_wp2_with fail
    refine (HCk.out p hfl).mono ?_
    rintro e w3 ⟨E,rfl,hE,hb3⟩
    by_cases hc0:c=0
    ·
     obtain rfl:=hE.none_ hc0
     obtain ⟨y0,⟨u,y1⟩,y2,y3⟩:=HSt.out w3 hb3
     have HE:=(show Hid (SetEnd N g cb s s1 c w (.returned .nilIface) (w3.setCell ⟨cb,fn,none⟩ (.slice (some ⟨G,0,none⟩) k k))) from y3 hc0)
     clear hE hb3 y3 HSt hc0 hfl
     go_wp2_with fail
     go_ret
     exact HE.out
    ·
     have HE:=(show Hid (SetEnd N g cb s s1 c w (.returned E) w3) from HEr.out w3 E p hb3 hE hc0)
     obtain ⟨ty,v,rfl⟩:=hE.some_ hc0
     clear hE hb3 HSt hc0 hfl
     go_wp2_with fail
     go_ret
     exact HE.out
end
end Go.Proofs.YtipdclphpkgceaaGreatDoor
