import Derived.Test.YtejlihcdfffafaaGreatDoorP06
import Derived.Laws.OwnMore
import Derived.Sort.Row
import Derived.Deep.RegionHeldLaw
set_option maxHeartbeats 1000000
namespace Go.Proofs.YtejlihcdfffafaaGreatDoor
open Go.RowKit
theorem Wp (a:oA)(n cap:Nat)(w:World)(D:n<=maxLen)(N:300<n):Calls Tryz.prog 14 #[.slice a n cap] w fun e w'=>e=.returned (.agg #[.int .i64 2,.int .i64 (-1)])/\zW w w':=by
 unfold maxLen at D;have z:zW w (w.alloc (.cells #[.int .i64 0,.int .i64 0] 52)):=ba;go_in
 go_wp2_with fail;refine(Ce 2 _).mono ?_
 rintro e J ⟨rfl,h⟩;obtain⟨E,I,K,O⟩:=(Lu w _ _ _).later h;have H:=qX (z.tr h);clear h z;go_wp2_with fail;exact vB (v:=.agg #[.int .i64 2,.int .i64 (-1)]) (by simp[results,Tryz.results14,go_sem,E,I]) rfl ⟨rfl,(H.o.setCell lr _).setCell lr _⟩
theorem jy {x y h:Int}(z:Jk ⟨x,y,h⟩=false):x<0\/(¬x<0/\8<=x)\/(¬x<0/\¬8<=x/\y<1)\/(¬x<0/\¬8<=x/\¬y<1/\1500<y)\/(¬x<0/\¬8<=x/\¬y<1/\¬1500<y/\h<0)\/(¬x<0/\¬8<=x/\¬y<1/\¬1500<y/\¬h<0/\1099511627776<h):=by
 have:=Yu z;simp only at this;omega
theorem Px (a:oA)(cap:Nat)(ps:List Pk)(w:World)(a2:Aw w a ps)(bT:ps.length<=300)(j:Nat)(b4:j<=ps.length)(bc:K8 ps j)(c p:Int)
  (bh:(j=ps.length/\c=0/\p = -1)\/(∃ q k,ps[j]? = some q/\QW ps j q k/\c=k+1/\p=j)) :
  Calls Tryz.prog 14 #[.slice a ps.length cap] w fun e w'=>e=.returned (.agg #[.int .i64 c,.int .i64 p])/\zW w w':=by
 have Y:zW w (w.alloc (.cells #[.int .i64 0,.int .i64 0] 52)):=ba;obtain⟨b,z,K,W,a5⟩:∃ b z,(ps=[]\/b<w.heap.size)/\(∀(i:Nat) p,ps[i]? = some p->w.cell? ⟨b,z+i*3,none⟩=some (.int .i64 p.flow)/\w.cell? ⟨b,z+i*3+1,none⟩=some (.int .i64 p.size)/\w.cell? ⟨b,z+i*3+2,none⟩=some (.int .i64 p.tick))/\(ps=[]\/a=some ⟨b,z,none⟩):=by
  rcases a2 with rfl|⟨b,z,e,K,W⟩
  · exact⟨0,0,.inl rfl,fun i p h=>by simp at h,.inl rfl⟩
  exact⟨b,z,.inr K,W,.inr e⟩
 have bb:=qX W;have bt:=qX a5;have bq:=qX K;have a4:=qX bc;have ac:=(show Hid ((j=ps.length/\c=0/\p = -1)\/(∃ q k,ps[j]? = some q/\QW ps j q k/\c=k+1/\p=j))from bh)
 clear a2 bc W a5 bh K;generalize a6:ps.length=n at *;have ao:=(show Hid (ps.length=n)from a6)
 clear a6;go_in
 go_wp2_with fail;go_loopw [3] (fun i wr=>∃ q:Nat,q<=j/\i=.int .i64 q/\zW w wr/\Two w wr (.int .i64 0) (.int .i64 0)) (fun i _=>n-(intOf i).toNat)
 case atStart=>exact⟨0,qR _,rfl,Y,Lu w _ _ _⟩
 case round=>
  obtain⟨q,a3,rfl,D,E⟩:=hrel;have ai:=qX D;have a0:=qX E;have al:=D.size;by_cases bv:q<n
  ·
   have aB:ps≠[]:=fun e=>by have:=ao.o;rw[e]at this;simp at this;omega
   obtain rfl:=bt.o.resolve_left aB;have K:=bq.o.resolve_left aB;obtain⟨⟨x,y,H⟩,aq,-⟩:=Ab ps q (by rw[ao.o];exact bv);obtain⟨d1,d2,d3⟩:=bb.o q _ aq;have a9:wr.cell? ⟨b,z+q*3,none⟩=some (.int .i64 x):=by rw[D.cell (p:=⟨b,z+q*3,none⟩) K];exact d1
   have a7:wr.cell? ⟨b,z+q*3+1,none⟩=some (.int .i64 y):=by rw[D.cell (p:=⟨b,z+q*3+1,none⟩) K];exact d2
   have bd:wr.cell? ⟨b,z+q*3+2,none⟩=some (.int .i64 H):=by rw[D.cell (p:=⟨b,z+q*3+2,none⟩) K];exact d3
   have Z:=qX aq;clear d1 d2 d3 aq aB;by_cases N:Jk ⟨x,y,H⟩=true
   ·
    have o:=A7 N;simp only at o;obtain⟨b8,cf,b3,b7,b0,b2⟩:=o;have a1:=qX N;have aE:Hid (q=0\/∃ am aj I,ps[q-1]? = some ⟨am,aj,I⟩/\ahead ps q=I/\1<=q):=by
     rcases xP q with h|h
     · exact .inl h
     obtain⟨⟨am,aj,I⟩,ab,-⟩:=Ab ps (q-1) (by rw[ao.o];omega);have:=Ka ab;rw[show q-1+1=q by omega]at this;exact .inr ⟨am,aj,I,ab,this,h⟩
    clear N;rcases aE.o with rfl|⟨am,aj,I,ab,an,b1⟩
    ·
     have a':0<j\/j=0:=by omega
     have aN:Hid (0<j):=by
      rcases a' with h|rfl
      · exact h
      rcases ac.o with⟨h,-⟩|⟨r,k,J,Q,-,-⟩
      · omega
      obtain rfl:r=⟨x,y,H⟩:=Option.some.inj (J.symm.trans Z.o);rcases Q with⟨h,-⟩|⟨-,h,-⟩
      · rw[a1.o]at h;cases h
      simp[ahead]at h;omega
     clear D E Y a' aE;have b9:wr.cell? ⟨b,z,none⟩=some (.int .i64 x):=by simpa using a9
     have cd:wr.cell? ⟨b,z+1,none⟩=some (.int .i64 y):=by simpa using a7
     have ce:wr.cell? ⟨b,z+2,none⟩=some (.int .i64 H):=by simpa using bd
     clear a9 a7 bd;go_wp2
     go_quiet (fail);go_wp2_with fail;have bs:=aN.o;go_roundw
     case rel=>exact⟨1,by omega,rfl,qL (ai.o.alloc al _) _,a0.o.later (qL ba _)⟩
     case measure=>simp[intOf];omega
    have d3:=(bb.o (q-1) _ ab).2.2;have bp:wr.cell? ⟨b,z+(q-1)*3+2,none⟩=some (.int .i64 I):=by rw[D.cell (p:=⟨b,z+(q-1)*3+2,none⟩) K];exact d3
    have bN:(wr.alloc (.cells #[.int .i64 x,.int .i64 y,.int .i64 H] 50)).cell? ⟨b,z+(q-1)*3+2,none⟩=some (.int .i64 I):=j7 ba bp;have ca:0<q:=by omega
    have cb:decide ((0:Int)<(q:Int))=true:=qM (by omega);clear d3 ab aE;by_cases ap:H<I
    ·
     have bk:decide (H<I)=true:=qM ap;have V:Hid (q=j/\c=5/\p=q):=by
      by_cases ad:q<j
      · have:=(a4.o q _ ad Z.o).2;rw[an]at this;simp only at this;omega
      obtain rfl:q=j:=by omega
      rcases ac.o with⟨h,-⟩|⟨r,k,J,Q,rfl,rfl⟩
      · omega
      obtain rfl:r=⟨x,y,H⟩:=Option.some.inj (J.symm.trans Z.o);rcases Q with⟨h,-⟩|⟨-,h,rfl⟩
      · rw[a1.o]at h;cases h
      exact⟨rfl,rfl,rfl⟩
     obtain⟨rfl,rfl,rfl⟩:=V.o;clear D Y an V a3;have U:zW wr (wr.alloc (.cells #[.int .i64 x,.int .i64 y,.int .i64 H] 50)):=ba;have aS:=qX (ai.o.trans (U.mono al));obtain⟨aw,ar,bx,bj⟩:=E.later U;clear U E;go_wp2
     go_quiet (fail);go_wp2_with fail;exact vB (v:=.agg #[.int .i64 5,.int .i64 q]) (by simp[results,Tryz.results14,go_sem,aw,ar]) rfl ⟨rfl,((qL aS.o _).setCell lr _).setCell lr _⟩
    have aN:Hid (q<j):=by
     by_cases ad:q<j
     · exact ad
     obtain rfl:q=j:=by omega
     rcases ac.o with⟨h,-⟩|⟨r,k,J,Q,-,-⟩
     · omega
     obtain rfl:r=⟨x,y,H⟩:=Option.some.inj (J.symm.trans Z.o);rcases Q with⟨h,-⟩|⟨-,h,-⟩
     · rw[a1.o]at h;cases h
     rw[an]at h;exact absurd h ap
    have bk:decide (H<I)=false:=qF ap;clear D E Y an;go_wp2
    go_quiet (fail);go_wp2_with fail;have bs:=aN.o;go_roundw
    case rel=>exact⟨q+1,by omega,by go_num,qL (ai.o.alloc al _) _,a0.o.later (qL ba _)⟩
    case measure=>simp[intOf];omega
   have bg:Jk ⟨x,y,H⟩=false:=by simpa using N
   have V:Hid (q=j/\c=2/\p=q):=by
    by_cases ad:q<j
    · exact absurd (a4.o q _ ad Z.o).1 N
    obtain rfl:q=j:=by omega
    rcases ac.o with⟨h,-⟩|⟨r,k,J,Q,rfl,rfl⟩
    · omega
    obtain rfl:r=⟨x,y,H⟩:=Option.some.inj (J.symm.trans Z.o);rcases Q with⟨-,rfl⟩|⟨h,-,-⟩
    · exact⟨rfl,rfl,rfl⟩
    exact absurd h N
   obtain⟨rfl,rfl,rfl⟩:=V.o;have be:=(show Hid _ from jy bg)
   clear D Y V a3 N bg;have U:zW wr (wr.alloc (.cells #[.int .i64 x,.int .i64 y,.int .i64 H] 50)):=ba;have aS:=qX (ai.o.trans (U.mono al));obtain⟨aw,ar,bx,bj⟩:=E.later U;clear U E;rcases be.o with O|⟨O,E⟩|⟨O,E,av⟩|⟨O,E,av,a8⟩|⟨O,E,av,a8,bm⟩|⟨O,E,av,a8,bm,b'⟩
   all_goals
    clear be;go_wp2_with fail;exact vB (v:=.agg #[.int .i64 2,.int .i64 q]) (by simp[results,Tryz.results14,go_sem,aw,ar]) rfl ⟨rfl,(aS.o.setCell lr _).setCell lr _⟩
  have V:Hid (c=0/\p = -1):=by
   rcases ac.o with⟨-,O,E⟩|⟨r,k,J,-,-,-⟩
   · exact⟨O,E⟩
   have:j<ps.length:=by
    rcases qC j ps.length with h|h
    · exact h
    simp[qH h]at J
   rw[ao.o]at this;omega
  obtain⟨rfl,rfl⟩:=V.o;clear D E Y;go_wp2_with fail;refine(IB _).mono ?_
  rintro e b5 ⟨rfl,D⟩;obtain⟨W,bw,cc,b6⟩:=a0.o.later D;have bl:=qX (ai.o.tr D);clear D;go_wp2_with fail;exact vB (v:=.agg #[.int .i64 0,.int .i64 (-1)]) (by simp[results,Tryz.results14,go_sem,W,bw]) rfl ⟨rfl,(bl.o.setCell lr _).setCell lr _⟩
theorem A8.bo {w:World}{h:Nat->Addr}(z:A8 w h):J5 w h:=⟨z.c1,z.c4⟩
def EF (ps:List Pk)(c p:Int):Prop:=
 (300<ps.length/\c=2/\p = -1) \/
 (ps.length<=300/\∃(j:Nat)(q:Pk)(k:Nat),ps[j]? = some q/\K8 ps j/\QW ps j q k/\c=k+1/\p=j) \/
 (Al ps/\c=0/\p = -1)
theorem K7 (ps:List Pk):∃ c p,EF ps c p:=by
 rcases ZL ps with h|h|⟨h,j,q,k,E,D,z⟩
 · exact⟨0,-1,.inr (.inr ⟨h,rfl,rfl⟩)⟩
 · exact⟨2,-1,.inl ⟨h,rfl,rfl⟩⟩
 exact⟨k+1,j,.inr (.inl ⟨h,j,q,k,E,D,z,rfl,rfl⟩)⟩
theorem EF.num {ps:List Pk}{c p:Int}(h:EF ps c p):c=0/\p = -1/\Al ps\/0<c:=by
 rcases h with⟨_,h,_⟩|⟨_,j,q,k,_,_,_,h,_⟩|⟨h,D,z⟩
 · exact .inr (by omega)
 · exact .inr (by omega)
 exact .inl ⟨D,z,h⟩
theorem Nz (a:oA)(cap:Nat)(ps:List Pk)(w:World)(z:Aw w a ps)(K:ps.length<=cap)(H:cap<=maxLen)(c p:Int)(h:EF ps c p):qW 14 #[.slice a ps.length cap] w (.agg #[.int .i64 c,.int .i64 p]):=by
 rcases h with⟨h,rfl,rfl⟩|⟨h,j,q,k,D,J,N,rfl,rfl⟩|⟨h,rfl,rfl⟩
 · exact Wp a ps.length cap w (qI K H) h
 ·
  have I:j<=ps.length:=by
   rcases qC j ps.length with E|E
   · omega
   simp[qH E]at D
  exact Px a cap ps w z h j I J _ _ (.inr ⟨q,k,D,N,rfl,rfl⟩)
 exact Px a cap ps w z h.few ps.length lr (fun i q _ O=>h.each i q O) 0 (-1) (.inl ⟨rfl,rfl,rfl⟩)
theorem NU (a:oA)(cap:Nat)(ps:List Pk)(w:World)(E:Nat->Addr)(D:A8 w E)(I:Aw w a ps)(U:ps.length<=cap)(N:cap<=maxLen)(c p:Int)(h:EF ps c p):Calls Tryz.prog 96 #[.slice a ps.length cap] w fun e w'=>∃ H,e=.returned H/\Ba w' H c p/\zW w w':=by
 rcases h with⟨h,rfl,rfl⟩|⟨h,j,q,k,V,O,J,rfl,rfl⟩|⟨h,rfl,rfl⟩
 ·
  refine(Va a ps.length cap w E D.bo (qI U N) h).mono ?_
  rintro e w' ⟨rfl,rfl⟩;exact⟨_,rfl,Bo D 1 (by decide),br⟩
 ·
  refine(YC a cap ps w E D.bo I h j q V O k J).mono ?_
  rintro e w' ⟨z,B,rfl,-,-,Q,K⟩;have W:k<9:=by rcases J with⟨-,rfl⟩|⟨-,-,rfl⟩ <;> omega
  exact⟨_,rfl,⟨Ip (D.below z) k W j B Q K,fun h=>by omega,fun _=>⟨_,_,rfl⟩⟩,z⟩
 refine(JO a cap ps w I h).mono ?_
 rintro e w' ⟨rfl,z⟩;exact⟨_,rfl,DK _,z⟩
theorem Ch.unique {ls:lI}{c a Q W:Int}(h:Ch ls c a)(J:Ch ls Q W):c=Q:=by
 have no:∀ j:Nat,j<ls.length->(∀ x y,ls[j]? = some (x,y)->BM x y=false)->Ci ls->False:=fun j D V U=>by
  have e:ls[j]? = some (ls[j].1,ls[j].2):=qE D;have E:=U ls[j] (xQ D);rw[V _ _ e]at E;cases E
 rcases h with⟨E,rfl,-⟩|⟨E,ab,j,D,Z,Y,rfl,-⟩|⟨h,rfl,-⟩
 ·
  rcases J with⟨z,rfl,-⟩|⟨z,N,K,I,O,H,rfl,-⟩|⟨g,rfl,-⟩
  · rfl
  · omega
  have:=g.1;have:=g.2.1;omega
 ·
  rcases J with⟨z,rfl,-⟩|⟨z,N,K,I,O,H,rfl,-⟩|⟨g,rfl,-⟩
  · omega
  · rfl
  exact(no j D Y g.2.2).elim
 rcases J with⟨z,rfl,-⟩|⟨z,N,K,I,O,H,rfl,-⟩|⟨g,rfl,-⟩
 · have:=h.1;have:=h.2.1;omega
 · exact(no K I H h.2.2).elim
 rfl
def kindOf (h:List UInt8):Nat:=if h=[102,105,102,111]then 1 else if h=[114,97,110,107]then 2 else if h=[100,117,101]then 3 else if h=[114,111,117,110,100]then 4 else if h=[102,97,105,114]then 5 else 0
theorem Ew (h:List UInt8):kindOf h<=5:=by
 unfold kindOf;repeat' split
 all_goals omega
def DL (k:Nat)(ns:List Int)(c:Nat):Prop:=
 (k=1/\((c=3/\ns≠[])\/(c=0/\ns=[])))\/(k=2/\Bt 0 100 ns c)\/(k=3/\Bt 0 1099511627776 ns c)\/(k=4/\Bt 1 3000 ns c)\/(k=5/\Ee ns c)
theorem UA {k:Nat}(D:1<=k)(z:k<=5)(ns:List Int):∃ c,DL k ns c:=by
 rcases(show k=1\/k=2\/k=3\/k=4\/k=5 by omega)with rfl|rfl|rfl|rfl|rfl
 ·
  by_cases h:ns=[]
  · exact⟨0,.inl ⟨rfl,.inr ⟨rfl,h⟩⟩⟩
  exact⟨3,.inl ⟨rfl,.inl ⟨rfl,h⟩⟩⟩
 · obtain⟨c,h⟩:=CW 0 100 ns;exact⟨c,.inr (.inl ⟨rfl,h⟩)⟩
 · obtain⟨c,h⟩:=CW 0 1099511627776 ns;exact⟨c,.inr (.inr (.inl ⟨rfl,h⟩))⟩
 · obtain⟨c,h⟩:=CW 1 3000 ns;exact⟨c,.inr (.inr (.inr (.inl ⟨rfl,h⟩)))⟩
 obtain⟨c,h⟩:=KP ns;exact⟨c,.inr (.inr (.inr (.inr ⟨rfl,h⟩)))⟩
theorem DL.few {k:Nat}{ns:List Int}{c:Nat}(h:DL k ns c):c=0\/c=2\/c=3:=by
 rcases h with⟨-,⟨h,-⟩|⟨h,-⟩⟩|⟨-,⟨h,-⟩|⟨h,-⟩|⟨h,-⟩⟩|⟨-,⟨h,-⟩|⟨h,-⟩|⟨h,-⟩⟩|⟨-,⟨h,-⟩|⟨h,-⟩|⟨h,-⟩⟩|⟨-,⟨h,-⟩|⟨h,-⟩|⟨h,-⟩⟩ <;> omega
def Ae (cs:List lI)(f:Nat):lI:=cs.getD f []
theorem Cx {cs:List lI}{f:Nat}{ls:lI}(h:cs[f]? = some ls):Ae cs f=ls:=by simp[Ae,List.getD,h]
def Cj (cs:List lI)(k:Nat):Prop:=∀(i:Nat) ls,i<k->cs[i]? = some ls->ls=[]\/Ak ls
def Lr (cs:List lI)(i:Nat)(c:Int):Prop:=∃ ls p,cs[i]? = some ls/\ls≠[]/\Ch ls c p/\0<c
theorem MR (cs:List lI):∀ k,k<=cs.length->Cj cs k\/∃ i c,i<k/\Lr cs i c/\Cj cs i
 | 0,_=>.inl fun i ls D=>absurd D (vR _)
 | k+1,O=>by
  rcases MR cs k (by omega)with D|⟨i,c,Q,J,K⟩
  ·
   have e:cs[k]? = some cs[k]:=qE (by omega);by_cases H:cs[k]=[]
   ·
    refine .inl fun i ls N h=>?_
    rcases qC i k with z|z
    · exact D i ls z h
    obtain rfl:i=k:=by omega
    rw[e]at h;obtain rfl:=Option.some.inj h;exact .inl H
   obtain⟨c,p,E⟩:=KS cs[k];by_cases I:c=0
   ·
    subst I;refine .inl fun i ls N h=>?_
    rcases qC i k with z|z
    · exact D i ls z h
    obtain rfl:i=k:=by omega
    rw[e]at h;obtain rfl:=Option.some.inj h;exact .inr E.ok.1
   have:=E.num;exact .inr ⟨k,c,by omega,⟨_,p,e,H,E,by omega⟩,D⟩
  exact .inr ⟨i,c,by omega,J,K⟩
theorem Cj.ok {cs:List lI}(h:Cj cs 8):Dm (Ae cs):=fun f z=>by
 cases e:cs[f]? with
 | none=>exact .inl (by simp[Ae,List.getD,e])
 | some ls=>rw[Cx e];exact h f ls z e
def Ea (cs:List lI)(k:Nat)(per:Int)(ns:List Int)(c p:Int):Prop:=
 (cs.length≠8/\c=3/\p = -1)\/(cs.length=8/\∃ i:Nat,Lr cs i c/\p=i/\Cj cs i) \/
  (cs.length=8/\Cj cs 8/\p = -1/\((k=0/\c=9)\/(1<=k/\k<=5/\((¬(1<=per/\per<=1000)/\c=2)\/(1<=per/\per<=1000/\∃ d:Nat,DL k ns d/\c=d)))))
structure GA (cs:List lI)(k:Nat)(per:Int)(ns:List Int):Prop where
 len:cs.length=8
 curves:Cj cs 8
 kind:1<=k/\k<=5
 per:1<=per/\per<=1000
 nums:DL k ns 0
theorem JM (cs:List lI){k:Nat}(z:k<=5)(per:Int)(ns:List Int):∃ c p,Ea cs k per ns c p:=by
 by_cases h:cs.length=8
 ·
  rcases MR cs 8 (by omega)with E|⟨i,c,N,J,K⟩
  ·
   by_cases H:k=0
   · exact⟨9,-1,.inr (.inr ⟨h,E,rfl,.inl ⟨H,rfl⟩⟩)⟩
   by_cases D:1<=per/\per<=1000
   · obtain⟨d,I⟩:=UA (k:=k) (by omega) z ns;exact⟨d,-1,.inr (.inr ⟨h,E,rfl,.inr ⟨by omega,z,.inr ⟨D.1,D.2,d,I,rfl⟩⟩⟩)⟩
   exact⟨2,-1,.inr (.inr ⟨h,E,rfl,.inr ⟨by omega,z,.inl ⟨D,rfl⟩⟩⟩)⟩
  exact⟨c,i,.inr (.inl ⟨h,i,J,rfl,K⟩)⟩
 exact⟨3,-1,.inl ⟨h,rfl,rfl⟩⟩
theorem Ea.num {cs:List lI}{k:Nat}{per:Int}{ns:List Int}{c p:Int}(h:Ea cs k per ns c p):(c=0/\p = -1/\GA cs k per ns)\/(0<c/\c<=9):=by
 rcases h with⟨-,h,-⟩|⟨-,i,⟨ls,q,-,-,O,h⟩,-⟩|⟨N,H,I,⟨-,h⟩|⟨K,J,⟨-,h⟩|⟨D,E,d,z,h⟩⟩⟩
 · exact .inr (by omega)
 · have:=O.num;exact .inr (by omega)
 · exact .inr (by omega)
 · exact .inr (by omega)
 rcases z.few with rfl|rfl|rfl
 · exact .inl ⟨by omega,I,N,H,⟨K,J⟩,⟨D,E⟩,z⟩
 · exact .inr (by omega)
 exact .inr (by omega)
def Cn (k:Nat)(per:Int)(ps:List Pk)(ns:List Int)(l:List Sn):Prop:=
 (k=1/\l=BZ per ps ps.length)\/(k=2/\EE per ps (Bz ps ns) l/\l.length=ps.length)\/(k=3/\EE per ps (BP ps ns) l/\l.length=ps.length)\/(k=4/\Ej per ps ns l)\/(k=5/\∃ h,Ff per ps ns l h)
theorem Cn.same {k:Nat}{per:Int}{ps:List Pk}{ns:List Int}{l m:List Sn}(z:Cn k per ps ns l)(h:Cn k per ps ns m):l=m:=by
 rcases z with⟨rfl,z⟩|⟨rfl,D,H⟩|⟨rfl,D,H⟩|⟨rfl,z⟩|⟨rfl,K,z⟩
 ·
  rcases h with⟨-,h⟩|⟨e,-⟩|⟨e,-⟩|⟨e,-⟩|⟨e,-⟩
  · rw[z,h]
  all_goals omega
 ·
  rcases h with⟨e,-⟩|⟨-,E,I⟩|⟨e,-⟩|⟨e,-⟩|⟨e,-⟩
  case inr.inl=>exact D.same E (by omega)
  all_goals omega
 ·
  rcases h with⟨e,-⟩|⟨e,-⟩|⟨-,E,I⟩|⟨e,-⟩|⟨e,-⟩
  case inr.inr.inl=>exact D.same E (by omega)
  all_goals omega
 ·
  rcases h with⟨e,-⟩|⟨e,-⟩|⟨e,-⟩|⟨-,g⟩|⟨e,-⟩
  case inr.inr.inr.inl=>exact z.same g
  all_goals omega
 rcases h with⟨e,-⟩|⟨e,-⟩|⟨e,-⟩|⟨e,-⟩|⟨-,J,g⟩
 case inr.inr.inr.inr=>exact(z.same g).1
 all_goals omega
theorem Zu {ns:List Int}(z:Gd ns):Gw ns:=fun f=>by
 cases h:ns[f]? with
 | none=>simp[BI,List.getD,h]
 | some x=>
  rw[IZ h];have:=z.each f x h;exact⟨this.1,Int.ediv_mul_cancel (Int.dvd_of_emod_eq_zero this.2)⟩
theorem Bt.ok {z D:Int}{ns:List Int}(h:Bt z D ns 0):DF z D ns:=by
 rcases h with⟨h,-⟩|⟨h,-⟩|⟨-,h⟩
 · omega
 · omega
 exact h
theorem Ee.ok {ns:List Int}(h:Ee ns 0):Gd ns:=by
 rcases h with⟨h,-⟩|⟨h,-⟩|⟨-,h⟩
 · omega
 · omega
 exact h
theorem Cn.may {k:Nat}{per:Int}{ps:List Pk}{ns:List Int}{l:List Sn}(E:Cn k per ps ns l)(h:DL k ns 0)(z:Al ps)(I:1<=per):Conv per ps l/\Oy ps l/\l.length=ps.length:=by
 rcases E with⟨rfl,rfl⟩|⟨rfl,D,H⟩|⟨rfl,D,H⟩|⟨rfl,E⟩|⟨rfl,K,E⟩
 · exact⟨(VF z).1,(VF z).2,by simp[BZ]⟩
 · exact⟨D.conv,XI z D,H⟩
 · exact⟨D.conv,ZB z D,H⟩
 ·
  rcases h with⟨e,-⟩|⟨e,-⟩|⟨e,-⟩|⟨-,h⟩|⟨e,-⟩
  case inr.inr.inr.inl=>exact E.may z (fun f=>(Gf (fun i x J=>h.ok.each i x J) (by decide) f).1) I
  all_goals omega
 rcases h with⟨e,-⟩|⟨e,-⟩|⟨e,-⟩|⟨e,-⟩|⟨-,h⟩
 case inr.inr.inr.inr=>exact E.may (Zu h.ok) z I
 all_goals omega
def Bg (cs:Nat->lI)(ps:List Pk)(i:Nat):Prop:=∃ p s,ps[i]? = some p/\cs (Ag ps i)≠[]/\shape (cs (Ag ps i)) ((Bi ps (Ag ps i) ps.length).take (IP ps i))=some s/\CR s p=none
theorem VR (ls:lI):∀ own:List Pk,shape ls own=none->∃(j:Nat)(p:Pk)(s:Sh),own[j]? = some p/\shape ls (own.take j)=some s/\CR s p=none:=by
 refine Vp (fun h=>by cases h) (fun own p J h=>?_);rw[Ko]at h;cases z:shape ls own with
 | none=>
  obtain⟨j,q,s,D,E,I⟩:=J z;have H:=Af D;exact⟨j,q,s,by rw[qU H];exact D,by rw[yG (by omega)];exact E,I⟩
 | some s=>
  rw[z]at h;exact⟨own.length,p,s,by simp,by simpa using z,h⟩
section
variable {cs:Nat → List (Int × Int)} {ps:List Pk}
theorem W9 (I:Al ps)(H:∀ i,¬Bg cs ps i)(f:Nat):∃ out,CY cs ps f=some out:=by
 unfold CY;by_cases h:cs f=[]
 · exact⟨_,if_pos h⟩
 rw[if_neg h];cases U:shape (cs f) (Bi ps f ps.length)with
 | some s=>exact⟨_,rfl⟩
 | none=>
  obtain⟨j,p,s,E,J,O⟩:=VR _ _ U;have z:=Es I f ps.length lr;have K:j<(AO ps f ps.length).length:=by rw[<- z.1];exact Af E
  have e:(AO ps f ps.length)[j]? = some (AO ps f ps.length)[j]:=qE K;obtain⟨V,D,N,Q⟩:=z.2 j _ e;refine absurd ⟨p,s,by rw[<- Q];exact E,by rw[D];exact h,by rw[D,N];exact J,O⟩ (H (AO ps f ps.length)[j])
def Cy (cs:Nat->lI)(k:Nat)(per:Int)(ns:List Int)(ps qs:List Pk)(l:List Sn):Prop:=∃ h L,Shaped cs ps h/\Be h ps.length L/\qs=Aj ps h L/\Cn k per qs ns l
theorem Zw (h:Al ps)(z:∀ i,¬Bg cs ps i):∃ I,Shaped cs ps I:=by
 obtain⟨out,D⟩:=Classical.axiomOfChoice fun f=>W9 (cs:=cs) h z f
 refine⟨fun i=>Ar (out (Ag ps i)) (IP ps i),fun f K=>⟨out f,D f,fun r i J=>?_⟩⟩;obtain⟨-,H,E,-⟩:=(Es h f ps.length lr).2 r i J;show Ar (out (Ag ps i)) (IP ps i)=_
 rw[H,E]
theorem Shaped.same (h:Al ps){z E:Nat->Int}(Q:Shaped cs ps z)(J:Shaped cs ps E){i:Nat}(I:i<ps.length):z i=E i:=by
 have H:=IM h I;obtain⟨out,U,V⟩:=Q _ H;obtain⟨K,N,O⟩:=J _ H;obtain rfl:out=K:=Option.some.inj (U.symm.trans N);have D:=QD h I lr;rw[V _ _ D,O _ _ D]
theorem Be.turn {z D:Nat->Int}{n:Nat}{L:List Nat}(h:Be z n L)(E:∀ i,i<n->z i=D i):Be D n L:=by
 refine⟨?_,h.mem⟩;refine List.Pairwise.imp_of_mem (fun {a b} I H J=>?_) h.sorted;have N:=E a ((h.mem a).1 I);have K:=E b ((h.mem b).1 H);unfold Ahead at J ⊢;omega
theorem VB (H:Al ps){h z:Nat->Int}{L M:List Nat}(K:Shaped cs ps h)(I:Shaped cs ps z)(J:Be h ps.length L)(N:Be z ps.length M):Aj ps h L=Aj ps z M:=by
 obtain rfl:L=M:=(J.turn fun i D=>K.same H I D).same N;refine List.map_congr_left fun i D=>?_
 have E:=(J.mem i).1 D;have e:ps[i]? = some ps[i]:=qE E;rw[Ep e,Ep e,K.same H I E]
theorem Cy.same {k:Nat}{per:Int}{ns:List Int}{qs h:List Pk}{l D:List Sn}(E:Al ps)(N:Cy cs k per ns ps qs l)(I:Cy cs k per ns ps h D):qs=h/\l=D:=by
 obtain⟨U,L,Q,J,rfl,O⟩:=N;obtain⟨V,M,K,H,rfl,z⟩:=I;have e:=VB E Q K J H;rw[<- e]at z;exact⟨e,O.same z⟩
theorem Cy.ok {k:Nat}{per:Int}{ns:List Int}{qs:List Pk}{l:List Sn}(z:Al ps)(D:Dm cs)(E:Cy cs k per ns ps qs l):Al qs/\qs.length=ps.length/\Cn k per qs ns l:=by
 obtain⟨J,L,I,h,rfl,H⟩:=E;exact⟨I.ok z D h,by rw[Aj,xZ];exact h.length,H⟩
end
theorem Vu {P:Nat->Prop}(K:∃ i,P i):∃ i,P i/\∀ j,j<i->¬P j:=by
 obtain⟨n,z⟩:=K;induction n using Nat.strongRecOn with
 | _ n I=>
  by_cases h:∃ m,m<n/\P m
  · obtain⟨m,H,D⟩:=h;exact I m H D
  exact⟨n,z,fun j E J=>h ⟨j,E,J⟩⟩
def KG (cs:List lI)(k:Nat)(per:Int)(ns:List Int)(ps:List Pk)(c p:Int):Prop:=
 (Ea cs k per ns c p/\0<c)\/(GA cs k per ns/\EF ps c p/\0<c)\/(GA cs k per ns/\Al ps/\∃ i:Nat,Bg (Ae cs) ps i/\(∀ j,j<i->¬Bg (Ae cs) ps j)/\c=4/\p=i)\/(GA cs k per ns/\Al ps/\(∀ i,¬Bg (Ae cs) ps i)/\c=0/\p = -1)
theorem Vm (cs:List lI){k:Nat}(J:k<=5)(per:Int)(ns:List Int)(ps:List Pk):∃ c p,KG cs k per ns ps c p:=by
 obtain⟨c,p,I⟩:=JM cs J per ns;rcases I.num with⟨rfl,rfl,z⟩|h
 ·
  obtain⟨c,p,H⟩:=K7 ps;rcases H.num with⟨rfl,rfl,E⟩|h
  ·
   by_cases D:∃ i,Bg (Ae cs) ps i
   · obtain⟨i,N,K⟩:=Vu D;exact⟨4,i,.inr (.inr (.inl ⟨z,E,i,N,K,rfl,rfl⟩))⟩
   exact⟨0,-1,.inr (.inr (.inr ⟨z,E,fun i O=>D ⟨i,O⟩,rfl,rfl⟩))⟩
  exact⟨c,p,.inr (.inl ⟨z,H,h⟩)⟩
 exact⟨c,p,.inl ⟨I,h.1⟩⟩
open Go.Sort
def ints (xs:List Int):List Value:=xs.map (Value.int .i64)
theorem Jc (xs:List Int):(ints xs).length=xs.length:=by simp[ints]
theorem Oc (a b:List Int):ints (a++b)=ints a++ints b:=by simp[ints]
theorem Hu {xs:List Int}{j:Nat}{x:Int}(h:xs[j]? = some x):(ints xs)[j]? = some (.int .i64 x):=by simp[ints,h]
theorem D7 (xs:List Int):∀ u∈ints xs,u.oneCell'=true:=by
 intro u h;obtain⟨x,-,rfl⟩:=List.mem_map.1 h;rfl
theorem Td {w:World}{B:Nat}{e:TypeId}{g cap:Nat}{zs:List Int}(h:w.ownsRow B e 1 (.slice (some ⟨g,0,none⟩) zs.length cap) zs.length (ints zs)):Holds (Value.int .i64) w g 0 zs.toArray:=by
 intro j z;have D:j<zs.length:=by simpa using z
 refine⟨?_,h.frozenAt _⟩;rw[vC,h.cellAt j (by omega),Hu (qE D)]
 congr 2
 rw[getElem!_pos _ j z];simp
theorem V4 {w:World}{B:Nat}{e:TypeId}{g cap:Nat}{zs:List Int}(D:w.ownsRow B e 1 (.slice (some ⟨g,0,none⟩) zs.length cap) zs.length (ints zs))(i q:Nat)(K:i<zs.length):(putRow (Value.int .i64) (Sort.ahead w q) g 0 (zs.take i++zs.drop (i+1)++List.replicate (i+1-i) 0).toArray).ownsRow B e 1 (.slice (some ⟨g,0,none⟩) (zs.length-1) cap) (zs.length-1) (ints (zs.eraseIdx i)) /\
   But (fun k=>k=g) w (putRow (Value.int .i64) (Sort.ahead w q) g 0 (zs.take i++zs.drop (i+1)++List.replicate (i+1-i) 0).toArray):=by
 have N:(zs.eraseIdx i).length=zs.length-1:=by rw[List.length_eraseIdx,if_pos K]
 rcases D.2 with⟨h,_⟩|⟨g',ac,E,h,O,I,Z,J,W,ab⟩
 · simp at h
 simp only[Value.slice.injEq,Option.some.injEq,Addr.mk.injEq,and_true,true_and]at h;obtain⟨rfl,rfl⟩:=h;refine⟨⟨by rw[Jc,N,Nat.mul_one],.inr ⟨g,cap,putCells (Value.int .i64) 0 (zs.take i++zs.drop (i+1)++List.replicate (i+1-i) 0).toArray E,rfl,O,?_,by omega,J,by simp[putCells,W],?_⟩⟩,⟨rfl,rfl,rfl,by simp,fun k z Y=>?_⟩⟩
 · simp only[putRow,mapBlock,Array.getElem?_modify,heap_ahead,I];rfl
 ·
  apply List.ext_getElem?;intro k;rw[yR,Nat.mul_one];by_cases z:k<zs.length-1
  ·
   rw[if_pos z];have Q:(zs.eraseIdx i)[k]? = some ((zs.eraseIdx i)[k]'(by omega)):=qE (by omega);rw[Hu Q];have U:E[k]? = some E[k]:=xX (by omega);have H:(zs.take i++zs.drop (i+1)++List.replicate (i+1-i) (0:Int)).length=zs.length:=by
    simp only[qJ,vO,yK,List.length_replicate];omega
   simp only[putCells,zG,Array.getElem?_mapIdx,U,Option.map_some];rw[if_pos ⟨qR _,by rw[List.size_toArray,H];omega⟩]
   congr 2
   rw[Nat.sub_zero,getElem!_pos _ k (by rw[List.size_toArray,H];omega)];have V:zs.take i++zs.drop (i+1)=zs.eraseIdx i:=(List.eraseIdx_eq_take_drop_succ ..).symm;simp only[V,List.getElem_toArray];rw[List.getElem_append_left (by omega)]
  rw[if_neg z,qH (by rw[Jc];omega)]
 simp only[putRow,mapBlock,Array.getElem?_modify,heap_ahead];rw[if_neg (fun D=>Y D.symm)]
theorem dI {w:World}{B e:Nat}{v:Value}{zs:List Int}(D:w.ownsRow B e 1 v zs.length (ints zs)):∃ a cap,v=.slice a zs.length cap/\zs.length<=cap/\cap<=maxLen/\AR w a zs:=by
 have I:=D;obtain⟨Q,⟨rfl,h⟩|⟨g,cap,U,rfl,O,J,E,H,N,K⟩⟩:=D
 · exact⟨none,0,by rw[h],by omega,by simp[maxLen],.inl (qN.1 h)⟩
 refine⟨_,cap,rfl,E,H,.inr ⟨g,0,rfl,xR J,fun i x z=>?_⟩⟩;rw[vC,I.cellAt i (by have:=(vK.1 z).1;omega)];exact Hu z
def Hf (w:World)(a:oA)(cs:List lI):Prop:=
 cs=[]\/∃ b z,a=some ⟨b,z,none⟩/\b<w.heap.size/\∀(i:Nat) ls,cs[i]? = some ls->∃ h cap,w.cell? ⟨b,z+i,none⟩=some (.slice h ls.length cap)/\AQ w h ls/\ls.length<=cap/\cap<=maxLen/\(h=none->ls=[]/\cap=0)
theorem Hf.place {w:World}{a:oA}{cs:List lI}(h:Hf w a cs)(E:1<=cs.length):∃ b D,a=some ⟨b,D,none⟩/\b<w.heap.size/\∀(i:Nat) ls,cs[i]? = some ls->∃ z cap,w.cell? ⟨b,D+i,none⟩=some (.slice z ls.length cap)/\AQ w z ls/\ls.length<=cap/\cap<=maxLen/\(z=none->ls=[]/\cap=0):=by
 rcases h with rfl|h
 · simp at E
 exact h
theorem Hf.below {w w':World}{a:oA}{cs:List lI}(K:Hf w a cs)(h:zW w w'):Hf w' a cs:=by
 rcases K with rfl|⟨b,z,rfl,E,D⟩
 · exact .inl rfl
 refine .inr ⟨b,z,rfl,qD E h.size,fun i ls O=>?_⟩;obtain⟨N,cap,J,H,I⟩:=D i ls O;exact⟨N,cap,j7 h J,H.below h,I⟩
structure CS (w:World)(B:Nat)(ca:Value)(kb:ByteArray)(per:Int)(na:Value):Prop where
 c0:w.cell? ⟨B,0,none⟩=some ca
 c1:w.cell? ⟨B,1,none⟩=some (.string kb)
 c2:w.cell? ⟨B,2,none⟩=some (.int .i64 per)
 c3:w.cell? ⟨B,3,none⟩=some na
theorem Dk (w:World)(h:Value)(kb:ByteArray)(per:Int)(z:Value)(t:TypeId):CS (w.alloc (.cells #[h,.string kb,.int .i64 per,z] t)) w.heap.size h kb per z:=⟨by simp,by simp,by simp,by simp⟩
theorem CS.later {w w':World}{B:Nat}{D:Value}{kb:ByteArray}{per:Int}{E:Value}(h:CS w B D kb per E)(z:zW w w'):CS w' B D kb per E:=⟨j7 z h.c0,j7 z h.c1,j7 z h.c2,j7 z h.c3⟩
theorem JW:ByteArray.toList ⟨#[102,105,102,111]⟩=[102,105,102,111]:=by kernel_rfl
theorem WT:ByteArray.toList ⟨#[114,97,110,107]⟩=[114,97,110,107]:=by kernel_rfl
theorem bU:ByteArray.toList ⟨#[100,117,101]⟩=[100,117,101]:=by kernel_rfl
theorem Wm:ByteArray.toList ⟨#[114,111,117,110,100]⟩=[114,111,117,110,100]:=by kernel_rfl
theorem Xp:ByteArray.toList ⟨#[102,97,105,114]⟩=[102,97,105,114]:=by kernel_rfl
structure Zp (s:ByteArray)(b1 b2 b3 b4 b5:Bool):Prop where
 t1:(s.toList==[102,105,102,111])=b1
 t2:(s.toList==[114,97,110,107])=b2
 t3:(s.toList==[100,117,101])=b3
 t4:(s.toList==[114,111,117,110,100])=b4
 t5:(s.toList==[102,97,105,114])=b5
 u1:(s.toList==ByteArray.toList ⟨#[102,105,102,111]⟩)=b1
 u2:(s.toList==ByteArray.toList ⟨#[114,97,110,107]⟩)=b2
 u3:(s.toList==ByteArray.toList ⟨#[100,117,101]⟩)=b3
 u4:(s.toList==ByteArray.toList ⟨#[114,111,117,110,100]⟩)=b4
 u5:(s.toList==ByteArray.toList ⟨#[102,97,105,114]⟩)=b5
theorem JK (s:ByteArray):Zp s (decide (kindOf s.toList=1)) (decide (kindOf s.toList=2)) (decide (kindOf s.toList=3)) (decide (kindOf s.toList=4)) (decide (kindOf s.toList=5)):=by
 have key:∀ h:List UInt8,(h==[102,105,102,111])=decide (kindOf h=1)/\(h==[114,97,110,107])=decide (kindOf h=2)/\(h==[100,117,101])=decide (kindOf h=3)/\(h==[114,111,117,110,100])=decide (kindOf h=4)/\(h==[102,97,105,114])=decide (kindOf h=5):=by
  intro h;by_cases H:h=[102,105,102,111]
  · subst H;decide
  by_cases z:h=[114,97,110,107]
  · subst z;decide
  by_cases E:h=[100,117,101]
  · subst E;decide
  by_cases I:h=[114,111,117,110,100]
  · subst I;decide
  by_cases D:h=[102,97,105,114]
  · subst D;decide
  have U:kindOf h=0:=by simp[kindOf,H,z,E,I,D]
  rw[U];refine⟨?_,?_,?_,?_,?_⟩
  · simpa using H
  · simpa using z
  · simpa using E
  · simpa using I
  simpa using D
 obtain⟨N,J,Q,K,O⟩:=key s.toList;exact⟨N,J,Q,K,O,by rw[JW];exact N,by rw[WT];exact J,by rw[bU];exact Q,by rw[Wm];exact K,by rw[Xp];exact O⟩
structure Ga (w:World)(g:Nat)(b:Bk):Prop where
 c0:w.cell? ⟨g,0,none⟩=some (.int .i64 b.most)
 c1:w.cell? ⟨g,1,none⟩=some (.int .i64 b.rate)
 c2:w.cell? ⟨g,2,none⟩=some (.int .i64 b.has)
 c3:w.cell? ⟨g,3,none⟩=some (.int .i64 b.last)
 f2:w.frozen? ⟨g,2,none⟩=false
 f3:w.frozen? ⟨g,3,none⟩=false
theorem Ga.lt {w:World}{g:Nat}{b:Bk}(h:Ga w g b):g<w.heap.size:=Cg h.c0
theorem Ga.but {S:Nat->Prop}{w w':World}{g:Nat}{b:Bk}(h:Ga w g b)(z:But S w w')(D:¬S g):Ga w' g b:=
 have l:=h.lt
 ⟨by rw [z.cell (p:=⟨g,0,none⟩) l D];exact h.c0,by rw [z.cell (p:=⟨g,1,none⟩) l D];exact h.c1,by rw [z.cell (p:=⟨g,2,none⟩) l D];exact h.c2,by rw [z.cell (p:=⟨g,3,none⟩) l D];exact h.c3,
  by rw [z.frozen (p:=⟨g,2,none⟩) l D];exact h.f2,by rw [z.frozen (p:=⟨g,3,none⟩) l D];exact h.f3⟩
theorem Ga.below {w w':World}{g:Nat}{b:Bk}(h:Ga w g b)(z:zW w w'):Ga w' g b:=h.but (S:=fun _=>False) (.ofBelow z) id
theorem eu (m r h d:Int)(w:World)(E:0<=h)(I:h<=20000000)(D:0<=r*d)(H:r*d<=109951162777600000):Calls Tryz.prog 238 #[.agg #[.int .i64 m,.int .i64 r],.int .i64 h,.int .i64 d] w fun e w'=>e=.returned (.int .i64 (min m (h+r*d)))/\w'=w.alloc (.cells #[.int .i64 m,.int .i64 r] 285):=by
 go_in
 go_wp2
 all_goals
  go_ret;exact⟨congrArg (fun z=>Ending.returned (.int .i64 z)) (by omega),rfl⟩
theorem YD (g:Nat)(m r h l t v:Int)(w:World)(K:w.cell? ⟨g,0,none⟩=some (.int .i64 m))(E:w.cell? ⟨g,1,none⟩=some (.int .i64 r))(O:w.cell? ⟨g,2,none⟩=some (.int .i64 h))(H:w.cell? ⟨g,3,none⟩=some (.int .i64 l))(I:0<=l)(J:l<=t)(U:t<=1099511627776)
  (D:Hid (∀ w':World,Calls Tryz.prog 238 #[.agg #[.int .i64 m,.int .i64 r],.int .i64 h,.int .i64 (t-l)] w' fun e z=>e=.returned (.int .i64 v)/\z=w'.alloc (.cells #[.int .i64 m,.int .i64 r] 285))) :
  Calls Tryz.prog 226 #[.pointer (some ⟨g,0,none⟩),.int .i64 t] w fun e w'=>e=.returned (.int .i64 v)/\zW w w':=by
 have Q:IntKind.i64.wrap (t-l)=t-l:=vY _ (by omega);go_in
 go_wp2_with fail;go_region_with (first
  | (go_simp;go_at_call 238;go_must (refine(D.o _).mono ?_;rintro e N ⟨rfl,rfl⟩))
  | fail)
 all_goals
  go_wp2
  go_ret;exact⟨rfl,br.drew.alloc lr _⟩
theorem VM (g:Nat)(b:Bk)(t:Int)(w:World)(z:Ga w g b)(h:b.Ok)(D:b.last<=t)(E:t<=1099511627776):qW 226 #[.pointer (some ⟨g,0,none⟩),.int .i64 t] w (.int .i64 (b.lev t)):=by
 obtain⟨H,I⟩:=h.grow D E;exact YD g b.most b.rate b.has b.last t (b.lev t) w z.c0 z.c1 z.c2 z.c3 h.l0 D E (fun w'=>eu b.most b.rate b.has (t-b.last) w' h.h0 (by have:=h.h1;have:=h.m1;omega) H I)
structure I6 (w:World)(ad:Nat->Addr):Prop where
 c1:w.cell? ⟨0,0,none⟩=some (.iface 308 (.pointer (some (ad 1))))
 c2:w.cell? ⟨3,0,none⟩=some (.iface 308 (.pointer (some (ad 2))))
 c3:w.cell? ⟨1,0,none⟩=some (.iface 308 (.pointer (some (ad 3))))
 c4:w.cell? ⟨6,0,none⟩=some (.iface 308 (.pointer (some (ad 4))))
theorem I6.below {w w':World}{D:Nat->Addr}(h:I6 w D)(z:zW w w'):I6 w' D:=
 ⟨j7 z h.c1,j7 z h.c2,j7 z h.c3,j7 z h.c4⟩
theorem Rs (g:Nat)(l t:Int)(w:World)(E:Nat->Addr)(I:I6 w E)(N:w.cell? ⟨g,3,none⟩=some (.int .i64 l)):Calls Tryz.prog 237 #[.pointer (some ⟨g,0,none⟩),.int .i64 t] w fun e w'=>e=.returned (Fy E (ET l t))/\w'=w:=by
 have Q:=I.c1;have O:=I.c4;clear I;by_cases h:0<=t/\t<=1099511627776
 ·
  have D:decide (0<=t/\t<=1099511627776)=true:=by simpa using h
  have H:Hid (Calls Tryz.prog 144 #[.int .i64 t] w fun e w'=>e=.returned (.bool true)/\w'=w):=by
   have:=Mv t w;rw[D]at this;exact this
  clear D;by_cases K:t<l
  ·
   have z:ET l t=5:=by unfold ET;rw[if_pos h,if_pos K]
   rw[z];show Calls _ _ _ _ fun e w'=>e=.returned (.iface 308 (.pointer (some (E 4))))/\w'=w
   clear h z;go_in
   go_wp2_with (go_at_call 144;refine H.o.mono ?_;rintro e J ⟨rfl,rfl⟩)
   go_ret;exact⟨rfl,rfl⟩
  have z:ET l t=0:=by unfold ET;rw[if_pos h,if_neg K]
  rw[z];show Calls _ _ _ _ fun e w'=>e=.returned .nilIface/\w'=w
  clear h z;go_in
  go_wp2_with (go_at_call 144;refine H.o.mono ?_;rintro e J ⟨rfl,rfl⟩)
  go_ret;exact⟨rfl,rfl⟩
 have D:decide (0<=t/\t<=1099511627776)=false:=by simpa using h
 have H:Hid (Calls Tryz.prog 144 #[.int .i64 t] w fun e w'=>e=.returned (.bool false)/\w'=w):=by
  have:=Mv t w;rw[D]at this;exact this
 have z:ET l t=2:=by unfold ET;rw[if_neg h]
 rw[z];show Calls _ _ _ _ fun e w'=>e=.returned (.iface 308 (.pointer (some (E 1))))/\w'=w
 clear h z D;go_in
 go_wp2_with (go_at_call 144;refine H.o.mono ?_;rintro e J ⟨rfl,rfl⟩)
 go_ret;exact⟨rfl,rfl⟩
theorem GU (g:Nat)(l t n:Int)(w:World)(z:Nat->Addr)(I:I6 w z)(J:w.cell? ⟨g,3,none⟩=some (.int .i64 l)):Calls Tryz.prog 224 #[.pointer (some ⟨g,0,none⟩),.int .i64 t,.int .i64 n] w fun e w'=>e=.returned (Fy z (D9 l t n))/\w'=w:=by
 have Q:=I.c1;have K:=qX (Rs g l t w z I J);clear I J;by_cases h:1<=n/\n<=1500
 ·
  have D:decide (1<=n/\n<=1500)=true:=by simpa using h
  have H:Hid (Calls Tryz.prog 143 #[.int .i64 n] w fun e w'=>e=.returned (.bool true)/\w'=w):=by
   have:=Mk n w;rw[D]at this;exact this
  have E:D9 l t n=ET l t:=by unfold D9;rw[if_pos h]
  rw[E];clear D E h;generalize Fy z (ET l t)=O at *;go_in
  go_wp2_with (first
   | (go_at_call 143;refine H.o.mono ?_;rintro e N ⟨rfl,rfl⟩)
   | (go_at_call 237;refine K.o.mono ?_;rintro e N ⟨rfl,rfl⟩))
  go_ret;exact⟨rfl,rfl⟩
 have D:decide (1<=n/\n<=1500)=false:=by simpa using h
 have H:Hid (Calls Tryz.prog 143 #[.int .i64 n] w fun e w'=>e=.returned (.bool false)/\w'=w):=by
  have:=Mk n w;rw[D]at this;exact this
 have E:D9 l t n=2:=by unfold D9;rw[if_neg h]
 rw[E];show Calls _ _ _ _ fun e w'=>e=.returned (.iface 308 (.pointer (some (z 1))))/\w'=w
 clear D E h K;go_in
 go_wp2_with (go_at_call 143;refine H.o.mono ?_;rintro e N ⟨rfl,rfl⟩)
 go_ret;exact⟨rfl,rfl⟩
theorem Yk (m r h n:Int)(w:World)(z:n<=h):Calls Tryz.prog 225 #[.agg #[.int .i64 m,.int .i64 r],.int .i64 h,.int .i64 n] w fun e w'=>e=.returned (.tuple #[.int .i64 0,.bool true])/\w'=w.alloc (.cells #[.int .i64 m,.int .i64 r] 285):=by
 go_in
 go_wp2
 go_ret2;exact⟨rfl,rfl⟩
theorem XO (m r h n:Int)(w:World)(D:h<n)(z:m<n\/r=0):Calls Tryz.prog 225 #[.agg #[.int .i64 m,.int .i64 r],.int .i64 h,.int .i64 n] w fun e w'=>e=.returned (.tuple #[.int .i64 0,.bool false])/\w'=w.alloc (.cells #[.int .i64 m,.int .i64 r] 285):=by
 have H:¬n<=h:=by omega
 by_cases E:m<n
 ·
  clear z;go_in
  go_wp2
  go_ret2;exact⟨rfl,rfl⟩
 obtain rfl:r=0:=by omega
 clear z;go_in
 go_wp2
 go_ret2;exact⟨rfl,rfl⟩
theorem QN (m r h n:Int)(w:World)(D:h<n)(E:n<=m)(K:0<r)(J:r<=100000)(H:0<=h)(Q:m<=20000000):Calls Tryz.prog 225 #[.agg #[.int .i64 m,.int .i64 r],.int .i64 h,.int .i64 n] w fun e w'=>e=.returned (.tuple #[.int .i64 ((n-h+r-1)/r),.bool true])/\w'=w.alloc (.cells #[.int .i64 m,.int .i64 r] 285):=by
 have O:¬n<=h:=by omega
 have I:¬m<n:=by omega
 have z:¬r=0:=by omega
 have N:(r==0)=false:=by simpa using z
 go_in
 go_wp2
 go_ret2;exact⟨rfl,rfl⟩
theorem Q7 (z:Nat->Addr){k:Nat}(h:k≠0):∃ v,Fy z k=.iface 308 v:=by
 cases k with
 | zero=>exact absurd rfl h
 | succ k=>exact⟨_,rfl⟩
theorem jX (g:Nat)(l t n:Int)(w:World)(h:Nat->Addr)(I:I6 w h)(D:w.cell? ⟨g,3,none⟩=some (.int .i64 l))(z:D9 l t n≠0):Calls Tryz.prog 213 #[.pointer (some ⟨g,0,none⟩),.int .i64 t,.int .i64 n] w fun e w'=>e=.returned (.tuple #[.bool false,Fy h (D9 l t n)])/\w'=w:=by
 obtain⟨v,H⟩:=Q7 h z;have E:=qX (GU g l t n w h I D);rw[H]at E ⊢;clear H z I D;go_in
 go_wp2_with (go_at_call 224;refine E.o.mono ?_;rintro e J ⟨rfl,rfl⟩)
 go_ret2;exact⟨rfl,rfl⟩
theorem Ga.setHas {w:World}{g:Nat}{b:Bk}(h:Ga w g b)(x:Int):Ga (w.setCell ⟨g,2,none⟩ (.int .i64 x)) g ⟨b.most,b.rate,x,b.last⟩:=
 ⟨by rw [j9 _ _ _ _ (by simp)];exact h.c0,by rw [j9 _ _ _ _ (by simp)];exact h.c1,vD _ _ _ h.c2,by rw [j9 _ _ _ _ (by simp)];exact h.c3,
  by rw [qK];exact h.f2,by rw [qK];exact h.f3⟩
theorem Ga.setLast {w:World}{g:Nat}{b:Bk}(h:Ga w g b)(x:Int):Ga (w.setCell ⟨g,3,none⟩ (.int .i64 x)) g ⟨b.most,b.rate,b.has,x⟩:=
 ⟨by rw [j9 _ _ _ _ (by simp)];exact h.c0,by rw [j9 _ _ _ _ (by simp)];exact h.c1,by rw [j9 _ _ _ _ (by simp)];exact h.c2,vD _ _ _ h.c3,
  by rw [qK];exact h.f2,by rw [qK];exact h.f3⟩
theorem iN (g:Nat)(b:Bk)(t n:Int)(w:World)(Y:Nat->Addr)(U:I6 w Y)(D:Ga w g b)(H:b.Ok)(I:D9 b.last t n=0):Calls Tryz.prog 213 #[.pointer (some ⟨g,0,none⟩),.int .i64 t,.int .i64 n] w fun e w'=>e=.returned (.tuple #[.bool (decide (n*1000<=b.lev t)),.nilIface])/\Ga w' g (b.take t n)/\But (fun k=>k=g) w w':=by
 obtain⟨aq,n1,aw,ac,J⟩:=FP.1 I;have Z:Hid (Calls Tryz.prog 224 #[.pointer (some ⟨g,0,none⟩),.int .i64 t,.int .i64 n] w fun e w'=>e=.returned .nilIface/\w'=w):=by
  have:=GU g b.last t n w Y U D.c3;rw[I]at this;exact this
 have W:=qX (VM g b t w D H J ac);have ar:=H.lev_bd J;have av:=H.m1;have V:=qX D;by_cases z:n*1000<=b.lev t
 ·
  have N:Hid (b.take t n=⟨b.most,b.rate,b.lev t-n*1000,t⟩):=by show _=_;unfold Bk.take;rw[if_pos z]
  rw[show decide (n*1000<=b.lev t)=true by simpa using z];generalize O:b.lev t=v at *;have ao:¬v<n*1000:=by omega
  clear D H I U O J z;go_in
  go_wp2_with fail;refine Z.o.mono ?_
  rintro e an ⟨rfl,rfl⟩;go_wp2_with fail;refine W.o.mono ?_
  rintro e ai ⟨rfl,h⟩;have Q:=qX h;have E:=V.o.below h;have K:=qX E;obtain⟨am,ab,ap,al,ad,aj⟩:=E;clear h;go_wp2
  go_ret2;refine⟨rfl,?_,?_⟩
  · rw[N.o];exact((K.o.setHas v).setLast t).setHas _
  exact But.setCell (S:=fun k=>k=g) (But.setCell (S:=fun k=>k=g) (But.setCell (S:=fun k=>k=g) (.ofBelow Q.o) rfl _) rfl _) rfl _
 have N:Hid (b.take t n=⟨b.most,b.rate,b.lev t,t⟩):=by show _=_;unfold Bk.take;rw[if_neg z]
 rw[show decide (n*1000<=b.lev t)=false by simpa using z];generalize O:b.lev t=v at *;have ao:v<n*1000:=by omega
 clear D H I U O J z;go_in
 go_wp2_with fail;refine Z.o.mono ?_
 rintro e an ⟨rfl,rfl⟩;go_wp2_with fail;refine W.o.mono ?_
 rintro e ai ⟨rfl,h⟩;have Q:=qX h;have E:=V.o.below h;have K:=qX E;obtain⟨am,ab,ap,al,ad,aj⟩:=E;clear h;go_wp2
 go_ret2;refine⟨rfl,?_,?_⟩
 · rw[N.o];exact(K.o.setHas v).setLast t
 exact But.setCell (S:=fun k=>k=g) (But.setCell (S:=fun k=>k=g) (.ofBelow Q.o) rfl _) rfl _
end Go.Proofs.YtejlihcdfffafaaGreatDoor
