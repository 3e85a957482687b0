import Derived.Test.YtaoikkhlnhfkfaaGreatDoorU00
import Derived.Test.YtaoikkhlnhfkfaaGreatDoorU26
set_option maxHeartbeats 1600000
set_option linter.defProp false
set_option linter.unusedSimpArgs false
set_option linter.unusedVariables false
namespace Go.Proofs.YtaoikkhlnhfkfaaGreatDoor
open Go renaming Event->zs,Program->tP,TypeId->GF,Goroutine->th,stepG->tt,Value->xn,World->tz,Trace->A1,deafBehind->tD,Frame->vh
open Bool renaming false->ss,true->sy
open ConcN renaming WgLive->tA,upd->xp,upd_same->s5,get_map_set->tM,upd_ne->ts,sumTo->s4,cnt->s6,Mode->uE,bk_cell->yl
open ConcR renaming stA->B3,WgAt->yt,Bk->yp,ofEvent_loc_mark->vp
open Option renaming none->sA,some->A
open Conc renaming semEvents->yq,woken->uG,Deaf_other->tS,mem_ofEvents->sB,offersAt_of_not_blocked->tU,aside_setCell->xf
open MemOp renaming ofEvents->s9
open MemAct renaming ofEvent->sT
open Conc.Goes renaming cases->B4
open ConcN.Mode renaming retag->xc,last->zV
open Go.Conc
open Go.ConcN (sumTo upd sumTo_upd upd_ne upd_same sumTo_congr get_map_set get_map_set_same deafBehind_idle le_sumTo WD cnt Vc phi isOpen isW3 isFin OpenSt AllQuit CTag WSit RW AtR0 AtK1 RelBy WgLive PayAt Has)
open Go.ConcR (KK WgAt stA smA rd wr mk Payload)
variable {K:gR ->Prop}{n f:Nat}{es:Array zs}{fn:fI}
section
variable (P:tP)(ty:GF)(wg:Nat)
def Ļ (e:zs):=e=⟨.mark (.write (C wg 1)),ss,sy⟩\/e=⟨.mark (.read (C wg 1)),ss,sy⟩
def ú (K:gR->Prop)(n:Nat)(g:gR):=∃g',Å P sy (tA ty wg) (Ļ wg) n g g'/\K g'
variable (An Nx:th->Prop)
def uR (g:gR):=g.status=.running/\∃g',(∀w,tA ty wg w->tt P sy g w=.go g' w #[mk (.acquire (B3 wg))])/\∃n E,Å P sy (tA ty wg) (λ_=>False) n g' E/\Nx E
def vR (g:gR):=g.status=.running/\∃g',(∀w,tA ty wg w->tt P sy g w=.go g' w #[mk .enable])/\∃n,ú P ty wg (uR P ty wg Nx) n g'
def zO (g:gR):=g.status=.running/\∀w,yt ty wg w 0 0->∃g',tt P sy g w=.go g' w #[rd (B3 wg)]/\∃n,ú P ty wg (vR P ty wg Nx) n g'
def tN (g:gR):=g.status=.running/\g.offers=sA/\(∀w st,yt ty wg w st 0->tt P sy g w=.go {g with status:=.blocked} w #[])/\
 ∀w,yt ty wg w 0 1->∃g',tt P sy g w=.go g' (w.setCell (smA wg) (.int .u32 0)) (yq (smA wg))/\∃n,ú P ty wg (zO P ty wg Nx) n g'
def zZ (E:Nat)(g:gR):=g.status=.running/\∀w (v:Nat),v<2147483648->yt ty wg w (v*KK) 0 ->
 (v=E->∃g',tt P sy g w=.go g' (w.setCell (B3 wg) (.int .u64 (v*KK+1))) #[rd (B3 wg),wr (B3 wg)]/\∃n,ú P ty wg (tN P ty wg Nx) n g')/\(v≠E->∃g',tt P sy g w=.go g' w #[rd (B3 wg)]/\∃n,ú P ty wg An n g')
def eU (g:gR):=g.status=.running/\∀w (v:Nat),v<2147483648->yt ty wg w (v*KK) 0->∃g',tt P sy g w=.go g' w #[rd (B3 wg)]/\
 (v=0->∃n,ú P ty wg (vR P ty wg Nx) n g')/\(v≠0->∃n,ú P ty wg (zZ P ty wg An Nx v) n g')
def mY (g:gR):=g.status=.running/\∃g',(∀w,tA ty wg w->tt P sy g w=.go g' w #[mk .disable])/\∃n,ú P ty wg An n g'
def Z0 (tag:CTag)(f d:Nat)(g:gR):=match tag with
 |.kd=>d=0/\ú P ty wg (mY P ty wg An) f g
 |.w1=>d=1/\ú P ty wg (eU P ty wg An Nx) f g
 |.w2 E=>d=1/\ú P ty wg (zZ P ty wg An Nx E) f g
 |.w3=>d=1/\∃f',f=f' +1/\ú P ty wg (tN P ty wg Nx) f' g
 |.blk=>d=1/\f=0/\∃g',tN P ty wg Nx g'/\g={g' with status:=.blocked}
 |.w4=>d=1/\ú P ty wg (zO P ty wg Nx) f g
 |.ke=>d=1/\ú P ty wg (vR P ty wg Nx) f g
 |.acq=>d=0/\ú P ty wg (uR P ty wg Nx) f g
 |_=>False
end
section
variable {P:tP}{ty:GF}{wg:Nat}{An Nx:th->Prop}
def ú.h (I:∀g,K g->g.status=.running){g}(h:ú P ty wg K n g):g.status=.running:=let⟨g',E,G⟩:=h;Ck E (I g' G)
def ú.u{E}(V:∀g,K g->∃n,ú P ty wg E n g){g}(h:ú P ty wg K n g):∃n,ú P ty wg E n g:=let⟨g',U,I⟩:=h;let⟨m,G,Y,O⟩:=V g' I;⟨n+m,G,U.h Y,O⟩
def Z0.h{tag d g}(h:Z0 P ty wg An Nx tag f d g):(g.status=.running/\tag≠.blk)\/(tag=.blk/\g.status=.blocked):=by
 cases tag<;>simp[Z0]at h
 case kd=>exact .inl ⟨h.2.h λ_ x=>x.1,sm⟩
 case w1=>exact .inl ⟨h.2.h λ_ x=>x.1,sm⟩
 case w2=>exact .inl ⟨h.2.h λ_ x=>x.1,sm⟩
 case w3=>obtain⟨-,f',-,h⟩:=h;exact .inl ⟨h.h λ_ x=>x.1,sm⟩
 case blk=>obtain⟨-,-,g',-,rfl⟩:=h;exact .inr ⟨J,J⟩
 case w4=>exact .inl ⟨h.2.h λ_ x=>x.1,sm⟩
 case ke=>exact .inl ⟨h.2.h λ_ x=>x.1,sm⟩
 case acq=>exact .inl ⟨h.2.h λ_ x=>x.1,sm⟩
def Z0.l{tag d g}(h:Z0 P ty wg An Nx tag f d g)(x x':gR)(w':M):∃tag' f',Z0 P ty wg An Nx tag' f' d (uG P x x' w' g)/\f'<=f+1/\(tag'=tag\/(tag=.blk/\tag'=.w3))/\(mayWake P x=sy->x'.status=.running->tag'≠.blk):=by
 obtain⟨Z,d⟩|⟨rfl,e⟩:=h.h
 refine⟨tag,f,?_,N,.inl J,λ_ _=>d⟩;rw[woken_run Z];exact h
 simp[Z0]at h;obtain⟨I,V,g',E,rfl⟩:=h;by_cases G:(mayWake P x&&x'.status !=.blocked&&x'.status !=.waiting)=sy
 .
  refine⟨.w3,1,?_,N,.inr ⟨J,J⟩,λ_ _=>sm⟩;let e:uG P x x' w' {g' with status:=.blocked}=g':=by
   unfold uG;rw[Æ G];have O:=E.2.1;have U:=E.1;obtain⟨d,d,d,d,off⟩:=g';simp only at O U;subst O U;rfl
  rw[e];exact⟨I,0,J,g',J,E⟩
 refine⟨.blk,f,?_,N,.inl J,λY d=>?_⟩
 .
  let e:uG P x x' w' {g' with status:=.blocked}={g' with status:=.blocked}:=by
   unfold uG;rw[Ä G]
  rw[e];exact⟨I,V,g',E,J⟩
 simp[Y,d]at G
end
/-! ### a worker -/
abbrev lf:Nat->Loc->Prop:=λ_ _=>False
def ń (P:pG):Nat->Wk P:=λ_=>⟨0,(0,sA),λ_=>False,0⟩
section
variable {P:tP}
def Ã.NG (p:Ã P)(g:gR):=g.status=.running/\∃E,p.N5 E/\∀w,tt P ss g w=.comm E #[rcase p.b p.D] sy (.recv sy) w #[]
def Ã.j (p:Ã P)(ty:tI)(w:M):=p.k w/\tA ty p.a w
def Ã.j.stay{p:Ã P}{ty}{w w':M}(E:p.r)(h:p.j ty w)(U:∀b,b≠p.a->w'.heap[b]? = w.heap[b]?)(V:w'.heap.size=w.heap.size)(G:w'.os=w.os/\w'.output=w.output)(I:tA ty p.a w'):p.j ty w':=
 ⟨h.1.sees ⟨λb O=>U b λe=>E.parted b O (e▸E.shwg),js V.symm,G⟩,I⟩
variable [Payload]
def Ã.R0 (p:Ã P)(ty:tI)(sd:Nat)(val:Vl)(g:gR):=∀w,p.j ty w->AtR0 P ty p.a sd 1 0 1 val g w
def Ã.F (p:Ã P)(ty:tI)(sd:Nat)(val:Vl)(s m d pre:Nat)(g:gR)(w:M):=
 (s=7/\d=0/\((pre=1/\∃n g',m=n+1/\Å P ss p.k p.H n g g'/\p.NG g')\/(pre=0/\∃g',Å P ss (p.j ty) p.H m g g'/\p.R0 ty sd val g')))\/
 (pre=0/\s<=6/\WSit P ty p.a sd 1 lf lf 0 1 val s m d g w)
variable {p:Ã P}{ty:GF}{sd:Nat}{val:xn}{s m d pre:Nat}{g:th}{w w':tz}
def xR{Z}(h:∀b,b≠Z->w'.heap[b]? = w.heap[b]?)(G:tA ty Z w')(E:sd≠Z):RW ty Z sd 1 0 0 w w':=by
 refine⟨λb U=>absurd U (İ _),λ_=>G,?_,by simp[World.cell?,h sd E]⟩;rintro⟨b,O,I⟩;exact⟨b,(h sd E).trans O,I⟩
def Ã.F.stay (h:p.F ty sd val s m d pre g w)(V:∀b,b≠p.a->w'.heap[b]? = w.heap[b]?)(G:tA ty p.a w')(E:sd≠p.a):p.F ty sd val s m d pre g w':=by
 obtain h|⟨U,O,I⟩:=h
 exact .inl h
 exact .inr ⟨U,O,I.rely (xR V G E)⟩
def Ã.F.status (h:p.F ty sd val s m d pre g w)(I:p.j ty w):g.status=.running\/g.status=.finished:=by
 obtain⟨-,-,⟨-,n,g',-,E,G⟩|⟨-,g',E,G⟩⟩|⟨-,-,h⟩:=h
 exact .inl (Ck E G.1)
 exact .inl (Ck E (G w I).1)
 exact h.status
def Ã.F.woken (h:p.F ty sd val s m d pre g w)(E:p.j ty w)(a a':gR)(w':M):uG P a a' w' g=g:=by
 unfold uG;split
 exact again_running _ (h.status E)
 rfl
structure Ã.u (p:Ã P)(ty:tI)(sd:Nat)(val:Vl)(wc:M)(gs:Array gR)(w:M)(t:A1)(D:Nat->WD)(pre:Nat->Nat)(d0:Nat):Prop where
 size:gs.size=p.top
 live:p.j ty w
 world:∀b,b≠p.a->w.heap[b]? = wc.heap[b]?
 wsize:w.heap.size=wc.heap.size
 chn:∃s tm,wc.heap[p.b]? = A (.chan 0 #[] sy s s tm)
 wk:∀i,i+1<p.top->∃g,gs[i+1]? = A g/\p.F ty sd val (D i).stage (D i).fuel (D i).deaf (pre i) g w
 past:Cu (p.h p.top (ń P)) w.heap.size d0 t
 norel:NoRelease (B3 p.a) t
 deaf:∀i,i+1<p.top->Deaf t (i+1)=(D i).deaf
 above:∀j,p.top<=j->Deaf t j=0
 rel:∀i,p.d<=i+1->i+1<p.top->(D i).stage<=6->∃r,RelBy (B3 p.a) t (i+1) r
 old:∀i,i+1<p.d->(D i).stage=1
variable {wc:tz}{gs:Array th}{t:A1}{D:Nat->WD}{pre:Nat->Nat}{d0:Nat}
def Ã.u.at (h:p.u ty sd val wc gs w t D pre d0)(G:sd≠p.a) d:p.u ty sd val wc gs (w.at d) t D pre d0:=
 ⟨h.size,⟨h.live.1.sees (I9 _ w d),h.live.2⟩,h.world,h.wsize,h.chn,λi E=>let⟨g,hg,hs⟩:=h.wk i E;⟨g,hg,hs.stay (λ_ _=>J) h.live.2 G⟩,h.past,h.norel,h.deaf,h.above,h.rel,h.old⟩
def Ã.u.stepW (k:p.r)(T:sd≠p.a)(h:p.u ty sd val wc gs w t D pre d0){i}(x:i+1<p.top){g' s' m' dd' pre'}(I:∀b,b≠p.a->w'.heap[b]? = w.heap[b]?)(V:w'.heap.size=w.heap.size)(b:w'.os=w.os/\w'.output=w.output)(Y:tA ty p.a w')
  (w:p.F ty sd val s' m' dd' pre' g' w')  {pos}(j:Cu (p.h p.top (ń P)) w'.heap.size d0 (t++s9 (i+1) fn pos es))(e:NoRelease (B3 p.a) (t++s9 (i+1) fn pos es))
  (X:tD (D i).deaf es=dd')(hrel:p.d<=i+1->s'<=6->∃r,RelBy (B3 p.a) (t++s9 (i+1) fn pos es) (i+1) r)(W:i+1<p.d->s'=1):
  p.u ty sd val wc ((gs.map (uG P g g' w')).setIfInBounds (i+1) g') w' (t++s9 (i+1) fn pos es) (xp D i ⟨s',m',dd'⟩) (xp pre i pre') d0:=by
 let p:i+1<gs.size:=h.size▸x
 refine⟨oy h.size,h.live.stay k I V b Y,λb U=>(I b U).trans (h.world b U),V.trans h.wsize,h.chn,λk E=>?_,j,e,λk E=>?_,λj b=>?_,λk O g G=>?_,λk E=>?_⟩
 .
  by_cases e:k=i
  subst e;exact⟨g',get_map_set_same _ _ _ p,by rw[s5,s5];exact w⟩
  let⟨x,p,Z⟩:=h.wk k E;refine⟨x,by rw[tM _ _ _ _ N,p,ţ,Z.woken h.live],?_⟩;rw[ts D _ e,ts pre _ e];exact Z.stay I Y T
 .
  by_cases e:k=i
  subst e;rw[Deaf_own,h.deaf k E,s5];exact X
  rw[tS t N _ (Ed _ _ _ _),h.deaf k E,ts D _ e]
 rw[tS t N _ (Ed _ _ _ _)];exact h.above j b
 .
  by_cases e:k=i
  subst e;rw[s5]at G;exact hrel O G
  rw[ts D _ e]at G;let⟨r,b⟩:=h.rel k O g G;exact⟨r,b.appOther (Ed _ _ _ _) N⟩
 by_cases e:k=i
 subst e;rw[s5];exact W E
 rw[ts D _ e];exact h.old k E
def Ã.u.step0 (E:p.r)(r:sd≠p.a)(h:p.u ty sd val wc gs w t D pre d0) {a':gR}  {d'}(I:∀b,b≠p.a ->w'.heap[b]? = w.heap[b]?)(Y:w'.heap.size=w.heap.size)(b:w'.os=w.os/\w'.output=w.output)(O:tA ty p.a w')
   {pos}(j:Cu (p.h p.top (ń P)) w'.heap.size d' (t++s9 0 fn pos es))(w:NoRelease (B3 p.a) (t++s9 0 fn pos es)):
  p.u ty sd val wc ((gs.map (uG P g a' w')).setIfInBounds 0 a') w' (t++s9 0 fn pos es) D pre d':=by
 refine⟨oy h.size,h.live.stay E I Y b O,λb V=>(I b V).trans (h.world b V),Y.trans h.wsize,h.chn,λk G=>?_,j,w,λk G=>?_,λj g=>?_,λk p b Z=>?_,h.old⟩
 let⟨x,w,U⟩:=h.wk k G;exact⟨x,by rw[tM _ _ _ _ N,w,ţ,U.woken h.live],U.stay I O r⟩
 rw[tS t N _ (Ed _ _ _ _),h.deaf k G]
 rw[tS t (oi E.pos E.top) _ (Ed _ _ _ _)];exact h.above j g
 let⟨r,g⟩:=h.rel k p b Z;exact⟨r,g.appOther (Ed _ _ _ _) N⟩
end
open Go.ConcN (sumTo upd sumTo_upd upd_ne upd_same sumTo_congr get_map_set get_map_set_same deafBehind_idle le_sumTo WD cnt Vc phi isOpen isW3 isFin OpenSt AllQuit CTag WSit RW AtR0 AtK1 RelBy WgLive PayAt Has phi_mono phi_retag pend Vc_upd Vc_le others_uncounted bk_cell)
open Go.ConcR (KK WgAt stA smA rd wr mk Payload Bk DC0 ofEvent_loc_mark)
variable {Z r7 i s' m' dd':Nat}{e:zs}{g:gR}{es:Array zs}
def V4{b}(h:yp Z e)(E:(sT e).touch? = A b):(∃a,b.loc=.cell a/\a.block=Z)/\b.kind=.atomic:=by
 obtain G|G|⟨a,b,rfl,I⟩:=h
 rw[vp G]at E;cases E
 rw[vp G]at E;cases E
 simp[sT,MemAct.touch?]at E
 subst E;exact⟨⟨a,J,I⟩,J⟩
def ug{B}(h:yp Z e)(I:Z<B):(sT e).low B:=by
 obtain E|E|⟨a,e,rfl,G⟩:=h
 rw[vp E];exact sk
 rw[vp E];exact sk
 show a.block<B
 omega
def ig (h:yp Z e) a:sT e≠.mark (.release a):=by
 obtain E|E|⟨a,a,rfl,G⟩:=h
 rw[vp E];simp
 rw[vp E];simp
 simp[sT]
def Vw E(G:0<E):∀r7,s4 r7 (λi=>if i+1<E then 0 else 1)=r7+1-E
 |0=>by
  show 0=_
  omega
 |r7+1=>by
  have:=Vw _ G r7;simp[s4]
  split<;>omega
def fH{f g}:∀{r7},(∀i,i<r7->f i<=g i)->s4 r7 f<=s4 r7 g
 |0,_=>lr
 |r7+1,h=>by
  have:=fH (r7:=r7) λi E=>h i N
  have:=h r7 (ō _);simp[s4]
  omega
section
variable {P:tP}{p:Ã P}{ty:GF}{An Nx:th->Prop}
def S2 (r7:Nat)(D:Nat->WD)(pre:Nat->Nat):=s4 r7 λi=>2*(D i).stage+pre i
def F2 (r7:Nat)(D:Nat->WD):=s4 r7 λi=>(D i).fuel
def q9{r7 i D pre}(a:i<r7) x q:S2 r7 (xp D i x) (xp pre i q)+(2*(D i).stage+pre i)=S2 r7 D pre+(2*x.stage+q):=by
 have:=sumTo_upd (λi=>((D i),pre i)) (x,q) (λy  =>2*y.1.stage+y.2) a
 let e:∀a,xp (λi=>((D i),pre i)) i _ a=(xp D i x a,xp _ i q a):=λa=>by
  by_cases h:a=i
  subst h;rw[s5,s5,s5]
  rw[ts _ _ h,ts _ _ h,ts _ _ h]
 simp[e]at this
 exact this
def rn{D}(E:i<r7) x:F2 r7 (xp D i x)+(D i).fuel=F2 r7 D+x.fuel:=sumTo_upd D x _ E
abbrev j9:Nat×Nat->Nat×Nat->Prop:=Prod.Lex (·<·) (·<·)
def Z0.pend{tag f d}(h:Z0 P ty Z An Nx tag f d g):pend tag=0:=by cases tag<;>simp[Z0]at h<;>first|rfl|exact h.elim
def X5{D pre f0 tag}(E:i<r7){q f' tag'}(U:tag'=tag\/(tag=.blk/\tag'=.w3))(aa:f'<=f0+1)
  (O:(2*s' +q<2*(D i).stage+pre i/\s6 ⟨s',m',dd'⟩<=s6 (D i))\/(s'=(D i).stage/\q=pre i/\m' +1=(D i).fuel)):
  j9 (phi r7 (Vc r7 (xp D i ⟨s',m',dd'⟩)) tag' +S2 r7 (xp D i ⟨s',m',dd'⟩) (xp pre i q),f' +2*F2 r7 (xp D i ⟨s',m',dd'⟩)) (phi r7 (Vc r7 D) tag+S2 r7 D pre,f0+2*F2 r7 D):=by
 let ab:=Vc_upd D (⟨s',m',dd'⟩:WD) E;let Z:=q9 (D:=D) (pre:=pre) E ⟨s',m',dd'⟩ q;let V:=rn (D:=D) E ⟨s',m',dd'⟩;rw[phi_retag r7 _ U];dsimp only at Z V
 obtain⟨G,Y⟩|⟨G,Y,E⟩:=O
 .
  apply Prod.Lex.left ..
  have:=phi_mono r7 (v':=Vc r7 (xp D i ⟨s',m',dd'⟩)) (v:=Vc r7 D) N tag;omega
 let v:s6 (⟨s',m',dd'⟩:WD)=s6 (D i):=by simp[s6,G]
 let I:Vc r7 (xp D i ⟨s',m',dd'⟩)=Vc r7 D:=N
 let es:S2 r7 (xp D i ⟨s',m',dd'⟩) (xp pre i q)=S2 r7 D pre:=N
 rw[I];omega
variable [Payload] {sd:Nat}{val:xn}{wc:tz}{gs:Array th}{w w':tz}{t:A1}{D:Nat->WD}{pre:Nat->Nat}{d0 f0:Nat}{tag:CTag}{a:th}{st sm:Int}
def Ã.N3 (p:Ã P)(ty:tI)(An Nx:gR->Prop)(sd:Nat)(val:Vl)(wc:M)(E:Nat×Nat)(gs:Array gR)(w:M)(t:A1):=
 ∃(D:Nat->WD)(pre:Nat->Nat)(tag:CTag)(f0 d0:Nat)(a:gR)(st sm:Int),gs[0]? = A a/\Z0 P ty p.a An Nx tag f0 d0 a/\p.u ty sd val wc gs w t D pre d0/\yt ty p.a w st sm/\uE (p.top-1) D tag st sm/\
  E=(phi (p.top-1) (Vc (p.top-1) D) tag+S2 (p.top-1) D pre,f0+2*F2 (p.top-1) D)
abbrev Ã.z (p:Ã P)(ty:tI)(An Nx:gR->Prop)(sd:Nat)(val:Vl)(wc:M)(gs:Array gR)(w:M)(t:A1)(sl:Option (Nat×Nat))(i:Nat)(D:Nat->WD)(pre:Nat->Nat)(tag:CTag)(f0:Nat):Prop:=
 ∃G w' ops,runT P (crowd gs w sl) i=(.next (crowd G w' sl),ops)/\∃E,j9 E (phi (p.top-1) (Vc (p.top-1) D) tag+S2 (p.top-1) D pre,f0+2*F2 (p.top-1) D)/\p.N3 ty An Nx sd val wc E G w' (t++ops)
def Ã.u.goW (S:p.r)(O:sd≠p.a)(Q:gs[0]? = A a)(W:Z0 P ty p.a An Nx tag f0 d0 a)(h:p.u ty sd val wc gs w t D pre d0){sl}(r9:i+1<p.top){g':gR}(Y:gs[i+1]? = A g)(Z:tt P ss g w=.go g' w' es){pre' st' sm'}
  (se:∀b,b≠p.a->w'.heap[b]? = w.heap[b]?)(X:w'.heap.size=w.heap.size)(T:w'.os=w.os/\w'.output=w.output)(G:yt ty p.a w' st' sm')(U:p.F ty sd val s' m' dd' pre' g' w')
  (R:Cu (p.h p.top (ń P)) w'.heap.size d0 (t++s9 (i+1) g.frame.fn g.frame.place es))(L:∀e∈es,∀a,sT e≠.mark (.release a))(V:tD (D i).deaf es=dd')
  (hrel:p.d<=i+1->s'<=6->∃r,RelBy (B3 p.a) (t++s9 (i+1) g.frame.fn g.frame.place es) (i+1) r)(r:i+1<p.d->s'=1)
  (e:∀tag',(tag'=tag\/(tag=.blk/\tag'=.w3))->(mayWake P g=sy->g'.status=.running->tag'≠.blk)->uE (p.top-1) (xp D i ⟨s',m',dd'⟩) tag' st' sm')
  (I:(2*s' +pre'<2*(D i).stage+pre i/\s6 ⟨s',m',dd'⟩<=s6 (D i))\/(s'=(D i).stage/\pre'=pre i/\m' +1=(D i).fuel)):p.z ty An Nx sd val wc gs w t sl (i+1) D pre tag f0:=by
 let⟨tag',f',t,b,E,p⟩:=W.l g g' w';refine⟨_,w',_,runT_crowd_go (P:=P) (sl:=sl) (i:=i+1) Y (sx Z),_,X5 N E b I,
  xp D i ⟨s',m',dd'⟩,xp pre i pre',tag',f',d0,uG P g g' w' a,st',sm',by rw[tM _ _ _ _ N,Q];rfl,t,h.stepW S O r9 se X T ⟨_,_,G⟩ U R (h.norel.app λa Z=>?_) V hrel r,G,e _ E p,J⟩
 obtain⟨e,a,rfl⟩:=sB Z;exact L e a _
def Ã.u.vc (E:p.r)(h:p.u ty sd val wc gs w t D pre d0):Vc (p.top-1) D<=p.top-p.d:=by
 let G:Vc (p.top-1) D<=s4 _ (λi=>if i+1<p.d then 0 else 1):=fH λi O=>by
  by_cases I:i+1<p.d
  have:=h.old i I;simp[s6,this]
  simp[s6];split<;>omega
 rw[Vw _ E.pos]at G;have:=E.pos;omega
def Ã.u.wlt (E:p.r)(h:p.u ty sd val wc gs w t D pre d0):=rZ (E.shlow _ E.shwg) h.live.1.2
def Ã.u.booked (U:p.r)(h:p.u ty sd val wc gs w t D pre d0)(G:p.d<=i+1)(a:i+1<p.top)(V:∀e∈es,yp p.a e)(fn:fI) pos:Cu (p.h p.top (ń P)) w.heap.size d0 (t++s9 (i+1) fn pos es):=by
 refine h.past.atomic (Ã.x U (λ_ _ I=>I.elim) λ_ _ _ I=>I.elim) (.inr ⟨G,a⟩) (Ed _ _ _ _) (λa O b G=>?_) ?_ (λa O=>?_)
 obtain⟨e,E,rfl⟩:=sB O;let⟨⟨a,Z,Y⟩,b⟩:=V4 (V e E) G;exact⟨⟨a,Z,Y⟩,b⟩
 rw[tS t N _ (Ed _ _ _ _)];exact h.past.h
 obtain⟨e,E,rfl⟩:=sB O;exact ug (V e E) (h.wlt U)
def Ã.u.looked (O:p.r)(h:p.u ty sd val wc gs w t D pre d0)(y:p.d<=i+1)(c:i+1<p.top)(V:∀e∈es,p.H e)(fn:fI) pos:Cu (p.h p.top (ń P)) w.heap.size d0 (t++s9 (i+1) fn pos es):=by
 let U:∀e∈es,Τ p.S (λ_=>False) e:=λe G=>let⟨i,p,Y⟩:=V e G;.inl ⟨i,p,.inl Y⟩
 refine h.past.n (Ã.x O (λ_ _ E=>E.elim) λ_ _ _ E=>E.elim) ⟨y,c⟩ (Ed _ _ _ _) (λc I y Z=>?_) (λc I=>?_)
 obtain⟨e,G,rfl⟩:=sB I;exact(U e G).touch Z
 obtain⟨e,G,rfl⟩:=sB I;refine(U e G).u λc E=>?_
 obtain E|E:=E
 exact rZ (O.slow c E) h.live.1.2
 exact E.elim
end
open Go.ConcN (sumTo upd sumTo_upd upd_ne upd_same sumTo_congr get_map_set get_map_set_same deafBehind_idle le_sumTo WD cnt Vc phi isOpen isW3 isFin OpenSt AllQuit CTag WSit RW AtR0 AtK1 RelBy WgLive PayAt Has phi_mono phi_retag pend Vc_upd Vc_le others_uncounted bk_cell)
open Go.ConcR (KK WgAt stA smA rd wr mk Payload Bk DC0 ofEvent_loc_mark bk_of_mute)
section
variable {P:tP}{p:Ã P}{ty:GF}{An Nx:th->Prop} [Payload] {sd:Nat}{val:xn}{wc:tz}{gs:Array th}{w w':tz}{t:A1}{D:Nat->WD}{pre:Nat->Nat}{d0 f0:Nat}{tag:CTag}{a:th}{st sm:Int}
def Ã.u.shut (r:p.r)(k:gs[0]? = A a)(d:Z0 P ty p.a An Nx tag f0 d0 a)(h:p.u ty sd val wc gs w t D pre d0)(E:yt ty p.a w st sm)(T:uE (p.top-1) D tag st sm)
  (e:∀g,p.N5 g->∃m g',Å P ss (p.j ty) p.H m (g.finishComm P #[rcase p.b p.D] (.recv sy) 0 p.D ss) g'/\p.R0 ty sd val g') {sl i}(g:p.d<=i+1)(I:i+1<p.top) {g:gR}(V:gs[i+1]? = A g)(Z:(D i).stage=7)(S:pre i=1)(R:(D i).deaf=0)(j:p.NG g):
  p.z ty An Nx sd val wc gs w t sl (i+1) D pre tag f0:=by
 let⟨hrun,O,U,sd⟩:=j;let⟨m,g',W,X⟩:=e O U;let⟨s,x,j⟩:=h.chn;let e:=r.cw.1;let r:w.heap[p.b]? = A (.chan 0 #[] sy s s x):=h.world _ e▸j
 let s:partners (gs.setIfInBounds (i+1) ph) p.b sy=[]:=Ib λj x Y G=>by
  cases j with
  |zero=>
   rw[k]at G;cases G
   obtain⟨U,-⟩|⟨rfl,-⟩:=d.h
   exact tU (oj U) ..
   obtain⟨-,-,e,e,rfl⟩:=d;simp[offersAt,e.2.1]
  |succ j=>
   let Y:j+1<p.top:=h.size▸AZ G
   let⟨y,e,x⟩:=h.wk j Y;rw[G]at e;cases e
   refine tU ?_ ..;obtain e|e:=x.status h.live<;>rw[e]<;>simp
 let e:=crowd_recv_closed (P:=P) (sl:=sl) (i:=i+1) V (sx (sd w)) r s;let x:i+1<gs.size:=h.size▸I
 refine⟨_,w,_,e,_,X5 (s':=7) (m':=m) (dd':=0) (q:=0) (i:=i) N (.inl J) (œ f0) (.inl ⟨oi Z S,by simp[s6,Z]⟩),
  xp D i ⟨7,m,0⟩,xp pre i 0,tag,f0,d0,a,st,sm,by rw[û N];exact k,d,?_,E,?_,J⟩
 .
  rw[DU,kj];let s:∀a∈(#[{g:=i+1,fn:=O.frame.fn,pos:=O.frame.place,act:=.recvClosed p.b}]:A1),a.g=i+1:=λa E=>by
   simp[ĺ,sV,ġ,ĝ]at E;subst E;rfl
  let q:∀k,Deaf (t++#[{g:=i+1,fn:=O.frame.fn,pos:=O.frame.place,act:=.recvClosed p.b}]) k=Deaf t k:=λk=>Deaf_quiet λa E d=>by
   simp[ĺ,sV,ġ,ĝ]at E;subst E;rfl
  refine⟨oy h.size,h.live,h.world,h.wsize,h.chn,λk I=>?_,?_,h.norel.app λa E=>?_,λk I=>?_,λj Y=>rj q (h.above j Y),λk g d V=>?_,λk I=>?_⟩
  .
   by_cases e:k=i
   subst e;exact⟨_,ş x,by rw[s5,s5];exact .inl ⟨J,J,.inr ⟨J,g',W,X⟩⟩⟩
   let⟨x,G,a⟩:=h.wk k I;exact⟨x,by rw[û N];exact G,ts D _ e▸ts pre _ e▸a⟩
  .
   refine h.past.v (λa E=>?_) ((q 0).trans h.past.h) λa E=>?_
   simp[ĺ,sV,ġ,ĝ]at E;subst E;rfl
   simp[ĺ,sV,ġ,ĝ]at E;subst E;exact AZ r
  simp[ĺ,sV,ġ,ĝ]at E;subst E;simp
  .
   rw[q,h.deaf k I];by_cases e:k=i
   subst e;rw[s5,R]
   rw[ts D _ e]
  .
   by_cases e:k=i
   .
    subst e;rw[s5]at V;dsimp only at V
    omega
   rw[ts D _ e]at V;let⟨r,U⟩:=h.rel k g d V;exact⟨r,U.appOther s N⟩
  by_cases e:k=i
  subst e;omega
  rw[ts D _ e];exact h.old k I
 have:=T.same (i:=i) m 0;rwa[Z]at this
def Ã.u.worker (T:p.r)(hC:sd≠p.a)(hJ:p.top-p.d<2147483648)(W:gs[0]? = A a)(hz:Z0 P ty p.a An Nx tag f0 d0 a)(h:p.u ty sd val wc gs w t D pre d0)(hwg:yt ty p.a w st sm)(hmode:uE (p.top-1) D tag st sm)
  (hcl:∀g,p.N5 g->∃m g',Å P ss (p.j ty) p.H m (g.finishComm P #[rcase p.b p.D] (.recv sy) 0 p.D ss) g'/\p.R0 ty sd val g') {sl i}(U:i+1<p.top) {g}(hg:gs[i+1]? = A g)(hrun:g.status=.running):p.z ty An Nx sd val wc gs w t sl (i+1) D pre tag f0:=by
 let⟨g₁,hg₁,q⟩:=h.wk i U;obtain rfl:=by rw[hg]at hg₁;exact Ö hg₁
 have hij:i<p.top-1:=N
 have hVj:=Vc_le (p.top-1) D;have hVb:=h.vc T;have hdk:=h.deaf i U;have hb:(D i).stage≠1->p.d<=i+1:=λhne=>Nat.not_lt.1 λhlt=>hne (h.old i hlt)
 have hpd:=hz.pend;have hself:=xR (sd:=sd) (λ_ _=>J) h.live.2 hC;have hevn:∀{Y:Array zs},(∀e∈Y,p.H e)->∀e∈Y,∀a,sT e≠.mark (.release a):=λZ e V a=>by
  obtain⟨ad,rfl,-⟩:=Z e V;simp[sT]
 have hevd:∀{Y:Array zs},(∀e∈Y,p.H e) ->∀d,tD d Y=d:=λZ d=>deafBehind_idle (λe V=>by
  obtain⟨ad,rfl,-⟩:=Z e V;simp) d
 obtain⟨hst,hde,q⟩|⟨hpre,hle,q⟩:=q
 .
  have hbb:=hb N;obtain⟨hpre,n,g',hfu,hwk,hask⟩|⟨hpre,g',hwk,hR⟩:=q
  .
   cases n with
   |zero=>
    cases hwk
    exact h.shut T W hz hwg hmode hcl hbb U hg hst hpre hde hask
   |succ n=>
    obtain⟨-,g1,Y,Z,hstp,hwk⟩:=hwk;refine h.goW T hC W hz U hg (hstp w h.live.1) (s':=7) (m':=n+1) (dd':=0) (pre':=1) (λ_ _=>J) J ⟨J,J⟩ hwg (.inl ⟨J,J,.inl ⟨J,n,g',J,hwk,hask⟩⟩) (h.looked T hbb U Z _ _) (hevn Z) (by rw[hevd Z,hde]) (λ_ V=>N) (λV=>N) (λtag' d _=>?_) (.inr ⟨hst.symm,hpre.symm,by rw[hfu]⟩);have:=hmode.same (i:=i) (n+1) 0;rw[hst]at this;exact this.retag d
  cases hfu:(D i).fuel with
  |zero=>
   rw[hfu]at hwk;cases hwk
   obtain⟨_,-,g',hgo,m₂,X⟩:=hR w h.live;refine h.goW T hC W hz U hg hgo (s':=6) (m':=m₂) (dd':=0) (pre':=0) (λ_ _=>J) J ⟨J,J⟩ hwg (.inr ⟨J,N,.k1 X⟩) ?_ (λe Z a=>?_) (hde▸rfl) (λ_ _=>⟨t.size,RelBy.new (by rw[hdk,hde]) _ _⟩) (λV=>N) (λtag' d _=>(hmode.counted hij N (.inl J) _ _).retag d) (.inl ⟨by rw[hst,hpre];omega,by simp[s6,hst]⟩)
   .
    refine h.past.v (λop hop=>?_) ?_ (λop hop=>?_)
    .
     obtain⟨e,Z,rfl⟩:=sB hop;simp at Z
     subst Z;rfl
    rw[tS t N _ (Ed _ _ _ _)];exact h.past.h
    obtain⟨e,Z,rfl⟩:=sB hop;simp at Z
    subst Z;exact h.wlt T
   simp at Z
   subst Z;show(MemAct.mark (.releaseMerge _))≠_
   simp
  |succ n=>
   rw[hfu]at hwk;obtain⟨-,g1,Y,Z,hstp,hwk⟩:=hwk;refine h.goW T hC W hz U hg (hstp w h.live) (s':=7) (m':=n) (dd':=0) (pre':=0) (λ_ _=>J) J ⟨J,J⟩ hwg (.inl ⟨J,J,.inr ⟨J,g',hwk,hR⟩⟩) (h.looked T hbb U Z ..) (hevn Z) (by rw[hevd Z,hde]) (λ_ V=>N) (λV=>N) (λtag' d _=>?_) (.inr ⟨hst.symm,hpre.symm,by rw[hfu]⟩);have:=hmode.same (i:=i) n 0;rw[hst]at this;exact this.retag d
 generalize hst:(D i).stage=s at q hle;generalize hfu:(D i).fuel=m at q;generalize hde:(D i).deaf=dd at q
 -- the library's bookkeeping
 let bookG:∀{g':th}{w':tz}{Y:Array zs}{s' m' dd':Nat}{st' sm':Int},s≠1 ->tt P ss g w=.go g' w' Y ->Go.Conc.Aside p.a w w' ->yt ty p.a w' st' sm' ->(∀e∈Y,yp p.a e) ->
   (∀n e,Y[n]? = A e->(sT e).touch? = sA\/0<tD dd (Y.extract 0 n))->s'<=6->WSit P ty p.a sd 1 lf lf 0 1 val s' m' dd' g' w'->tD dd Y=dd' ->
   (∀tag',(tag'=tag\/(tag=.blk/\tag'=.w3))->(mayWake P g=sy->g'.status=.running->tag'≠.blk)->uE (p.top-1) (xp D i ⟨s',m',dd'⟩) tag' st' sm')->((s'<s/\s6 ⟨s',m',dd'⟩<=s6 (D i))\/(s'=s/\m' +1=m))->p.z ty An Nx sd val wc gs w t sl (i+1) D pre tag f0:=by
  intro g' w' Y s' m' dd' st' sm' hne hgo hAs hwg' hbk hd hle' hs' hdd hmode' hlt;let hbb:=hb N;refine h.goW T hC W hz U hg hgo (s':=s') (m':=m') (dd':=dd') (pre':=0) hAs.block hAs.size ⟨hAs.os,hAs.output⟩ hwg' (.inr ⟨J,hle',hs'⟩) ?_ (λe Z a=>ig (hbk e Z) a) (hde▸hdd) (λhb1 _=>?_) (λV=>N) hmode' ?_
  rw[hAs.size];exact h.booked T hbb U hbk ..
  let⟨r,hr⟩:=h.rel i hb1 U N;exact⟨r,hr.book (hdk.trans hde) _ _ hbk hd⟩
  rw[hst,hpre,hfu];obtain⟨h1,r⟩|⟨h1,r⟩:=hlt
  exact .inl ⟨N,r⟩
  exact .inr ⟨h1,J,r⟩
 let idle:∀{g':th}{m':Nat},s≠1->tt P ss g w=.go g' w #[]->WSit P ty p.a sd 1 lf lf 0 1 val s m' dd g' w->m' +1=m->p.z ty An Nx sd val wc gs w t sl (i+1) D pre tag f0:=by
  intro g' m' hne hgo hs' hm;refine bookG hne hgo (.refl p.a w) hwg (by simp) (by simp) hle hs' J (λtag' d _=>?_) (.inr ⟨J,hm⟩);have:=hmode.same (i:=i) m' dd;rw[hst]at this;exact this.retag d
 cases q with
 |r0 _=>omega
 |k1 X=>
  obtain hstop|⟨m',rfl,hstep⟩:=B4 X
  .
   let⟨_,g',hgo,m₂,X⟩:=hstop w hself;exact bookG N hgo (.refl p.a w) hwg (by intro e Z;simp at Z;subst Z;exact .inl J) (by intro n e Z;exact .inl (by have:=ŵ Z;simp at this;subst this;rfl)) N (.d1 X) J
    (λtag' d _=>(hmode.counted hij N (.inr J) ..).retag d) (.inl ⟨N,by simp[s6,hst]⟩)
  obtain⟨g',w',Y,hgo,⟨rfl,rfl⟩,hg'⟩:=hstep w hself;exact idle N hgo (.k1 hg') J
 |d1 X=>
  obtain hstop|⟨m',rfl,hstep⟩:=B4 X
  .
   let⟨_,hall⟩:=hstop w hself;let hc1:s6 (D i)=1:=by simp[s6,hst]
   let hV1:1<=Vc (p.top-1) D:=by have:=le_sumTo (f:=λx=>s6 (D x)) hij;simp only[Vc];omega
   let um:∀e∈#[rd (B3 p.a),wr (B3 p.a)],yp p.a e:=by intro e Z;simp at Z;obtain rfl|rfl:=Z<;>exact yl _ _ J
   let df2:∀n e,(#[rd (B3 p.a),wr (B3 p.a)]:Array zs)[n]? = A e->(sT e).touch? = sA\/0<tD 1 ((#[rd (B3 p.a),wr (B3 p.a)]:Array zs).extract 0 n):=by
    intro n e Z
    match n,Z with
    |0,_=>exact .inr (by simp[tD])
    |1,_=>exact .inr (by simp[tD,rd])
    |n+2,Z=>simp at Z
   let opq:∀q,OpenSt (p.top-1) D->OpenSt (p.top-1) (xp D i ⟨1,q,1⟩):=λq h a W=>by
    by_cases e:a=i
    subst e;rw[s5];simp
    rw[ts D _ e];exact h a W
   let quit:∀{v wt:Nat}{g':th}{q:Nat},tt P ss g w=.go g' (w.setCell (B3 p.a) (.int .u64 (v*KK+wt))) #[rd (B3 p.a),wr (B3 p.a)]->QuitsD P q 1 g'->(∀tag',(tag'=tag\/(tag=.blk/\tag'=.w3))->uE (p.top-1) (xp D i ⟨1,q,1⟩) tag' (v*KK+wt) sm)->p.z ty An Nx sd val wc gs w t sl (i+1) D pre tag f0:=
    λhgo f hm=>bookG N hgo (xf w (B3 p.a) _) (hwg.setSt _) um df2 N (.quit f) J (λtag' d _=>hm tag' d) (.inl ⟨N,by simp[s6]⟩)
   let hup:∀q,Vc (p.top-1) (xp D i ⟨1,q,1⟩)+1=Vc (p.top-1) D:=λq=>by
    have:=Vc_upd D (⟨1,q,1⟩:WD) hij;let h0:s6 (⟨1,q,1⟩:WD)=0:=rfl;omega
   cases hmode with
   |opn h1 r h3=>
    obtain⟨v,hv⟩:∃v,Vc (p.top-1) D=v+1:=⟨Vc (p.top-1) D-1,N⟩
    let hw1:yt ty p.a w (((v:Nat)+1)*KK+((0:Nat):Int)) 0:=by
     rw[hpd,hv]at hwg;simpa using hwg
    let⟨g',hgo,_,f⟩:=hall v 0 N N hw1;let⟨q,f⟩:=f N;refine quit hgo f λtag' d=>?_
    let hv':Vc (p.top-1) (xp D i ⟨1,q,1⟩)+pend tag=v:=by have:=hup q;omega
    let e:((v:Nat):Int)*KK+((0:Nat):Int)=((Vc (p.top-1) (xp D i ⟨1,q,1⟩)+pend tag:Nat):Int)*KK:=by rw[hv'];simp
    rw[e];exact xc (.opn h1 (opq q r) (λvs ev=>by have:=h3 vs ev;have:=hup q;omega)) d
   |reg h1 r h3=>
    obtain⟨v,hv⟩:∃v,Vc (p.top-1) D=v+1:=⟨Vc (p.top-1) D-1,N⟩
    rw[hv]at hwg;let hw1:yt ty p.a w (((v:Nat)+1)*KK+((1:Nat):Int)) 0:=sx hwg
    let⟨g',hgo,hl,f⟩:=hall v 1 N N hw1;by_cases hv0:v=0
    .
     subst hv0;let⟨m₂,X⟩:=hl ⟨J,J⟩;refine bookG N hgo (xf w (B3 p.a) _) (hwg.setSt _) um df2 N (.d2 X) J (λtag' d _=>?_) (.inl ⟨N,by simp[s6]⟩);let hoth:∀a,a<p.top-1->a≠i->(D a).stage=1:=λa W e=>by
      let c0:=others_uncounted hij hv hc1 a W e;have:=r a W;simp only[s6]at c0;split at c0<;>omega
     have:=zV (j:=p.top-1) (D:=xp D i ⟨4,m₂,1⟩) (tag:=tag) i h1 hij (by rw[s5];simp) (λa W e=>ts D _ e▸hoth a W e);rw[s5]at this;exact xc (sx this) d
    let⟨q,f⟩:=f N;refine quit hgo f λtag' d=>?_
    let hv':Vc (p.top-1) (xp D i ⟨1,q,1⟩)=v:=by have:=hup q;omega
    let e:((v:Nat):Int)*KK+((1:Nat):Int)=((Vc (p.top-1) (xp D i ⟨1,q,1⟩):Nat):Int)*KK+1:=by rw[hv'];simp
    rw[e];exact xc (.reg h1 (opq q r) N) d
   |last L _ r h3 h4=>
    by_cases e:i=L
    subst e;omega
    have:=h4 i hij e;omega
   |sema r=>have:=r i hij;omega
   |fin _ r=>have:=r i hij;omega
  obtain⟨g',w',Y,hgo,⟨rfl,rfl⟩,hg'⟩:=hstep w hself;exact idle N hgo (.d1 hg') J
 |d2 X=>
  obtain hstop|⟨m',rfl,hstep⟩:=B4 X
  let⟨_,V⟩:=hstop w hself;obtain⟨hW3,hoth,rfl,rfl⟩:=hmode.isLast hij N;simp only[hst]at hwg;let⟨g',hgo,m₂,X⟩:=V (sx hwg);refine bookG N hgo (.refl p.a w) hwg (by intro e Z;simp at Z;subst Z;exact yl _ _ J) (by intro n e Z;match n,Z with|0,_=>exact .inr (by simp[tD])|n+1,Z=>simp at Z) N (.d3 X) J (λtag' d _=>?_) (.inl ⟨N,by simp[s6]⟩);have:=zV (j:=p.top-1) (D:=xp D i ⟨3,m₂,1⟩) (tag:=tag) i hW3 hij (by rw[s5];simp) (λa W e=>ts D _ e▸hoth a W e);rw[s5]at this;exact xc (sx this) d
  obtain⟨g',w',Y,hgo,⟨rfl,rfl⟩,hg'⟩:=hstep w hself;exact idle N hgo (.d2 hg') J
 |d3 X=>
  obtain hstop|⟨m',rfl,hstep⟩:=B4 X
  let⟨_,V⟩:=hstop w hself;obtain⟨hW3,hoth,rfl,rfl⟩:=hmode.isLast hij N;simp only[hst]at hwg;let⟨g',hgo,m₂,X⟩:=V (sx hwg);refine bookG N hgo (xf w (B3 p.a) _) (hwg.setSt 0) (by intro e Z;simp at Z;subst Z;exact yl _ _ J) (by intro n e Z;match n,Z with|0,_=>exact .inr (by simp[tD])|n+1,Z=>simp at Z) N (.d4 X) J (λtag' d _=>?_) (.inl ⟨N,by simp[s6]⟩);have:=zV (j:=p.top-1) (D:=xp D i ⟨2,m₂,1⟩) (tag:=tag) i hW3 hij (by rw[s5];simp) (λa W e=>ts D _ e▸hoth a W e);rw[s5]at this;exact xc (sx this) d
  obtain⟨g',w',Y,hgo,⟨rfl,rfl⟩,hg'⟩:=hstep w hself;exact idle N hgo (.d3 hg') J
 |d4 X=>
  obtain hstop|⟨m',rfl,hstep⟩:=B4 X
  .
   let⟨_,hmw,V⟩:=hstop w hself;obtain⟨hW3,hoth,rfl,rfl⟩:=hmode.isLast hij N;simp only[hst]at hwg;let⟨g',hgo,q,f⟩:=V (sx hwg);let hrun':g'.status=.running:=by
    cases q with
    |zero=>exact absurd f.2 dc
    |succ q=>exact f.elim (λx=>absurd x.2 dc) (λx=>x.1)
   refine bookG N hgo (xf w (smA p.a) _) (hwg.setSm 1) (Y:=yq (smA p.a)) ?_ ?_ N (.quit f) (by simp[tD,yq]) ?_ (.inl ⟨N,by simp[s6]⟩)
   .
    intro e Z;simp[yq]at Z
    obtain rfl|rfl|rfl|rfl:=Z
    exact .inl J
    exact yl _ _ J
    exact yl _ _ J
    exact .inr (.inl J)
   .
    intro n e Z
    match n,Z with
    |0,Z=>simp[yq]at Z;subst Z;exact .inl J
    |1,_=>exact .inr (by simp[tD,yq])
    |2,_=>exact .inr (by simp[tD,yq])
    |3,Z=>simp[yq]at Z;subst Z;exact .inl J
    |n+4,Z=>simp[yq]at Z
   intro tag' d hw;let hnb:=hw hmw hrun';have e3:tag'=.w3:=by
    obtain rfl|⟨_,rfl⟩:=d
    cases tag'<;>first|rfl|exact hW3.elim|exact absurd J hnb
    rfl
   subst e3;simp only[ô];exact .sema λa W=>by
    by_cases e:a=i
    subst e;rw[s5]
    rw[ts D _ e];exact hoth a W e
  obtain⟨g',w',Y,hgo,⟨rfl,rfl⟩,hg'⟩:=hstep w hself;exact idle N hgo (.d4 hg') J
 |quit f=>
  cases m with
  |zero=>rw[f.1]at hrun;cases hrun
  |succ q=>
   obtain⟨hf,_⟩|⟨_,g',Y,hmute,hstep,f⟩:=f
   rw[hf]at hrun;cases hrun
   refine h.goW T hC W hz U hg (hstep w) (s':=1) (m':=q) (dd':=tD dd Y) (pre':=0) (λ_ _=>J) J ⟨J,J⟩ hwg (.inr ⟨J,N,.quit f⟩) ?_ (λe Z a=>PQ (hmute e Z) a) (hde▸rfl) (λhb1 _=>?_) (λ_=>J) (λtag' d _=>?_) (.inr ⟨hst.symm,hpre.symm,hfu.symm⟩)
   .
    refine h.past.v (λop hop=>?_) ?_ (λop hop=>?_)
    obtain⟨e,Z,rfl⟩:=sB hop;exact touch_mute (hmute e Z)
    rw[tS t N _ (Ed _ _ _ _)];exact h.past.h
    obtain⟨e,Z,rfl⟩:=sB hop;exact low_mute (hmute e Z) _
   let⟨r,hr⟩:=h.rel i hb1 U N;exact⟨r,hr.book (Wg:=p.a) (hdk.trans hde) _ _ (λe Z=>bk_of_mute (hmute e Z)) λn e Z=>.inl (touch_mute (hmute e (ŵ Z)))⟩
   have:=hmode.same (i:=i) q (tD dd Y);rw[hst]at this;exact this.retag d
end
variable {w v:M}{a:Act}{c:Code}{b:vh}{Q:Exit ->Act ->M ->Prop}
section
variable {P:tP}{Post:xn->tz->Prop}{H:Nat->Prop}{p:Gg}
def Sr (H:Nat->Prop)(w:M):=∀b,H b->∃c e,w.heap[b]? = A (.c c e (0,0))
open Classical in
def TU (h:Sr H w):∃v,DY H v w/\v.tape=w.tape/\v.drawn=w.drawn:=by
 refine⟨{w with heap:=w.heap.mapIdx λi o=>if H i then(match o with|.cells _ e _=>.cells #[] e (0,0)|o=>o)else(match o with|.pending _ _=>.coro sA|.view _ u=>.view ⟨0,0,A 0⟩ u|o=>o)},⟨sm,λb G=>?_,λb G=>?_,λ_ _=>J,J,J⟩,J,J⟩
 .
  dsimp only
  rw[Array.getElem?_mapIdx];cases O:w.heap[b]? with
  |none=>exact .inl ⟨J,(nofun),nofun⟩
  |some o=>
   simp only[ţ,Ä G];cases o<;>first|exact .inr ⟨_,_,J,J,.inl ⟨_,_,J,J⟩⟩|exact .inr ⟨_,_,J,J,.inr ⟨_,_,J,J⟩⟩|exact .inl ⟨J,(nofun),nofun⟩
 let⟨c,e,I⟩:=h b G;refine⟨c,e,I,?_⟩;dsimp only
 rw[Array.getElem?_mapIdx,I];simp[ţ,Æ G]
def Bp.l (h:Bp H v w):Ξ v:=let⟨t,G,E⟩:=h;E.n
def Bp.E (h:Bp H v w){a}{x:Vl}(G:v.cell? a=A x):w.cell? a=A x:=let⟨t,I,E⟩:=h;(E.E (a:=a) (x:=x) G).1
def ul (b:vh)(Q:Exit->Act->M->Prop)(y:CW):=y.1.2=[ö]/\∃a',(y.1.1=b.at a' [KR]/\Q .normal a' y.2)\/∃todo,y.1.1={b.at a' todo with mode:=.returning}/\Q .ret a' y.2
def yh (h:∀t,c.wp P Q a (À v t))(n:∀e a w,Q e a w->e=.normal\/e=.ret)(Y:∀e a w t,Q e a w->Q e a (À w t)):PX P ((b.at a [.code c,KR],[ö]),v) (ul b Q):=by
 refine⟨λt=>?_,λy G=>?_,λy G=>G.1,λy t G=>?_⟩
 .
  let⟨e,a',w',U,Z⟩:=h t b [KR] [ö];obtain rfl|rfl:=n _ _ _ U
  let⟨n,V⟩:=Z;exact⟨n,((b.at a' [KR],[ö]),w'),V,J,a',.inl ⟨J,U⟩⟩
  let⟨todo,n,V⟩:=Z;exact⟨n,(({b.at a' todo with mode:=.returning},[ö]),w'),V,J,a',.inr ⟨todo,J,U⟩⟩
 .
  obtain⟨I,a',⟨E,-⟩|⟨todo,E,-⟩⟩:=G
  exact .inr ⟨E▸rfl,E▸rfl⟩
  exact .inl ⟨E▸rfl,I⟩
 obtain⟨I,a',⟨E,O⟩|⟨todo,E,O⟩⟩:=G
 exact⟨I,a',.inl ⟨E,Y _ _ _ _ O⟩⟩
 exact⟨I,a',.inr ⟨todo,E,Y _ _ _ _ O⟩⟩
structure zS (P:pG)(b:vh)(a:Act):Prop where
 g:∃f0,P.funcs[b.fn]? = A f0
 e:a.defers=[]
 d:b.kind=.normal
def qF (O:∀H,Eb P p H){k:lM}{cs:lF}(Y:zS P b a)(I:Hl P p c=sy)(g:Sr H w)
  (E:∀v,Bp H v w->c.wp P Q a v)(y:∀e a w,Q e a w->e=.normal\/e=.ret)(x:∀e a w t,Q e a w->Q e a (À w t))
  (X:∀a' v' w',Q .normal a' v'->Bp H v' w'->Q9 H w w'->Nn P Post H (G (b.at a' k) cs) w')(W:∀a' todo v' w',Q .ret a' v'->Bp H v' w'->Q9 H w w'->Nn P Post H (G {b.at a' todo with mode:=.returning} cs) w'):Nn P Post H (G (b.at a (.code c::k)) cs) w:=by
 obtain⟨v,e,-,-⟩:=TU g;let Z:=e.some;let G:=yh (b:=b) (λt=>E (À v t) (Z.q t w.tape)) y x;let e:Ht P p ((b.at a [.code c,KR],[ö]),v):=by
  refine⟨⟨⟨Y.g,⟨[.code c],[KR],J,.inr J,λx p=>?_⟩,Y.e,.inl J,Y.d,J⟩,[],J,nofun⟩,Z.l⟩;rw[Đ.1 p];exact I
 let key:=Xr (Post:=Post) O G e k cs (λy g t V p=>?_) Z
 .
  let e:ĥ k (b.at a [.code c,KR])=b.at a (.code c::k):=by
   show({b.at a [.code c,KR]with todo:=Ű k ([.code c]++[KR])}:vh)=_
   rw[ZZ];rfl
  let I:Į k cs [ö]=cs:=by simp[Į,ö]
  dsimp only at key
  rw[e,I]at key;exact key
 obtain⟨⟨a,a⟩,a⟩:=y;obtain⟨U,a',⟨E,O⟩|⟨todo,E,O⟩⟩:=t
 .
  dsimp only at U E O V⊢
  subst U E;let e:ĥ k (b.at a' [KR])=b.at a' k:=by
   show({b.at a' [KR]with todo:=Ű k ([]++[KR])}:vh)=_
   rw[ZZ];rfl
  let I:Į k cs [ö]=cs:=by simp[Į,ö]
  rw[e,I];exact X a' a g O V p
 dsimp only at U E O V⊢
 subst U E;let I:Į k cs [ö]=cs:=by simp[Į,ö]
 rw[I];exact W a' (Ű k todo) a g O V p
def pf{g g':gR}(hrun:g.status=.running)(h:∀d,tt P sy g (w.at d)=.go g' (w.at d))(I:∀d,Nn P Post H g' (w.at d)):Nn P Post H g w:=λT S t q B X W V R=>
 GZ (P:=P) (Shun:=KM H) (a:=g) hrun (λa' w' E=>E<= w'.heap.size/\a'=g'/\∃d,w'=w.at d) (λY a' w' g Z q' E G H U a=>by
  obtain⟨O,rfl,d,rfl⟩:=G;exact I d Y g Z q' E H U a O) _ T w S t q B J X W V λd=>⟨g',w.at d,#[],B,h d,sm,lr,R,J,d,J⟩
end
end Go.Proofs.YtaoikkhlnhfkfaaGreatDoor
