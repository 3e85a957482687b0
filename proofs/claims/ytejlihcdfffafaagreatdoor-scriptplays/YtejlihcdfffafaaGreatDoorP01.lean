import Derived.Test.YtejlihcdfffafaaGreatDoorP00
import Derived.Test.YtejlihcdfffafaaGreatDoorRows
import Derived.Test.YtejlihcdfffafaaGreatDoorTie
set_option maxRecDepth 100000
namespace Go.Proofs.YtejlihcdfffafaaGreatDoor
open Go.RowKit
structure But (S:Nat->Prop)(w w':World):Prop where
 os:w'.os=w.os
 tape:w'.tape=w.tape
 output:w'.output=w.output
 size:w.heap.size<=w'.heap.size
 block:∀ k,k<w.heap.size->¬S k->w'.heap[k]? = w.heap[k]?
theorem But.refl (S:Nat->Prop)(w:World):But S w w:=⟨rfl,rfl,rfl,lr,fun _ _ _=>rfl⟩
theorem But.trans {S:Nat->Prop}{a b c:World}(h:But S a b)(k:But S b c):But S a c:=
 ⟨k.os.trans h.os,k.tape.trans h.tape,k.output.trans h.output,qI h.size k.size,fun i D z=>(k.block i (qD D h.size) z).trans (h.block i D z)⟩
theorem But.mono {S z:Nat->Prop}{w w':World}(h:But S w w')(D:∀ k,S k->z k):But z w w':=⟨h.os,h.tape,h.output,h.size,fun k E I=>h.block k E fun H=>I (D k H)⟩
theorem But.ofBelow {S:Nat->Prop}{w w':World}(h:zW w w'):But S w w':=⟨h.os,h.tape,h.output,h.size,fun k z _=>h.block k z⟩
theorem But.below {S:Nat->Prop}{B:Nat}{w w':World}(h:But S w w')(E:B<=w.heap.size)(z:∀ k,S k->B<=k):Below B w w':=
 ⟨h.os,h.tape,h.output,h.size,fun k D=>h.block k (qD D E) fun H=>by have:=z k H;omega⟩
theorem But.alloc {S:Nat->Prop}{a w:World}(h:But S a w)(o:Obj):But S a (w.alloc o):=h.trans (.ofBelow (br.alloc lr o))
theorem But.drew {S:Nat->Prop}{a w:World}(h:But S a w):But S a w.drew:=⟨h.os,h.tape,h.output,h.size,h.block⟩
theorem But.setCell {S:Nat->Prop}{a w:World}(z:But S a w){p:Addr}(h:S p.block)(u:Value):But S a (w.setCell p u):=
 z.trans ⟨rfl,rfl,rfl,by simp[World.setCell],fun k _ D=>Below.heap_setCell _ _ _ _ fun e=>D (by rw[e];exact h)⟩
theorem But.cell {S:Nat->Prop}{w w':World}(z:But S w w'){p:Addr}(h:p.block<w.heap.size)(D:¬S p.block):w'.cell? p=w.cell? p:=yE (w:=w) (z.block p.block h D)
theorem But.frozen {S:Nat->Prop}{w w':World}(z:But S w w'){p:Addr}(h:p.block<w.heap.size)(D:¬S p.block):w'.frozen? p=w.frozen? p:=xY (w:=w) (z.block p.block h D)
theorem Ab {z:Type}(l:List z)(k:Nat)(h:k<l.length):∃ p,l[k]? = some p/\p∈l:=⟨l[k],by simp[h],xQ h⟩
theorem Cg {w:World}{a:Addr}{v:Value}(z:w.cell? a=some v):a.block<w.heap.size:=by
 rcases qC a.block w.heap.size with h|h
 · exact h
 simp[World.cell?,vX h]at z
theorem Bb {w:World}{h z:Nat}{e:TypeId}{E:Nat}{v:Value}{n:Nat}{xs:List Value}(N:w.ownsRow h e E v n xs)(H:z<=h):w.ownsRow z e E v n xs:=by
 obtain⟨D,J|⟨g,cap,O,I,K,r⟩⟩:=N
 · exact⟨D,.inl J⟩
 exact⟨D,.inr ⟨g,cap,O,I,qI H K,r⟩⟩
theorem But.one {g:Nat}{B:Nat}{w w':World}(z:But (fun k=>k=g) w w')(h:B<=w.heap.size)(E:B<=g):Below B w w':=z.below h (fun k D=>by rw[D];exact E)
structure J5 (w:World)(ad:Nat->Addr):Prop where
 c1:w.cell? ⟨0,0,none⟩=some (.iface 308 (.pointer (some (ad 1))))
 c4:w.cell? ⟨6,0,none⟩=some (.iface 308 (.pointer (some (ad 4))))
theorem J5.below {w w':World}{z:Nat->Addr}(h:J5 w z)(D:zW w w'):J5 w' z:=
 ⟨j7 D h.c1,j7 D h.c4⟩
def Fy (h:Nat->Addr):Nat->Value
 | 0=>.nilIface
 | k+1=>.iface 308 (.pointer (some (h k)))
open Go.ChangeShapes Go.WideShapes Go.ChangeAt
theorem Tryz.own:ownKnob Tryz.prog.godebug=none:=by kernel_rfl
theorem Tryz.laidOut:laidOutB Tryz.prog=true:=by kernel_rfl
theorem Tryz.cellsInt:Tryz.prog.cellsOf 3=1:=by kernel_rfl
theorem Tryz.cellsES:Tryz.prog.cellsOf 326=1:=by kernel_rfl
theorem Tryz.cellsStr:Tryz.prog.cellsOf 9=1:=by kernel_rfl
def TY:String:=match (Rows.laid_floodgate_api_ErrBound:DataW Unit) with | .iface n _=>n | _ => "none"
theorem aT {P:Program}{tp:TypeId}{s:String}(z:s=TY)(h:((List.range P.types.size).all fun u=>P.typeName? 3 u != some TY || u==tp)=true):((List.range P.types.size).all fun u=>P.typeName? 3 u != some s || u==tp)=true:=by
 rw[z];exact h
theorem Tryz.rowPES (u:TypeId)(h:Tryz.prog.typeName? 3 u=some TY):u=308:=
 typeName_ptr_named (P:=Tryz.prog) (nm := "errors.errorString") (tp:=308) (aT (by decide) (by kernel_rfl)) (by kernel_rfl) (by decide) u (h.trans (congrArg some (by decide)))
theorem Du {n nm:String}{E:List UInt8}{r:List (String×DataW Unit)}{h:World}{g:Nat}
  (N:laidMet Tryz.prog ((n,.iface nm (.ptr (.agg [.lit (.string E)])))::r) h)
  (U:nm=TY) (Q:Tryz.prog.globalNamed n=some g) (ai:(Tryz.prog.globals[g]?).map (·.type)=some 34) :
  ∃(a:Addr)(s:ByteArray),h.cell? ⟨g,0,none⟩=some (.iface 308 (.pointer (some a)))/\h.cell? a=some (.string s)/\s.data.toList=E/\∃ c t,h.heap[a.block]? = some (.cells c t (0,0)):=by
 obtain⟨ps,⟨ap,an,ac,am,aj,ao,D,Z,I,V,_,J⟩,_,H⟩:=N;obtain rfl:=Option.some.inj (Q.symm.trans D);obtain rfl:=Option.some.inj (ai.symm.trans Z);subst J;obtain⟨Y⟩:=ac;have W:∀ u v,Y=[.iface u v]->Value.okWide Tryz.prog h .any 0 u v:=fun u v e=>by
  subst e;exact(H g 0 (by simp[MemPlace.row])).2 u v (by simpa using World.var?_cell D I 0)
 obtain⟨z,K,rfl,O,ad,al,rfl⟩:=errorString_of_trod Tryz.underlying34 (fun u ab=>Tryz.rowPES u (by rw[<- U];exact ab)) Tryz.underlying308 Tryz.underlying326 rfl rfl Tryz.underlying9 Tryz.cellsES Tryz.cellsStr V W;exact⟨z,K,by simpa using World.var?_cell D I 0,O,ad,(H z.block z.off (by simp[MemPlace.row])).1⟩
def BM (x y:Int):Bool:=decide (1<=x/\x<=20000/\0<=y/\y<=100000)
theorem AA {x y:Int}(h:BM x y=true):1<=x/\x<=20000/\0<=y/\y<=100000:=vM h
def BQ (t x y:Int):Int:=x+y*t/1000
def Cz (t:Int):Int->lI->Int
 | m,[]=>m
 | m,p::r=>Cz t (min m (BQ t p.1 p.2)) r
def Bu (t:Int):lI->Int
 | []=>0
 | p::r=>Cz t (BQ t p.1 p.2) r
def Ci (ls:lI):Prop:=∀ p,p∈ls->BM p.1 p.2=true
def Ak (ls:lI):Prop:=1<=ls.length/\ls.length<=6/\Ci ls
theorem Nc (t:Int)(l:lI):∀(m:Int)(p:Int×Int),Cz t m (l++[p])=min (Cz t m l) (BQ t p.1 p.2):=by
 induction l with
 | nil=>intro m p;rfl
 | cons q r h=>intro m p;exact h _ p
theorem fH (a b:Int):(if b<a then b else a)=min a b:=by split <;> omega
theorem fT (a b:Int):(if a<b then b else a)=max a b:=by split <;> omega
theorem NH {y t:Int}(D:0<=y)(z:y<=100000)(h:0<=t)(E:t<=1099511627776):0<=y*t/\y*t<=109951162777600000:=by
 refine⟨vG D h,?_⟩;have a:y*t<=100000*t:=vT z h;omega
theorem NR {t x y:Int}(h:BM x y=true)(D:0<=t)(z:t<=1099511627776):1<=BQ t x y/\BQ t x y<=109951162797600000:=by
 obtain⟨a,b,c,d⟩:=AA h;have:=NH c d D z;unfold BQ;omega
theorem YF (t:Int)(E:0<=t)(J:t<=1099511627776)(l:lI):∀ m:Int,1<=m->m<=109951162797600000->Ci l->1<=Cz t m l/\Cz t m l<=109951162797600000/\Cz t m l<=m:=by
 induction l with
 | nil=>intro m D h _;exact⟨D,h,q8 _⟩
 | cons q r I=>
  intro m D h z;have K:=NR (z q (qA ..)) E J;have:=I (min m (BQ t q.1 q.2)) (by omega) (by omega) (fun p H=>z p (qG _ H));exact⟨this.1,this.2.1,by show Cz t (min m (BQ t q.1 q.2)) r<=m;have:=this.2.2;omega⟩
theorem Yo (t:Int)(l:lI):∀ m:Int,Cz t m l<=m/\∀ p,p∈l->Cz t m l<=BQ t p.1 p.2:=by
 induction l with
 | nil=>intro m;exact⟨q8 _,fun p h=>by cases h⟩
 | cons q r z=>
  intro m;have:=z (min m (BQ t q.1 q.2));refine⟨?_,fun p h=>?_⟩
  ·
   show Cz t (min m (BQ t q.1 q.2)) r<=m
   have:=this.1;omega
  show Cz t (min m (BQ t q.1 q.2)) r<=_
  rcases qS.1 h with rfl|h
  · have:=this.1;omega
  exact this.2 p h
theorem WC (t:Int)(l:lI):∀ m:Int,Cz t m l=m\/∃ p,p∈l/\Cz t m l=BQ t p.1 p.2:=by
 induction l with
 | nil=>intro m;exact .inl rfl
 | cons q r D=>
  intro m;show Cz t (min m (BQ t q.1 q.2)) r=m\/∃ p,p∈q::r/\Cz t (min m (BQ t q.1 q.2)) r=BQ t p.1 p.2
  rcases D (min m (BQ t q.1 q.2))with h|⟨p,z,h⟩
  ·
   rw[h];by_cases E:m<=BQ t q.1 q.2
   · exact .inl (by omega)
   exact .inr ⟨q,qA ..,by omega⟩
  exact .inr ⟨p,qG _ z,h⟩
theorem J2 (t:Int)(ls:lI)(p:Int×Int)(h:p∈ls):Bu t ls<=BQ t p.1 p.2:=by
 cases ls with
 | nil=>cases h
 | cons q r=>
  have:=Yo t r (BQ t q.1 q.2);rcases qS.1 h with rfl|h
  · exact this.1
  exact this.2 p h
theorem JV (t:Int)(ls:lI)(h:1<=ls.length):∃ p,p∈ls/\Bu t ls=BQ t p.1 p.2:=by
 cases ls with
 | nil=>simp at h
 | cons q r=>
  rcases WC t r (BQ t q.1 q.2)with h|⟨p,z,h⟩
  · exact⟨q,qA ..,h⟩
  exact⟨p,qG _ z,h⟩
theorem Kt (t:Int)(ls:lI)(h:Ak ls)(E:0<=t)(D:t<=1099511627776):1<=Bu t ls/\Bu t ls<=109951162797600000:=by
 obtain⟨p,z,e⟩:=JV t ls h.1;rw[e];exact NR (h.2.2 p z) E D
structure Bk where
 most:Int
 rate:Int
 has:Int
 last:Int
structure Bk.Ok (b:Bk):Prop where
 m0:1000<=b.most
 m1:b.most<=20000000
 r0:0<=b.rate
 r1:b.rate<=100000
 h0:0<=b.has
 h1:b.has<=b.most
 l0:0<=b.last
 l1:b.last<=1099511627776
def Bk.lev (b:Bk)(t:Int):Int:=min b.most (b.has+b.rate*(t-b.last))
def Bk.take (b:Bk)(t n:Int):Bk:=if n*1000<=b.lev t then⟨b.most,b.rate,b.lev t-n*1000,t⟩else⟨b.most,b.rate,b.lev t,t⟩
def Bk.when (b:Bk)(t n:Int):Option Int:=
 if n*1000<=b.lev t then some t
 else if b.most<n*1000\/b.rate=0 then none
 else if 1099511627776-t<(n*1000-b.lev t+b.rate-1)/b.rate then none
 else some (t+(n*1000-b.lev t+b.rate-1)/b.rate)
def ET (last t:Int):Nat:=if 0<=t/\t<=1099511627776 then(if t<last then 5 else 0)else 2
def D9 (last t n:Int):Nat:=if 1<=n/\n<=1500 then ET last t else 2
theorem WL {last t:Int}:ET last t=0↔0<=t/\t<=1099511627776/\last<=t:=by unfold ET;split <;> (try split) <;> simp <;> omega
theorem FP {last t n:Int}:D9 last t n=0↔1<=n/\n<=1500/\0<=t/\t<=1099511627776/\last<=t:=by unfold D9;split <;> simp[WL] <;> omega
def He (p:Int×Int):Bk:=⟨p.1*1000,p.2,p.1*1000,0⟩
theorem il {p:Int×Int}(h:BM p.1 p.2=true):(He p).Ok:=by
 obtain⟨a,b,c,d⟩:=AA h;constructor <;> simp[He] <;> omega
theorem FW (r a b c:Int):r*(a-c)=r*(b-c)+r*(a-b):=by
 simp only[xW];omega
theorem Bk.Ok.grow {b:Bk}(h:b.Ok){t:Int}(D:b.last<=t)(z:t<=1099511627776):0<=b.rate*(t-b.last)/\b.rate*(t-b.last)<=109951162777600000:=
 NH h.r0 h.r1 (by omega) (by have:=h.l0;omega)
theorem Bk.Ok.lev_bd {b:Bk}(h:b.Ok){t:Int}(z:b.last<=t):0<=b.lev t/\b.lev t<=b.most:=by
 have:=vG h.r0 (show 0<=t-b.last by omega);have:=h.h0;have:=h.h1;have:=h.m0;unfold Bk.lev;omega
theorem Bk.lev_mono {b:Bk}(h:0<=b.rate){s t:Int}(z:s<=t):b.lev s<=b.lev t:=by
 have:=FW b.rate t s b.last;have:=vG h (show 0<=t-s by omega);unfold Bk.lev;omega
theorem Bk.Ok.take {b:Bk}(h:b.Ok){t n:Int}(z:b.last<=t)(E:t<=1099511627776)(D:0<=n):(b.take t n).Ok:=by
 have:=h.lev_bd z;have:=h.l0;unfold Bk.take;split <;> exact⟨h.m0,h.m1,h.r0,h.r1,by simp;omega,by simp;omega,by simp;omega,by simp;omega⟩
theorem Bk.take_last (b:Bk)(t n:Int):(b.take t n).last=t:=by unfold Bk.take;split <;> rfl
theorem TK {r x:Int}(h:0<r):x<=r*((x+r-1)/r)/\r*((x+r-1)/r)<x+r:=by
 have E:=Int.mul_ediv_add_emod (x+r-1) r;have D:=Int.emod_nonneg (x+r-1) (show r≠0 by omega);have z:=Int.emod_lt_of_pos (x+r-1) h;omega
theorem Bk.when_some {b:Bk}(h:b.Ok){t n T:Int}(K:t<=1099511627776)(e:b.when t n=some T):t<=T/\T<=1099511627776/\n*1000<=b.lev T/\∀ s,t<=s->s<T->b.lev s<n*1000:=by
 unfold Bk.when at e;split at e
 ·
  rename_i h1
  cases e
  exact⟨q8 _,K,h1,fun s z D=>by omega⟩
 rename_i h1
 split at e
 · cases e
 rename_i z
 split at e
 · cases e
 rename_i D
 have I:0<b.rate:=by have:=h.r0;omega
 have H:=TK (r:=b.rate) (x:=n*1000-b.lev t) I;have N:¬b.most<n*1000:=fun h=>z (.inl h)
 generalize O:(n*1000-b.lev t+b.rate-1)/b.rate=k at e D H;cases e
 have ab:0<k:=by
  by_cases E:0<k
  · exact E
  have:=qP (show k<=0 by omega) h.r0;simp at this;omega
 have U:b.lev t=b.has+b.rate*(t-b.last):=by unfold Bk.lev at h1 ⊢;omega
 have J:=FW b.rate (t+k) t b.last;rw[show t+k-t=k by omega]at J;refine⟨by omega,by omega,?_,fun s Y V=>?_⟩
 · unfold Bk.lev;omega
 have Q:=FW b.rate s t b.last;have W:b.rate*(s-t)<=b.rate*(k-1):=qP (by omega) h.r0;have Z:b.rate*(k-1)=b.rate*k-b.rate:=by simp[xW]
 unfold Bk.lev;omega
theorem Bk.when_none {b:Bk}(z:b.Ok){t n:Int}(e:b.when t n=none):∀ s,t<=s->s<=1099511627776->b.lev s<n*1000:=by
 intro s Q s1;unfold Bk.when at e;split at e
 · cases e
 rename_i h1
 split at e
 ·
  rename_i h
  rcases h with h|h
  · unfold Bk.lev;omega
  have:=z.h1;unfold Bk.lev at h1 ⊢;rw[h]at h1 ⊢;omega
 rename_i h
 split at e
 ·
  rename_i h3
  have D:0<b.rate:=by have:=z.r0;omega
  have E:=TK (r:=b.rate) (x:=n*1000-b.lev t) D;have H:¬b.most<n*1000:=fun z=>h (.inl z)
  generalize I:(n*1000-b.lev t+b.rate-1)/b.rate=k at e h3 E;have K:b.lev t=b.has+b.rate*(t-b.last):=by unfold Bk.lev at h1 ⊢;omega
  have J:=FW b.rate s t b.last;have N:b.rate*(s-t)<=b.rate*(k-1):=qP (by omega) z.r0;have O:b.rate*(k-1)=b.rate*k-b.rate:=by simp[xW]
  unfold Bk.lev;omega
 cases e
structure Pk where
 flow:Int
 size:Int
 tick:Int
def Jk (p:Pk):Bool:=decide (0<=p.flow/\p.flow<8/\1<=p.size/\p.size<=1500/\0<=p.tick/\p.tick<=1099511627776)
theorem A7 {p:Pk}(h:Jk p=true):0<=p.flow/\p.flow<8/\1<=p.size/\p.size<=1500/\0<=p.tick/\p.tick<=1099511627776:=vM h
theorem iM {p:Pk}(h:0<=p.flow/\p.flow<8/\1<=p.size/\p.size<=1500/\0<=p.tick/\p.tick<=1099511627776):Jk p=true:=qM h
def ahead (ps:List Pk):Nat->Int
 | 0=>0
 | i+1=>match ps[i]? with | some p=>p.tick | none=>0
structure Al (ps:List Pk):Prop where
 few:ps.length<=300
 each:∀ i p,ps[i]? = some p->Jk p=true/\ahead ps i<=p.tick
theorem FD:Al []:=⟨by simp,fun i p h=>by simp at h⟩
def total:List Pk->Int
 | []=>0
 | p::r=>p.size+total r
theorem Xj (ps:List Pk)(p:Pk):total (ps++[p])=total ps+p.size:=by
 induction ps with
 | nil=>simp[total]
 | cons q r h=>simp[total,h];omega
def ends:List Pk->lI
 | []=>[]
 | p::r=>(p.tick,total (p::r))::ends r
theorem Su (ps:List Pk)(p:Pk)(a s:Int):(a,s)∈ends (ps++[p])↔(a,s-p.size)∈ends ps\/(a=p.tick/\s=p.size):=by
 induction ps with
 | nil=>simp[ends,total]
 | cons q r E=>
  show(a,s)∈(q.tick,total (q::(r++[p])))::ends (r++[p])↔(a,s-p.size)∈(q.tick,total (q::r))::ends r\/_
  have H:total (q::(r++[p]))=total (q::r)+p.size:=Xj (q::r) p;simp only[qS,Prod.mk.injEq,H,E];constructor
  ·
   rintro(⟨z,D⟩|h|h)
   · exact .inl (.inl ⟨z,by omega⟩)
   · exact .inl (.inr h)
   exact .inr h
  rintro((⟨z,D⟩|h)|h)
  · exact .inl ⟨z,by omega⟩
  · exact .inr (.inl h)
  exact .inr (.inr h)
def Fj (ls:lI)(ps:List Pk)(p:Pk):Prop:=∀ a s,(a,s)∈ends (ps++[p])->s<=Bu (p.tick-a) ls
def MF (ls:lI)(a c:Int):List Pk->Bool
 | []=>true
 | p::r=>decide (c+p.size<=Bu (p.tick-a) ls)&&MF ls a (c+p.size) r
def PL (ls:lI):List Pk->Bool
 | []=>true
 | p::r=>MF ls p.tick 0 (p::r)&&PL ls r
theorem Wl (ls:lI)(a:Int)(ps:List Pk)(p:Pk):∀ c,MF ls a c (ps++[p])=true↔MF ls a c ps=true/\c+total (ps++[p])<=Bu (p.tick-a) ls:=by
 induction ps with
 | nil=>intro c;simp[MF,total]
 | cons q r z=>
  intro c;have h:total (q::r++[p])=q.size+total (r++[p]):=rfl;simp only[yL,MF,Bool.and_eq_true,z]at *;rw[h,Int.add_assoc,and_assoc]
theorem WZ (ls:lI)(ps:List Pk)(p:Pk):PL ls (ps++[p])=true↔PL ls ps=true/\Fj ls ps p:=by
 induction ps with
 | nil=>simp[PL,MF,Fj,ends,total]
 | cons q r H=>
  have D:=Wl ls q.tick (q::r) p 0;simp only[yL]at D;simp only[yL,PL,Bool.and_eq_true,D,H];have E:Fj ls (q::r) p↔0+total (q::(r++[p]))<=Bu (p.tick-q.tick) ls/\Fj ls r p:=by
   show(∀ a s,(a,s)∈(q.tick,total (q::(r++[p])))::ends (r++[p])->_)↔_
   simp only[qS,Prod.mk.injEq,Int.zero_add];constructor
   · intro h;exact⟨h _ _ (.inl ⟨rfl,rfl⟩),fun a s z=>h a s (.inr z)⟩
   rintro⟨h,I⟩ a s (⟨rfl,rfl⟩|z)
   · exact h
   exact I a s z
  rw[E];exact⟨fun⟨⟨a,b⟩,c,d⟩=>⟨⟨a,c⟩,b,d⟩,fun⟨⟨a,c⟩,b,d⟩=>⟨⟨a,b⟩,c,d⟩⟩
theorem Xm (t s:Int)(ls:lI)(D:1<=ls.length):s<=Bu t ls↔∀ p,p∈ls->s<=BQ t p.1 p.2:=by
 constructor
 · intro z p h;have:=J2 t ls p h;omega
 intro z;obtain⟨p,h,e⟩:=JV t ls D;rw[e];exact z p h
theorem QX (ls:lI)(H:1<=ls.length)(ps:List Pk)(p:Pk):Fj ls ps p↔∀ q,q∈ls->Fj [q] ps p:=by
 have E:∀ q:Int×Int,∀ t s,s<=Bu t [q]↔s<=BQ t q.1 q.2:=fun q t s=>by simp[Bu,Cz]
 simp only[Fj,Xm _ _ ls H,E];exact⟨fun D q z a s h=>D a s h q z,fun D a s h q z=>D q z a s h⟩
structure Passed (q:Int×Int)(ps:List Pk)(b:Bk):Prop where
 most:b.most=q.1*1000
 rate:b.rate=q.2
 lev:∀ t v,b.last<=t->(v<=b.lev t↔v<=q.1*1000/\∀ a s,(a,s)∈ends ps->v+s*1000<=q.1*1000+q.2*(t-a))
theorem UX (q:Int×Int)(z:0<=q.2):Passed q [] (He q):=by
 refine⟨rfl,rfl,fun t v E=>?_⟩;have:=vG z (show 0<=t-0 by simpa[He]using E);simp only[Bk.lev,He,ends]at *;constructor
 · intro h;exact⟨by omega,fun a s D=>by cases D⟩
 intro h;omega
theorem Passed.fits {q:Int×Int}{ps:List Pk}{b:Bk}(I:Passed q ps b)(p:Pk)(D:b.last<=p.tick):p.size*1000<=b.lev p.tick↔Fj [q] ps p:=by
 rw[I.lev _ _ D];have H:∀ t s,s<=Bu t [q]↔s*1000<=q.1*1000+q.2*t:=fun t s=>by simp[Bu,Cz,BQ];omega
 simp only[Fj,H,Su];constructor
 ·
  rintro⟨J,E⟩ a s (h|⟨rfl,rfl⟩)
  · have:=E a _ h;omega
  simp;omega
 intro z;refine⟨by have:=z p.tick p.size (.inr ⟨rfl,rfl⟩);simp at this;omega,fun a s h=>?_⟩;have:=z a (s+p.size) (.inl (by simpa using h));omega
theorem Passed.pass {q:Int×Int}{ps:List Pk}{b:Bk}(z:Passed q ps b)(K:0<=b.rate)(p:Pk)(O:b.last<=p.tick)(J:p.size*1000<=b.lev p.tick):Passed q (ps++[p]) (b.take p.tick p.size):=by
 have e:b.take p.tick p.size=⟨b.most,b.rate,b.lev p.tick-p.size*1000,p.tick⟩:=by unfold Bk.take;rw[if_pos J]
 refine⟨by rw[e];exact z.most,by rw[e];exact z.rate,fun s v I=>?_⟩;rw[e]at I ⊢;simp only at I;have W:=vG K (show 0<=s-p.tick by omega);have U:=z.lev p.tick (v+p.size*1000-b.rate*(s-p.tick)) O;have N:=z.most;have Q:=z.rate;have key:v<=(Bk.mk b.most b.rate (b.lev p.tick-p.size*1000) p.tick).lev s↔v<=b.most/\v+p.size*1000-b.rate*(s-p.tick)<=b.lev p.tick:=by simp only[Bk.lev];omega
 rw[key,U,N,Q];simp only[Su];constructor
 ·
  rintro⟨D,E,V⟩;refine⟨D,fun a H h=>?_⟩;rcases h with h|⟨rfl,rfl⟩
  · have:=V a _ h;have:=FW q.2 s p.tick a;omega
  omega
 rintro⟨D,E⟩;refine⟨D,?_,fun a H h=>?_⟩
 · have:=E p.tick p.size (.inr ⟨rfl,rfl⟩);omega
 have:=E a (H+p.size) (.inl (by simpa using h));have:=FW q.2 s p.tick a;omega
def Aw (w:World)(a:oA)(ps:List Pk):Prop:=
 ps=[]\/∃ b h,a=some ⟨b,h,none⟩/\b<w.heap.size/\∀(i:Nat) p,ps[i]? = some p->w.cell? ⟨b,h+i*3,none⟩=some (.int .i64 p.flow)/\w.cell? ⟨b,h+i*3+1,none⟩=some (.int .i64 p.size)/\w.cell? ⟨b,h+i*3+2,none⟩=some (.int .i64 p.tick)
theorem Aw.place {w:World}{a:oA}{ps:List Pk}(z:Aw w a ps)(D:1<=ps.length):∃ b h,a=some ⟨b,h,none⟩/\b<w.heap.size/\∀(i:Nat) p,ps[i]? = some p->w.cell? ⟨b,h+i*3,none⟩=some (.int .i64 p.flow)/\w.cell? ⟨b,h+i*3+1,none⟩=some (.int .i64 p.size)/\w.cell? ⟨b,h+i*3+2,none⟩=some (.int .i64 p.tick):=by
 rcases z with rfl|z
 · simp at D
 exact z
theorem Aw.but {S:Nat->Prop}{w w':World}{a:oA}{ps:List Pk}(N:Aw w a ps)(z:But S w w')(I:∀ H,a=some H->¬S H.block):Aw w' a ps:=by
 rcases N with rfl|⟨b,h,rfl,D,J⟩
 · exact .inl rfl
 have E:¬S b:=I _ rfl;refine .inr ⟨b,h,rfl,qD D z.size,fun i p K=>?_⟩;have:=J i p K;exact⟨by rw[z.cell (p:=⟨b,h+i*3,none⟩) D E];exact this.1,by rw[z.cell (p:=⟨b,h+i*3+1,none⟩) D E];exact this.2.1,by rw[z.cell (p:=⟨b,h+i*3+2,none⟩) D E];exact this.2.2⟩
theorem Aw.below {w w':World}{a:oA}{ps:List Pk}(h:Aw w a ps)(z:zW w w'):Aw w' a ps:=
 h.but (S:=fun _=>False) (.ofBelow z) (fun _ _ h=>h)
theorem Aw.drop {w:World}{b h:Nat}{ps:List Pk}(E:Aw w (some ⟨b,h,none⟩) ps)(k:Nat):Aw w (some ⟨b,h+k*3,none⟩) (ps.drop k):=by
 rcases E with rfl|⟨I,J,e,H,D⟩
 · exact .inl (by simp)
 cases e
 refine .inr ⟨b,h+k*3,rfl,H,fun i p z=>?_⟩;rw[List.getElem?_drop]at z;have:=D (k+i) p z;rw[show h+(k+i)*3=h+k*3+i*3 by omega]at this;exact this
def BV (ps:List Pk):List Value:=ps.flatMap fun p=>[.int .i64 p.flow,.int .i64 p.size,.int .i64 p.tick]
theorem KW (p:Pk)(r:List Pk):BV (p::r)=.int .i64 p.flow::.int .i64 p.size::.int .i64 p.tick::BV r:=rfl
theorem Fh (a b:List Pk):BV (a++b)=BV a++BV b:=by simp[BV]
theorem GZ (ps:List Pk):(BV ps).length=ps.length*3:=by
 induction ps with
 | nil=>rfl
 | cons p r h=>rw[KW];simp[h];omega
theorem Mm (ps:List Pk):∀(i:Nat) p,ps[i]? = some p->(BV ps)[i*3]? = some (.int .i64 p.flow)/\(BV ps)[i*3+1]? = some (.int .i64 p.size)/\(BV ps)[i*3+2]? = some (.int .i64 p.tick):=by
 induction ps with
 | nil=>intro i p h;simp at h
 | cons q r z=>
  intro i p h;rw[KW];cases i with
  | zero=>simp at h;subst h;exact⟨rfl,rfl,rfl⟩
  | succ i=>
   have:=z i p (by simpa using h);rw[show(i+1)*3=i*3+1+1+1 by omega];exact⟨by simpa using this.1,by simpa using this.2.1,by simpa using this.2.2⟩
theorem SI (ps:List Pk):∀ j u,(BV ps)[j]? = some u->∃(i:Nat)(p:Pk),ps[i]? = some p/\((j=i*3/\u=.int .i64 p.flow)\/(j=i*3+1/\u=.int .i64 p.size)\/(j=i*3+2/\u=.int .i64 p.tick)):=by
 induction ps with
 | nil=>intro j u h;simp[BV]at h
 | cons p r E=>
  intro j u h;rw[KW]at h
  match j,h with
  | 0,h=>exact⟨0,p,rfl,.inl ⟨rfl,by simpa using h.symm⟩⟩
  | 1,h=>exact⟨0,p,rfl,.inr (.inl ⟨rfl,by simpa using h.symm⟩)⟩
  | 2,h=>exact⟨0,p,rfl,.inr (.inr ⟨rfl,by simpa using h.symm⟩)⟩
  | j+3,h=>
   obtain⟨i,q,z,D⟩:=E j u (by simpa using h);refine⟨i+1,q,by simpa using z,?_⟩;rcases D with⟨e,f⟩|⟨e,f⟩|⟨e,f⟩
   · exact .inl ⟨by omega,f⟩
   · exact .inr (.inl ⟨by omega,f⟩)
   exact .inr (.inr ⟨by omega,f⟩)
theorem Kn (ps:List Pk):∀ u∈BV ps,u.oneCell'=true:=by
 intro u z;obtain⟨j,D⟩:=xN.1 z;obtain⟨i,p,-,h⟩:=SI ps j u D;rcases h with⟨-,rfl⟩|⟨-,rfl⟩|⟨-,rfl⟩ <;> rfl
def BD (w:World)(B:Nat)(v:Value)(ps:List Pk):Prop:=w.ownsRow B 50 3 v ps.length (BV ps)
theorem BD.open {w:World}{B:Nat}{v:Value}{ps:List Pk}(h:BD w B v ps):∃ a cap,v=.slice a ps.length cap/\ps.length<=cap/\cap<=maxLen/\Aw w a ps/\(∀ z,a=some z->B<=z.block)/\(a=none->ps=[]/\cap=0):=by
 obtain⟨U,⟨rfl,D⟩|⟨g,cap,V,rfl,K,J,H,I,O,Q⟩⟩:=h
 · exact⟨none,0,by rw[D],by omega,by simp[maxLen],.inl (qN.1 D),(fun z e=>by cases e),fun _=>⟨qN.1 D,rfl⟩⟩
 refine⟨_,cap,rfl,H,I,.inr ⟨g,0,rfl,?_,fun i p N=>?_⟩,(fun z e=>by cases e;exact K),fun e=>by cases e⟩
 ·
  rcases qC g w.heap.size with h|h
  · exact h
  simp[vX h]at J
 have E:w.ownsRow B 50 3 (.slice (some ⟨g,0,none⟩) ps.length cap) ps.length (BV ps):=⟨U,.inr ⟨g,cap,V,rfl,K,J,H,I,O,Q⟩⟩
 have W:i<ps.length:=by
  rcases qC i ps.length with h|h
  · exact h
  simp[qH h]at N
 have:=Mm ps i p N;rw[E.cellAt _ (by omega),E.cellAt _ (by omega),E.cellAt _ (by omega),vC];exact this
theorem Mw {w:World}{z:Addr}{ps:List Pk}(h:Aw w (some z) ps):∀ j u,(BV ps)[j]? = some u->w.cell? (z.add j)=some u:=by
 intro j u H;obtain⟨i,p,D,E⟩:=SI ps j u H;rcases h with rfl|⟨b,I,e,-,h⟩
 · simp at D
 cases e
 have:=h i p D;rw[Addr.add_lit];rcases E with⟨rfl,rfl⟩|⟨rfl,rfl⟩|⟨rfl,rfl⟩
 · exact this.1
 · exact this.2.1
 exact this.2.2
theorem Tryz.infoPkt:(Tryz.prog.info? 50).map (fun i=>(i.zero,i.size,i.bytes))=some (some (.agg #[.int .i64 0,.int .i64 0,.int .i64 0]),3,24):=by kernel_rfl
theorem Ah {w w':World}{h:Nat}{e:TypeId}{D:Nat}{v:Value}{n:Nat}{xs:List Value}(K:w.ownsRow h e D v n xs)(H:∀ g,v.ownBlock=some g->g<w.heap.size->w'.heap[g]? = w.heap[g]?):w'.ownsRow h e D v n xs:=by
 obtain⟨z,I|⟨g,cap,N,rfl,J,E,r⟩⟩:=K
 · exact⟨z,.inl I⟩
 exact⟨z,.inr ⟨g,cap,N,rfl,J,(H g rfl (xR E)).trans E,r⟩⟩
theorem Aq {w:World}{h:Nat}{e:TypeId}{E:Nat}{v:Value}{n:Nat}{xs:List Value}(I:w.ownsRow h e E v n xs){g:Nat}(z:v.ownBlock=some g):h<=g/\g<w.heap.size:=by
 obtain⟨J,⟨rfl,-⟩|⟨g',cap,K,rfl,D,H,r⟩⟩:=I
 · cases z
 cases z
 exact⟨D,xR H⟩
theorem Tryz.infoInt:(Tryz.prog.info? 3).map (fun i=>(i.zero,i.size,i.bytes))=some (some (.int .i64 0),1,8):=by kernel_rfl
theorem Gr (u:Value)(n j:Nat)(h:j<n):(madeCells #[u] n)[j]? = some u:=by
 rw[xX (by rw[size_madeCells];exact h)];simp[madeCells,Nat.mod_one]
def AR (w:World)(a:oA)(xs:List Int):Prop:=
 xs=[]\/∃ b h,a=some ⟨b,h,none⟩/\b<w.heap.size/\∀(i:Nat) x,xs[i]? = some x->w.cell? ⟨b,h+i,none⟩=some (.int .i64 x)
theorem AR.place {w:World}{a:oA}{xs:List Int}(h:AR w a xs)(D:1<=xs.length):∃ b z,a=some ⟨b,z,none⟩/\b<w.heap.size/\∀(i:Nat) x,xs[i]? = some x->w.cell? ⟨b,z+i,none⟩=some (.int .i64 x):=by
 rcases h with rfl|h
 · simp at D
 exact h
theorem AR.below {w w':World}{a:oA}{xs:List Int}(H:AR w a xs)(h:zW w w'):AR w' a xs:=by
 rcases H with rfl|⟨b,z,rfl,I,D⟩
 · exact .inl rfl
 exact .inr ⟨b,z,rfl,qD I h.size,fun i x E=>j7 h (D i x E)⟩
theorem XN (w:World)(n:Nat)(t:TypeId):AR (w.alloc (.cells (madeCells #[.int .i64 0] n) t)) (some ⟨w.heap.size,0,none⟩) (List.replicate n 0):=by
 refine .inr ⟨w.heap.size,0,rfl,by simp,fun i x h=>?_⟩;have D:i<n:=by
  rcases qC i n with z|z
  · exact z
  rw[qH (by simpa using z)]at h;cases h
 rw[List.getElem?_replicate,if_pos D]at h;obtain rfl:=Option.some.inj h;rw[qO _ _ _ _ rfl,vC];exact Gr _ _ _ D
structure Sn where
 num:Int
 beg:Int
 fin:Int
structure Que (σ:Type) where
 come:σ->Nat->σ
 pick:σ->Nat
 left:σ->σ
 rest:σ->Nat
 idle:σ->σ:=fun q=>q
structure St (σ:Type) where
 out:List Sn
 now:Int
 next:Nat
 q:σ
structure Steps {σ:Type}(Q:Que σ)(per:Int)(ps:List Pk)(q0:σ)(C:St σ->Prop):Prop where
 start:C ⟨[],0,0,q0⟩
 come:∀ s p,C s->ps[s.next]? = some p->p.tick<=s.now->C ⟨s.out,s.now,s.next+1,Q.come s.q s.next⟩
 send:∀ s p,C s->(∀ r,ps[s.next]? = some r->s.now<r.tick)->0<Q.rest s.q->ps[Q.pick s.q]? = some p->C ⟨s.out++[⟨Q.pick s.q,s.now,s.now+per*p.size⟩],s.now+per*p.size,s.next,Q.left s.q⟩
 idle:∀ s p,C s->ps[s.next]? = some p->s.now<p.tick->Q.rest s.q=0->C ⟨s.out,p.tick,s.next,Q.idle s.q⟩
def Reaches {h:Type}(D:Que h)(per:Int)(ps:List Pk)(z:h)(s:St h):Prop:=∀ C:St h->Prop,Steps D per ps z C->C s
section
variable {σ:Type} {Q:Que σ} {per:Int} {ps:List Pk} {q0:σ}
theorem Reaches.start:Reaches Q per ps q0 ⟨[],0,0,q0⟩:=fun _ h=>h.start
theorem Reaches.come (s:St σ)(p:Pk)(E:Reaches Q per ps q0 s)(D:ps[s.next]? = some p)(z:p.tick<=s.now):Reaches Q per ps q0 ⟨s.out,s.now,s.next+1,Q.come s.q s.next⟩:=
 fun C h=>h.come s p (E C h) D z
theorem Reaches.send (s:St σ)(p:Pk)(H:Reaches Q per ps q0 s)(E:∀ r,ps[s.next]? = some r->s.now<r.tick)(z:0<Q.rest s.q)(D:ps[Q.pick s.q]? = some p):Reaches Q per ps q0 ⟨s.out++[⟨Q.pick s.q,s.now,s.now+per*p.size⟩],s.now+per*p.size,s.next,Q.left s.q⟩:=
 fun C h=>h.send s p (H C h) E z D
theorem Reaches.idle (s:St σ)(p:Pk)(H:Reaches Q per ps q0 s)(E:ps[s.next]? = some p)(z:s.now<p.tick)(D:Q.rest s.q=0):Reaches Q per ps q0 ⟨s.out,p.tick,s.next,Q.idle s.q⟩:=
 fun C h=>h.idle s p (H C h) E z D
theorem Reaches.by_steps {C:St σ->Prop}{s:St σ}(I:Reaches Q per ps q0 s)(z:C ⟨[],0,0,q0⟩)
  (H:∀ s p,Reaches Q per ps q0 s->ps[s.next]? = some p->p.tick<=s.now->C s->C ⟨s.out,s.now,s.next+1,Q.come s.q s.next⟩)
  (D:∀ s p,Reaches Q per ps q0 s->(∀ r,ps[s.next]? = some r->s.now<r.tick)->0<Q.rest s.q->ps[Q.pick s.q]? = some p->C s->C ⟨s.out++[⟨Q.pick s.q,s.now,s.now+per*p.size⟩],s.now+per*p.size,s.next,Q.left s.q⟩)
  (E:∀ s p,Reaches Q per ps q0 s->ps[s.next]? = some p->s.now<p.tick->Q.rest s.q=0->C s->C ⟨s.out,p.tick,s.next,Q.idle s.q⟩):C s:=
 (I (fun s=>Reaches Q per ps q0 s/\C s) ⟨⟨.start,z⟩,fun s p h a b=>⟨.come s p h.1 a b,H s p h.1 a b h.2⟩,fun s p h a b c=>⟨.send s p h.1 a b c,D s p h.1 a b c h.2⟩,fun s p h a b c=>⟨.idle s p h.1 a b c,E s p h.1 a b c h.2⟩⟩).2
end
structure Kh {σ:Type}(Q:Que σ)(per:Int)(ps:List Pk)(q0:σ):Prop where
 none:Q.rest q0=0
 come:∀ s,Reaches Q per ps q0 s->s.next<ps.length->Q.rest (Q.come s.q s.next)=Q.rest s.q+1
 left:∀ s,Reaches Q per ps q0 s->0<Q.rest s.q->Q.rest (Q.left s.q)+1=Q.rest s.q
 pick:∀ s,Reaches Q per ps q0 s->0<Q.rest s.q->Q.pick s.q<s.next
 idle:∀ s,Reaches Q per ps q0 s->Q.rest s.q=0->Q.rest (Q.idle s.q)=0
def Que.asked {h:Type}(z:Que h)(q:h):h:=if z.rest q=0 then z.idle q else q
theorem MK {h:Type}(z:Que h)(D:∀ q,z.idle q=q)(q:h):z.asked q=q:=by
 unfold Que.asked;split
 · exact D q
 rfl
theorem Af {z:Type}{l:List z}{k:Nat}{x:z}(D:l[k]? = some x):k<l.length:=by
 rcases qC k l.length with h|h
 · exact h
 simp[qH h]at D
section
variable {σ:Type} {Q:Que σ} {per:Int} {ps:List Pk} {q0:σ} {s:St σ}
theorem Reaches.next_le (D:Reaches Q per ps q0 s):s.next<=ps.length:=by
 refine D.by_steps (C:=fun s=>s.next<=ps.length) (qR _) ?_ ?_ ?_
 · intro s p _ z _ _;exact Af z
 · intro s p _ _ _ _ h;exact h
 intro s p _ _ _ _ h;exact h
theorem Reaches.count (z:Kh Q per ps q0)(I:Reaches Q per ps q0 s):s.out.length+Q.rest s.q=s.next:=by
 refine I.by_steps (C:=fun s=>s.out.length+Q.rest s.q=s.next) (by simp[z.none]) ?_ ?_ ?_
 · intro s p h H _ E;have:=z.come s h (Af H);simp only;omega
 · intro s p h _ D _ E;have:=z.left s h D;simp only[qJ,vH,vU];omega
 intro s p h _ _ D E;have:=z.idle s h D;simp only;omega
theorem Reaches.now_in (K:1<=per/\per<=1000)(D:Al ps)(I:Reaches Q per ps q0 s):0<=s.now/\s.now<=1099511627776+1500000*s.out.length:=by
 refine I.by_steps (C:=fun s=>0<=s.now/\s.now<=1099511627776+1500000*s.out.length) ⟨q8 _,by simp⟩ ?_ ?_ ?_
 · intro s p _ _ _ z;exact z
 · intro s p _ _ _ h z;obtain⟨-,-,H,E,-,-⟩:=A7 (D.each _ p h).1;have N:0<=per*p.size:=vG (by omega) (by omega);have J:per*p.size<=1000*1500:=yD (by omega) E (by omega) (by omega);simp only[qJ,vH,vU];omega
 intro s p _ h _ _ z;obtain⟨-,-,-,-,H,E⟩:=A7 (D.each _ p h).1;simp only;omega
end
def Ar (ps:List Pk)(j:Nat):Int:=match ps[j]? with | some p=>p.tick | none=>0
def bytesOf (ps:List Pk)(j:Nat):Int:=match ps[j]? with | some p=>p.size | none=>0
theorem Av {ps:List Pk}{j:Nat}{p:Pk}(h:ps[j]? = some p):Ar ps j=p.tick:=by simp[Ar,h]
theorem Ht {ps:List Pk}{j:Nat}{p:Pk}(h:ps[j]? = some p):bytesOf ps j=p.size:=by simp[bytesOf,h]
theorem Yq {ps:List Pk}(D:Al ps):∀(d i:Nat),i+d<ps.length->Ar ps i<=Ar ps (i+d):=by
 intro d;induction d with
 | zero=>intro i _;exact q8 _
 | succ d I=>
  intro i J;have H:=I i (by omega);have z:ps[i+d]? = some ps[i+d]:=qE (by omega);have h:ps[i+d+1]? = some ps[i+d+1]:=qE (by omega);have E:=(D.each (i+d+1) _ h).2;simp only[ahead,z]at E;rw[Av z]at H;rw[show i+(d+1)=i+d+1 by omega,Av h];omega
theorem Eh {ps:List Pk}(h:Al ps){i k:Nat}(z:i<=k)(D:k<ps.length):Ar ps i<=Ar ps k:=by
 have:=Yq h (k-i) i (by omega);rwa[show i+(k-i)=k by omega]at this
def lto (per:Int)(ps:List Pk):Nat->Int
 | 0=>0
 | j+1=>max (lto per ps j) (Ar ps j)+per*bytesOf ps j
def X4 (per:Int)(ps:List Pk)(j:Nat):Sn:=⟨j,max (lto per ps j) (Ar ps j),lto per ps (j+1)⟩
def BZ (per:Int)(ps:List Pk)(j:Nat):List Sn:=(List.range j).map (X4 per ps)
theorem K6 (per:Int)(ps:List Pk)(j:Nat):(BZ per ps j).length=j:=by simp[BZ]
theorem UO {per:Int}{ps:List Pk}{j k:Nat}(h:k<j):(BZ per ps j)[k]? = some (X4 per ps k):=by simp[BZ,h]
theorem Nn (per:Int)(ps:List Pk)(j:Nat):BZ per ps (j+1)=BZ per ps j++[X4 per ps j]:=by simp[BZ,List.range_succ]
theorem SY {per:Int}{ps:List Pk}{j k:Nat}(h:k<=j):(BZ per ps j).take k=BZ per ps k:=by
 rw[BZ,<- List.map_take,List.take_range,Nat.min_eq_left h];rfl
def JA:Que (List Nat):=⟨fun q k=>q++[k],fun q=>q.headD 0,fun q=>q.tail,fun q=>q.length,fun q=>q⟩
structure Y4 (per:Int)(ps:List Pk)(s:St (List Nat))(j:Nat):Prop where
 le:j<=s.next
 q:s.q=List.range' j (s.next-j)
 out:s.out=BZ per ps j
 came:∀ i,i<s.next->Ar ps i<=s.now
 now:max s.now (Ar ps j)=max (lto per ps j) (Ar ps j)
theorem QU {per:Int}{ps:List Pk}{s:St (List Nat)}(aj:0<=per)(al:Al ps)(h:Reaches JA per ps [] s):∃ j,Y4 per ps s j:=by
 refine h.by_steps (C:=fun s=>∃ j,Y4 per ps s j) ⟨0,lr,rfl,rfl,fun i h=>absurd h (vR _),rfl⟩ ?_ ?_ ?_
 ·
  intro s p O D ab I;obtain⟨j,V,z,J,E,K⟩:=I;refine⟨j,by simp only;omega,?_,J,fun i H=>?_,K⟩
  · simp only[JA,z];rw[show s.next+1-j=(s.next-j)+1 by omega,List.range'_concat,Nat.one_mul,show j+(s.next-j)=s.next by omega]
  simp only at H ⊢;rcases qC i s.next with h|h
  · exact E i h
  obtain rfl:i=s.next:=by omega
  rw[Av D];exact ab
 ·
  intro s p O am N D I;obtain⟨j,V,z,J,E,K⟩:=I;have ac:j<s.next:=by
   rcases qC j s.next with h|h
   · exact h
   rw[z,show s.next-j=0 by omega]at N;simp[JA]at N
  have Q:List.range' j (s.next-j)=j::List.range' (j+1) (s.next-(j+1)):=by
   rw[show s.next-j=(s.next-(j+1))+1 by omega,List.range'_succ]
  have U:JA.pick s.q=j:=by rw[z,Q];rfl
  rw[U]at D;have Z:=Av D;have W:=Ht D;have Y:s.now=max (lto per ps j) (Ar ps j):=by
   have:=E j ac;omega
  have an:0<=per*p.size:=vG aj (by have:=A7 (al.each _ p D).1;omega);refine⟨j+1,by simp only;omega,?_,?_,fun i H=>?_,?_⟩
  · simp only[JA];rw[z,Q];rfl
  · simp only[U];rw[Nn,J];simp only[X4,lto,W,Y]
  · have:=E i H;simp only;omega
  simp only[lto,W,Y]
 intro s p O D ab N I;obtain⟨j,V,z,J,E,K⟩:=I;have ai:j=s.next:=by
  have ad:s.q.length=0:=N;rw[z,List.length_range']at ad;omega
 subst ai;have Z:=Av D;refine⟨s.next,lr,z,J,fun i H=>?_,?_⟩
 · have:=E i H;simp only;omega
 simp only[Z]at K ⊢;omega
theorem dS {per:Int}{ps:List Pk}(E:0<=per)(D:Al ps):Kh JA per ps [] where
 none:=rfl
 come:=fun s _ _=>by simp[JA]
 left:=fun s _ h=>by
  simp only[JA]at h ⊢;rw[List.length_tail];omega
 pick:=fun s I h=>by
  obtain⟨j,J,z,-,-,-⟩:=QU E D I;have H:0<s.q.length:=h;rw[z,List.length_range']at H;show s.q.headD 0<s.next
  rw[z,show s.next-j=(s.next-(j+1))+1 by omega,List.range'_succ];simp
  omega
 idle:=fun _ _ h=>h
theorem eG {per:Int}{ps:List Pk}{s:St (List Nat)}(I:0<=per)(z:Al ps)(h:Reaches JA per ps [] s)(K:¬s.next<ps.length)(D:JA.rest s.q=0):s.out=BZ per ps ps.length:=by
 obtain⟨j,N,E,H,-,-⟩:=QU I z h;have:=h.next_le;have J:s.q.length=0:=D;rw[E,List.length_range']at J;rw[H,show j=ps.length by omega]
def CE (n:Nat)(out:List Sn)(i:Nat):Prop:=i<n/\∀ x∈out,x.num≠(i:Int)
def De (out:List Sn):Int:=match out.getLast? with | some x=>x.fin | none=>0
theorem Ou:De []=0:=rfl
theorem Gh (out:List Sn)(x:Sn):De (out++[x])=x.fin:=by simp[De]
structure af (ps:List Pk)(keys:List Int)(out:List Sn)(t:Int)(b:Nat):Prop where
 undone:CE ps.length out b
 came:Ar ps b<=t
 least:∀ i,CE ps.length out i->Ar ps i<=t->keys.getD b 0<keys.getD i 0\/(keys.getD b 0=keys.getD i 0/\b<=i)
def Tick (ps:List Pk)(out:List Sn)(t:Int):Prop:=
 (t=De out/\∃ i,CE ps.length out i/\Ar ps i<=t) \/
 ((∀ i,CE ps.length out i->De out<Ar ps i)/\∃ i,CE ps.length out i/\t=Ar ps i/\∀ k,CE ps.length out k->Ar ps i<=Ar ps k)
theorem Tick.same {ps:List Pk}{out:List Sn}{t u:Int}(J:Tick ps out t)(k:Tick ps out u):t=u:=by
 rcases J with⟨rfl,i,z,E⟩|⟨I,i,z,rfl,E⟩
 ·
  rcases k with⟨rfl,-⟩|⟨H,-⟩
  · rfl
  have:=H i z;omega
 rcases k with⟨rfl,j,h,D⟩|⟨-,j,h,rfl,D⟩
 · have:=I j h;omega
 have:=E j h;have:=D i z;omega
theorem af.same {ps:List Pk}{z:List Int}{out:List Sn}{t:Int}{b c:Nat}(h:af ps z out t b)(k:af ps z out t c):b=c:=by
 have E:=h.least c k.undone k.came;have D:=k.least b h.undone h.came;omega
def QV (per:Int)(ps:List Pk)(h:List Int)(out:List Sn)(x:Sn):Prop:=∃ t b,Tick ps out t/\af ps h out t b/\x=⟨b,t,t+per*bytesOf ps b⟩
theorem QV.same {per:Int}{ps:List Pk}{h:List Int}{out:List Sn}{x y:Sn}(I:QV per ps h out x)(k:QV per ps h out y):x=y:=by
 obtain⟨t,b,H,D,rfl⟩:=I;obtain⟨u,c,E,z,rfl⟩:=k;obtain rfl:=H.same E;obtain rfl:=D.same z;rfl
def EE (per:Int)(ps:List Pk)(h:List Int)(out:List Sn):Prop:=∀ k x,out[k]? = some x->QV per ps h (out.take k) x
theorem EE.nil (per:Int)(ps:List Pk)(h:List Int):EE per ps h []:=fun k x z=>by simp at z
theorem EE.snoc {per:Int}{ps:List Pk}{z:List Int}{out:List Sn}{x:Sn}(I:EE per ps z out)(E:QV per ps z out x):EE per ps z (out++[x]):=by
 intro k y h;have H:=Af h;rw[qJ,vH,vU]at H;rcases qC k out.length with D|D
 · rw[qU D]at h;rw[yG (by omega)];exact I k y h
 obtain rfl:k=out.length:=by omega
 rw[vW lr]at h;simp at h
 subst h;rw[yG lr,xA];exact E
theorem EE.same {per:Int}{ps:List Pk}{z:List Int}{a b:List Sn}(J:EE per ps z a)(k:EE per ps z b)(H:a.length=b.length):a=b:=by
 have key:∀ n,n<=a.length->a.take n=b.take n:=by
  intro n;induction n with
  | zero=>intro _;simp
  | succ n I=>
   intro N;have e:=I (by omega);have E:a[n]? = some a[n]:=qE (by omega);have h:b[n]? = some (b[n]'(by omega)):=qE (by omega);have K:=J n _ E;have D:=k n _ h;rw[<- e]at D;have:=K.same D;rw[vF,vF,e,E,h,this]
 have:=key a.length lr;rw[xA,H,xA]at this;exact this
theorem FR {per:Int}{ps:List Pk}{j i:Nat}:CE ps.length (BZ per ps j) i↔i<ps.length/\j<=i:=by
 unfold CE;constructor
 ·
  rintro⟨h,D⟩;refine⟨h,?_⟩;rcases qC i j with z|z
  · have E:X4 per ps i∈BZ per ps j:=List.mem_map.2 ⟨i,List.mem_range.2 z,rfl⟩;exact absurd rfl (D _ E)
  exact z
 rintro⟨h,D⟩;refine⟨h,fun x I=>?_⟩;obtain⟨k,H,rfl⟩:=List.mem_map.1 I;have:=List.mem_range.1 H;simp only[X4];omega
theorem M6 (per:Int)(ps:List Pk):∀ j,De (BZ per ps j)=lto per ps j
 | 0=>rfl
 | j+1=>by rw[Nn,Gh];rfl
theorem Qe {per:Int}{ps:List Pk}(E:Al ps)(I:List Int)(H:∀ i,I.getD i 0=0):EE per ps I (BZ per ps ps.length):=by
 intro k x h;have z:=Af h;rw[K6]at z;rw[UO z]at h;have h:=Option.some.inj h;subst h;rw[SY (by omega)];refine⟨max (lto per ps k) (Ar ps k),k,?_,⟨FR.2 ⟨z,lr⟩,by omega,fun i D _=>.inr ⟨by rw[H,H],(FR.1 D).2⟩⟩,?_⟩
 ·
  by_cases J:Ar ps k<=lto per ps k
  · exact .inl ⟨by rw[M6];omega,k,FR.2 ⟨z,lr⟩,by omega⟩
  refine .inr ⟨fun i D=>?_,k,FR.2 ⟨z,lr⟩,by omega,fun i D=>?_⟩
  · rw[M6];have:=FR.1 D;have:=Eh E this.2 this.1;omega
  have:=FR.1 D;exact Eh E this.2 this.1
 simp only[X4,lto]
def named (n:Nat)(x:Sn):Bool:=decide (0<=x.num/\x.num<n)
theorem XY {n:Nat}{x:Sn}(h:named n x=true):0<=x.num/\x.num<n:=vM h
theorem Vb {n:Nat}{x:Sn}(h:named n x=false):x.num<0\/(¬x.num<0/\(n:Int)<=x.num):=by
 have:¬(0<=x.num/\x.num<n):=xE h;omega
end Go.Proofs.YtejlihcdfffafaaGreatDoor
