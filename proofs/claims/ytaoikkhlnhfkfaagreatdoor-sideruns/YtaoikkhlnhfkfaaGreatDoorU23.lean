import Derived.Test.YtaoikkhlnhfkfaaGreatDoorU00
import Derived.Test.YtaoikkhlnhfkfaaGreatDoorU22
set_option maxHeartbeats 1000000
set_option linter.defProp false
set_option linter.unusedSimpArgs false
set_option linter.unusedVariables false
namespace Go.Proofs.YtaoikkhlnhfkfaaGreatDoor
open Go renaming Program->tP,choose->wP,newRow->LW,Sem->xZ,zeroValue->AM,method->zb,underlying->wv,typeInfo->y9,unsupported->wz,callFunc->vi,invoke->GB,runtimePanic->ym,execOp->vf,Frame->vh,exitTo->BY
open Op renaming intDiv->ID,stringOp->F0
open Pure renaming pure->tT
open Instr renaming buildSlice->zE,fill->As,panic->Hj
open Option renaming some->A,none->sA
open Builtin renaming ssaWrapNilChk_->xO,max2->E2,min2->E3,lenOf->D3,firstCells->ub,append_->zq,zeroCells->Bm,mayShare->Hi,len_->E1
open Bool renaming false->ss,true->sy
open Unsupported renaming resourceLimit->xd
open Next renaming value->E4
open Frame renaming finish->B5,enter->tR,eval->wI
section
variable {α β γ:Type}{P:tP}{H:Nat->Prop}{v w:World}
def OX op k a b:AB P H (Op.intArith op k a b):=by
 unfold Op.intArith;split<;>first|exact mz|exact mz
def QU op k a b:AB P H (Op.intBits op k a b):=by
 unfold Op.intBits;exact mz
def bW op a b:AB P H (Op.intCmp op a b):=by
 unfold Op.intCmp;split<;>first|exact mz|exact mz
def dm op k a b:AB P H (ID op k a b):=by
 unfold ID;exact mz
def LF op(a b:bA):AB P H (F0 op a b):=by
 unfold F0;split<;>first|exact Ab _|exact Af _|exact Aw (Bb _) (mz)
def Yn op a b:AB P H (Op.addrCmp op a b):=by
 refine Aa (mz) λz=>?_
 cases op<;>first|exact Ab _|exact Bb _
def M7 op k a b:AB P H (Op.floatArith op k a b):=by
 let last:∀r ,AB P H (match r with|some r=>tT (.float k r)|none=>do tT (.float k (<-wP (.nanBits k a b))):Sem Vl):=λr=>mz
 cases op<;>first|exact Aa _ _|exact Aa (mz) last
def Pm op k a b:AB P H (Op.floatCmp op k a b):=by
 unfold Op.floatCmp;cases op<;>first|exact mz|exact mz
section
open Op.Complex
def Ba op k a b:AB P H (arith op k a b):=by
 unfold arith;exact mz
def KH op k a b:AB P H (cmp op k a b):=Aa (mz) λ_=>mz
def Rf k a E:AB P H (Conv.floatToFloat k a E):=by
 unfold Conv.floatToFloat;exact mz
def Ei k a E:AB P H (conv k a E):=by
 unfold conv;exact mz
def ZU a b c d:AB P H (product a b c d):=
 Aa (Ba _ _ _ _) λ_=>Aa (Ba _ _ _ _) λ_=>Aa (Ba _ _ _ _) λ_=>Aa (Ba _ _ _ _) λ_=>Aa (Ba _ _ _ _) λ_=>Aa (Ba _ _ _ _) λ_=>mz
def NP s a b c d:AB P H (corrected s a b c d):=
 Aa (Ba _ _ _ _) λ_=>Aa (Ba _ _ _ _) λ_=>Aa (Ba _ _ _ _) λ_=>Aa (Ba _ _ _ _) λ_=>Aa (Ba _ _ _ _) λ_=>Aa (Ba _ _ _ _) λ_=>Aa (Ba _ _ _ _) λ_=>Aa (Ba _ _ _ _) λ_=>mz
def Wz a b c d:AB P H (quotient a b c d):=by
 let last:∀e f:Nat,AB P H (do
   let zero:=(<-cmp .eql .f64 c 0)&&(<-cmp .eql .f64 d 0)
   if !(isNaN e&&isNaN f)then tT (e,f)
   else if zero&&(!isNaN a ||!isNaN b)then
    tT (<-mul (copysign inf c) a,<-mul (copysign inf c) b)
   else if (isInf a ||isInf b)&&isFinite c&&isFinite d then
    corrected inf (inf2one a) (inf2one b) c d
   else if (isInf c ||isInf d)&&isFinite a&&isFinite b then
    corrected 0 a b (inf2one c) (inf2one d)
   else tT (e,f)):=λe f=>
  Aa (KH _ _ _ _) λ_=>Aa (KH _ _ _ _) λ_=>Aw (Ab _) (Aw (Aa (Ba _ _ _ _) λ_=>Aa (Ba _ _ _ _) λ_=>Ab _) (Aw (NP _ _ _ _ _) (Aw (NP _ _ _ _ _) (Ab _))))
 unfold quotient;refine Aa (KH _ _ _ _) λ_=>?_
 refine Aw ?_ ?_
 exact Aa (Ba _ _ _ _) λ_=>Aa (Ba _ _ _ _) λ_=>Aa (Ba _ _ _ _) λ_=>Aa (Ba _ _ _ _) λ_=>Aa (Ba _ _ _ _) λ_=>Aa (Ba _ _ _ _) λ_=>Aa (Ba _ _ _ _) λ_=>Aa (Ba _ _ _ _) λ_=>Aa (Ba _ _ _ _) λ_=>Aa (mz) λz=>last _ _
 exact Aa (Ba _ _ _ _) λ_=>Aa (Ba _ _ _ _) λ_=>Aa (Ba _ _ _ _) λ_=>Aa (Ba _ _ _ _) λ_=>Aa (Ba _ _ _ _) λ_=>Aa (Ba _ _ _ _) λ_=>Aa (Ba _ _ _ _) λ_=>Aa (Ba _ _ _ _) λ_=>Aa (Ba _ _ _ _) λ_=>Aa (mz) λz=>last _ _
end
def kw op(t:tI)(x y:Vl):AB P H (binOp op t x y):=by
 unfold binOp;split
 all_goals first
  |exact (by
    unfold Op.shift;exact mz)
  |exact LF _ _ _
  |exact Mf _ _ _
  |exact Bb _
  |exact Af _
  |exact Aa (Iz _ _ _ _) λ_=>Ab _
  |exact Aa (AP _) λ_=>Aw ((by
    unfold movedPointer;split
    exact Aa (mz) λ_=>Aw (Aa (Bb _) λ_=>FR _ _ _ _) (FR _ _ _ _)
    exact FR _ _ _ _)) (Mf _ _ _)
  |exact Aa (EU _) λ_=>Aa (EU _) λ_=>Aa (mz) λ_=>mz
  |exact Aa (EU _) λ_=>Aa (EU _) λ_=>Yn _ _ _
  |exact Aa (EU _) λ_=>by
     refine MZ (λx=>?_) λ_ _ _=>J
     split
     .
      refine Aa (mz) λi=>?_
      exact Aw (Aa (Bb _) λ_=>mz) (mz)
     exact Bb _
  |skip
 .
  apply Aw (Af _)
  cases op<;>first|exact OX _ _ _ _|exact dm _ _ _ _|exact QU _ _ _ _|exact bW _ _ _
 .
  apply Aw (Af _)
  cases op<;>first|exact M7 _ _ _ _|exact Pm _ _ _ _
 exact Aw (Af _) ((by
  unfold Op.complexOp;split
  exact Aa (Ba _ _ _ _) λ_=>Aa (Ba _ _ _ _) λ_=>Ab _
  exact Aa (Ba _ _ _ _) λ_=>Aa (Ba _ _ _ _) λ_=>Ab _
  .
   refine Aa (Ei _ _ _) λ_=>Aa (Ei _ _ _) λ_=>Aa (Ei _ _ _) λ_=>Aa (Ei _ _ _) λ_=>?_
   exact Aa (ZU _ _ _ _) λ_=>Aa (Ei _ _ _) λ_=>Aa (Ei _ _ _) λ_=>mz
  exact mz
  exact Aa (mz) λ_=>Aa (mz) λ_=>mz
  exact Aa (mz) λ_=>Aa (mz) λ_=>mz
  exact mz))
def TD (t:tI) n(l:Array (Nat×Vl)):AB P H (zE t n l):=by
 unfold zE;refine Aa (AP t) λd=>?_
 split
 .
  rename_i elem
  refine Aa (BQ _) λk=>?_
  let last:∀zero:Array Vl,AB P H (match As (λi=>A (i*k,k)) ((Array.range (n*k)).map (zero[· % zero.size]!)) l.toList with
    |some cells=>do tT (.slice (A (<-LW elem cells)) n n)
    |_=>stuck "buildSlice: a part of the wrong size" :xZ Vl):=λzero=>by
   split
   exact Aa (Jv _ _) λ_=>Ab _
   exact Af _
  let tail:AB P H (do
    let zero <-if n*k=0 then tT #[]else do tT (<-AM elem).cells
    match As (λi=>A (i*k,k)) ((Array.range (n*k)).map (zero[·%zero.size]!)) l.toList with
    |some cells=>do tT (.slice (A (<-LW elem cells)) n n)
    |_=>stuck "buildSlice: a part of the wrong size" :xZ Vl):=by
   dsimp only
   split
   exact Aa (Ab _) last
   exact Aa (EO _) λ_=>Aa (Ab _) last
  exact Aw (Aa (Bb _) λ_=>tail) tail
 exact mz
def jF (x:Vl):AB P H (Hj x):=by
 unfold Hj;cases x
 case iface=>exact Bb _
 case nilIface=>exact CQ (BU Pb λb=>Iq (AV (h:=.panic _) sk) (Bu _))
 all_goals exact mz
def GD (t:tI)(x:Place):AB P H (x.get t):=by
 unfold Place.get;exact mz
def Lc:∀(l)(t:tI)(x),AB P H (follow l t x)
 |[],_,_=>Ab _
 |s::l,t,x=>by
  refine Aa (mz) λd=>?_
  split
  .
   split
   .
    apply Aw (Aa (mz) λ_=>Aa (mz) λ_=>Aa (mz) λ_=>Lc l _ _)
    split
    exact Aa (mz) λ_=>Lc l _ _
    exact Aa (mz) λ_=>Lc l _ _
    exact mz
   exact mz
  exact mz
def Y6 (E:Array tI)(t:tI)(x a b:Vl):AB P H (xO E t #[x,a,b]):=by
 unfold xO;cases a<;>first|exact Af _|skip
 cases b<;>first|exact Af _|skip
 dsimp only
 cases x<;>first|exact Af _|skip
 rename_i p
 cases p with
 |none=>
  refine CQ (BU (Tj _) λc=>Iq (Bn (Bu _)) ?_);cases E[0]? with
  |none=>exact AV (h:=.stuck _) sk
  |some G=>
   refine BU (Nk _) λd=>?_
   cases d<;>first|exact AV (h:=.stuck _) sk|skip
   refine BU (O7 _) λi=>?_
   split
   .
    split
    .
     split
     exact Bu _
     exact Ae sk
    exact AV (h:=.stuck _) sk
   exact AV (h:=.stuck _) sk
 |some _=>exact Ab _
def TC (t:tI) x p o:AB P H (receiverAt t x p o):=by
 refine Aa (mz) λd=>?_
 split
 exact mz
 .
  refine Aa (mz) λq=>?_
  split
  exact Aa (Y6 _ _ _ _ _) λ_=>Aa (mz) λ_=>mz
  exact mz
 exact mz
 exact mz
 exact mz
def Sw:∀(n)(t:tI)(x:Vl)(m),AB P H (zb n t x m)
 |0,_,_,_=>Bb _
 |n+1,t,x,m=>by
  refine Aa (mz) λi=>?_
  split
  .
   refine Aa (Lc _ _ _) λz=>?_
   exact mz
  exact mz
def Oe{f:Vl->Vl->xZ Vl}(h:∀x y,AB P H (f x y)):∀(l:List Vl)(x),AB P H (l.foldlM f x)
 |[],x=>by rw[List.foldlM_nil];exact mz
 |y::l,x=>Aa (h x y) λz=>Oe h l z
def rQ (x y:Vl):AB P H (E2 x y):=by
 unfold E2;split
 exact mz
 exact mz
 exact mz
 exact Bb _
 exact Bb _
 exact mz
def rG (x y:Vl):AB P H (E3 x y):=by
 unfold E3;split
 exact mz
 exact mz
 exact mz
 exact Bb _
 exact Bb _
 exact mz
def iV (x:Vl):AB P H (D3 x):=by
 unfold D3;split<;>first|exact mz|exact mz
def JK n m(x:Vl):AB P H (ub n m x):=by
 unfold ub;split<;>first|exact Ab _|exact Af _|exact G7 _ _ _ _
end
section
variable {α β γ:Type}{P:tP}{H:Nat->Prop}{v w:World}
def V8{t:tI}{d}(h:∃w w',(wv t).run P w=.ok d w'):P.underlying t=A d:=by
 let⟨w,w',h⟩:=h;unfold wv at h;simp[program,bind,Sem.bind,Sem.run]at h;cases E:P.underlying t with
 |none=>rw[E]at h;cases h
 |some x=>simp_all
def RL (P:pG)(E:Array tI):Bool:=match E[1]? with|some t=>(match P.underlying t with|some (.int _)=>ss|some _=>sy|none=>ss)|none=>ss
def bQ{O}(G:RL P O=sy)(t:tI)(a:Array Vl):AB P H (zq O t a):=by
 unfold RL at G;unfold zq;cases al:O[0]? with
 |none=>exact Af _
 |some b=>
  cases a[0]? with
  |none=>exact Af _
  |some s=>
   cases a[1]? with
   |none=>exact Af _
   |some x=>
    dsimp only
    refine Aa (AP b) λd=>?_
    cases d<;>first|exact Af _|skip
    rename_i e
    cases s<;>first|exact Af _|skip
    rename_i base n c
    dsimp only
    refine Aa (BQ e) λsize=>?_
    cases V:O[1]? with
    |none=>rw[V]at G;cases G
    |some b=>
     rw[V]at G;dsimp only at G⊢
     refine MC (AP b) λb d=>MC (Ab _) λz U=>?_
     let Y:=V8 d;have Z:z=false:=by
      let⟨w,w',U⟩:=U;rw[Y]at G;cases U
      cases b<;>first|rfl|cases G
     subst Z;simp only[Ĭ,ę,Bool.not_false,ô,false_or];refine Aa (iV x) λm=>?_
     refine Aw ?_ ?_
     .
      refine Aa (JK _ _ _) λu=>?_
      cases base with
      |none=>exact Ab _
      |some b=>exact Aa (GK _ _ _) λ_=>Ab _
     let tail:AB P H (do
       let E <-wP (.appendCap (n+m) c e)
       let i <-y9 e
       askRoom (E*i.bytes)
       let old <-ub size n (.s base n c)
       let I <-ub size m x
       let z <-AM e
       let r <-LW e (old++I++Bm z.cells (E-(n+m)))
       pure (.s (A r) (n+m) E):xZ Vl):=
      Aa (DZ _) λ_=>Aa (Ce _) λ_=>Aa (QM _) λ_=>Aa (JK _ _ _) λ_=>Aa (JK _ _ _) λ_=>Aa (EO _) λ_=>Aa (Jv _ _) λ_=>Ab _
     let d:Gm P (do
       let q <-Hi size n m base x
       if (!q)=sy then do
         mark Mark.noRoom
         wz (xd "append: a slice or a string whose bytes no memory bears")
        else wz (xd "append: a slice or a string whose bytes no memory bears"):xZ PUnit):=BU (O8 _ _ _ _ _) λq=>Iq (BU (XK _) λ_=>Ae sk) (Ae sk)
     let b:AB P H (do
       let i <-y9 e
       if Builtin.nextslicecap (n+m) c*i.bytes>2 ^ 48 then do
        let _ <-(do
         let q <-Hi size n m base x
         if (!q)=sy then do
           mark Mark.noRoom
           wz (xd "append: a slice or a string whose bytes no memory bears")
          else wz (xd "append: a slice or a string whose bytes no memory bears"):xZ PUnit)
        let E <-wP (.appendCap (n+m) c e)
        let i <-y9 e
        askRoom (E*i.bytes)
        let old <-ub size n (.s base n c)
        let I <-ub size m x
        let z <-AM e
        let r <-LW e (old++I++Bm z.cells (E-(n+m)))
        tT (.s (A r) (n+m) E)
       else do
        let E <-wP (.appendCap (n+m) c e)
        let i <-y9 e
        askRoom (E*i.bytes)
        let old <-ub size n (.s base n c)
        let I <-ub size m x
        let z <-AM e
        let r <-LW e (old++I++Bm z.cells (E-(n+m)))
        pure (.s (A r) (n+m) E):xZ Vl):=Aa (Ce _) λi=>Aw (CQ (Bn d)) tail
     refine Aa (Ce _) λi=>?_
     exact Aw (CQ (Bn (Bu _))) b
def Ma (P:pG)(H:Nat->Prop)(x:Array Vl->xZ Vl):=∀a,AB P H (x a)
def nj (P:pG)(H:Nat ->Prop)(E:Nat ->Bool):=∀f,E f=sy ->∀fn,P.funcs[f]? = A fn ->(fn.name== "runtime.NumGoroutine")=ss/\(fn.body.isNone=ss\/(Extern.findNext fn=sA/\∃x,Extern.find fn=A x/\Ma P H x)\/∀a,Gm P (vi f a))
def LC{O}(Z:nj P H O){f:fI}(U:O f=sy)(a:Array Vl):AB P H (vi f a):=by
 cases G:P.funcs[f]? with
 |none=>
  unfold vi;apply BH
  rw[G];exact Af _
 |some X=>
  obtain⟨I,E|⟨E,x,V,Y⟩|E⟩:=Z f U X G
  .
   unfold vi;apply BH
   rw[G];dsimp only
   rw[I,E];exact Ab _
  .
   unfold vi;apply BH
   rw[G];dsimp only
   rw[I];simp only[Ĭ,ę];refine Aw ?_ (Ab _)
   refine Aa (vI (.inr ⟨f,J⟩)) λ_=>?_
   rw[E,V];exact Aa (Y a) λ_=>mz
  exact CQ (E a)
end
variable {w w':M}{e:Operand ->Vl}
section
variable {α β γ:Type}{P:tP}{H:Nat->Prop}
structure Gg where
 c:Nat->Bool
def vP (P:pG)(p:Gg)(c:Call):=match c.callee with
 |.builtin .len|.builtin .min=>sy
 |.builtin .append=>RL P c.argTypes
 |.invoke _ name=>Mw P p.c name
 |.value (.func g)=>p.c g
 |_=>ss
def lK (P:pG)(p:Gg):Op->Bool
 |.move _|.assign _|.pick _ _ _|.alloc _|.box _ _|.build _ _|.buildSlice _ _ _|.load _ _|.store _ _ _|.binOp _ _ _ _ _|.unOp _ _ _|.makeInterface _ _|.makeFunc _ _ _|.makeSlice _ _ _|.makeChan _ _
 |.slice _ _ _ _ _|.fieldAddr _ _ _|.indexAddr _ _ _|.typeAssert _ _ _ _|.extract _ _|.panic _|.nilCheck _=>sy
 |.call c=>vP P p c
 |_=>ss
def Hl (P:pG)(p:Gg):Code->Bool
 |.skip|.exit _|.label _|.ret=>sy
 |.region _ ops _=>ops.all (λo=>lK P p o.op)
 |.seq a b=>Hl P p a&&Hl P p b
 |.cond _ a b=>Hl P p a&&Hl P p b
 |.block _ c=>Hl P p c
 |.loop c=>Hl P p c
 |.scope c=>Hl P p c
 |_=>ss
def Il (P:pG)(p:Gg):Item->Bool
 |.code c=>Hl P p c
 |.inBlock _=>sy
 |.inLoop c=>Hl P p c
 |.inScope c=>Hl P p c
 |.inRegion ops _=>ops.all (λo=>lK P p o.op)
 |_=>ss
def Eb (P:pG)(p:Gg)(H:Nat ->Prop):=∀f,p.c f=sy ->∃fn,P.funcs[f]? = A fn/\(fn.name== "runtime.NumGoroutine")=ss/\
 ((∃c,fn.body=A c/\Hl P p c=sy)\/(fn.body=sA/\Extern.findNext fn=sA/\∃x,Extern.find fn=A x/\Ma P H x)\/∀a,Gm P (vi f a))
def Eb.g{p}(h:Eb P p H):nj P H p.c:=λf I c U=>by
 let⟨c,G,V,E⟩:=h f I;rw[U]at G;cases G
 refine⟨V,?_⟩;obtain⟨c,E,-⟩|⟨-,Y,x,Z,O⟩|E:=E
 exact .inl (E▸rfl)
 exact .inr (.inl ⟨Y,x,Z,O⟩)
 exact .inr (.inr E)
def M8 (P:pG)(p:Gg):Next->Prop
 |.enter g args=>p.c g=sy/\(∃fn c,P.funcs[g]? = A fn/\fn.body=A c)
 |.value _=>True
 |.skip=>True
 |_=>False
def Í{s}{f:α->xZ β}{b}(h:(s >>= f).run P w=.ok b w'):∃a w1,s.run P w=.ok a w1/\(f a).run P w1=.ok b w':=by
 rw[ő]at h;cases E:s.run P w with
 |halt x y=>rw[E]at h;cases h
 |ok a w1=>rw[E]at h;exact⟨a,w1,J,h⟩
def Ls{p}(aa:Eb P p H){f:fI}{a:Array Vl}{n}(U:p.c f=sy)(h:(vi f a).run P w=.ok n w'):M8 P p n:=by
 obtain⟨z,O,V,⟨c,E,-⟩|⟨E,I,x,Z,-⟩|E⟩:=aa f U
 .
  unfold vi at h;let⟨Y,X,G,h⟩:=Í h;cases G
  rw[O]at h;dsimp only at h
  rw[V,E]at h;cases h
  exact⟨U,z,c,O,E⟩
 .
  unfold vi at h;let⟨Y,X,G,h⟩:=Í h;cases G
  rw[O]at h;dsimp only at h
  rw[V,E]at h;simp only[Ĭ,ę,Option.isNone_none,ô]at h;obtain⟨_,c,-,h⟩:=Í h;rw[I,Z]at h;obtain⟨z,c,-,h⟩:=Í h;cases h
  trivial
 obtain⟨x,X,I,-⟩:=E a w;rw[I]at h;cases h
def Xy{G name}(U:Mw P G name=sy){n}{t:tI}{u:Vl}{z:fI×Vl}(h:(zb n t u name).run P w=.ok z w'):G z.1=true:=by
 cases n with
 |zero=>cases h
 |succ n=>
  unfold zb at h;let⟨i,f,E,h⟩:=Í h;let q:P.info? t=A i:=by
   unfold y9 at E;obtain⟨f,f,f,E⟩:=Í E;cases f
   cases O:P.info? t with
   |none=>rw[O]at E;cases E
   |some j=>rw[O]at E;cases E;rfl
  cases e:i.methods.find? (·.name==name)with
  |none=>rw[e]at h;cases h
  |some m=>
   rw[e]at h;dsimp only at h
   let j:∃f p,m.func=A (f,p)/\G f=true:=by
    obtain⟨k,V⟩|Y:=Rc q
    .
     have:=jo.1 U i (ŵ V);rw[e]at this;dsimp only at this
     rw[Ŝ]at this;cases I:m.func with
     |none=>rw[I]at this;cases this.2
     |some q=>rw[I]at this;exact⟨q.1,q.2,J,this.2⟩
    rw[Y]at e;cases e
   let⟨f,q,Z,e⟩:=j;obtain⟨y,f,-,h⟩:=Í h;rw[Z]at h;obtain⟨f,f,-,h⟩:=Í h;cases h
   exact e
def ou{p}(G:Eb P p H)(Y:∀g,e (.func g)=.func (.func g) #[] #[]){c}(E:vP P p c=sy)(t:tI):AB P H (resolve e c t >>= λd=>GB d.target d.args)/\∀w n w',(resolve e c t >>= λd=>GB d.target d.args).run P w=.ok n w'->M8 P p n:=by
 let⟨callee,args,b⟩:=c;let val:∀s:xZ Vl,AB P H s ->AB P H (s >>= λx=>tT (E4 x))/\∀w n w',(s >>= λx=>tT (E4 x)).run P w=.ok n w' ->M8 P p n:=λs b=>⟨Aa b λ_=>Ab _,λw n w' h=>by
  obtain⟨z,b,-,h⟩:=Í h;cases h
  trivial⟩
 cases callee with
 |invoke x name=>
  let O:∀(z:Vl)(l:Array Vl),(#[z]++l)[0]? = A z:=λz l=>by simp[ml]
  let U:∀(z:Vl)(l:Array Vl),(#[z]++l).extract 1 (#[z]++l).size=l:=λz l=>sm
  show AB P H (GB (.fn (.method name) #[]) (#[e x]++args.map e))/\∀w n w',(GB (.fn (.method name) #[]) (#[e x]++args.map e)).run P w=.ok n w'->M8 P p n
  unfold GB;dsimp only
  rw[O];dsimp only
  rw[U];unfold callMethod;cases e x<;>first|exact⟨Af _,λw n w' h=>nf h⟩|skip
  case nilIface=>exact⟨Ch _,λw n w' h=>by
   obtain⟨x,b,Z,-⟩:=Bu (α:=Next) (P:=P) .nilDeref w;rw[Z]at h;cases h⟩
  case iface b u=>
   refine⟨BH (MC (Sw _ _ _ _) λz I=>?_),λw n w' h=>?_⟩
   let⟨b,f,I⟩:=I;exact LC G.g (Xy E I) _
   obtain⟨b,b,b,h⟩:=Í h;let⟨z,f,V,h⟩:=Í h;exact Ls G (Xy E V) h
 |builtin b=>
  cases b<;>first|(cases E;done)|skip
  case len=>exact val _ ((by
    unfold E1;split
    .
     refine Aa (mz) λd=>?_
     split
     all_goals first|exact Ab _|exact Af _|skip
     exact mz
     .
      refine Lf (λo=>?_) (λ_ _=>J) λ_ _ _=>J
      split
      exact mz
      exact mz
     refine Lf (λo=>?_) (λ_ _=>J) λ_ _ _=>J
     split
     exact mz
     exact mz
    exact mz))
  case min=>exact val _ ((by
    unfold Builtin.min_;split
    exact mz
    exact Oe rG _ _))
  case append=>exact val _ (bQ E t _)
 |value f=>
  unfold vP at E;dsimp only at E
  cases f<;>first|(cases E;done)|skip
  unfold resolve;dsimp only
  rw[Y];exact⟨LC G.g E _,λw n w' h=>Ls G E h⟩
def F4:∀(l)(t:tI)(x:Option Vl),AB P H (followBlind l t x)
 |[],_,_=>Ab _
 |s::l,t,x=>by
  unfold followBlind;refine Aa (AP _) λd=>?_
  split
  .
   split
   .
    split
    exact mz
    exact F4 l _ _
    exact mz
    exact mz
    exact Aa (mz) λ_=>F4 l _ _
    exact mz
    exact F4 l _ _
   exact mz
  exact mz
def OZ:∀(n)(t:tI)(x:Vl)(m),AB P H (nilAhead n t x m)
 |0,_,_,_=>Ab _
 |n+1,t,x,m=>by
  refine Aa (mz) λi=>?_
  split
  .
   refine Aa (F4 _ _ _) λz=>?_
   split
   exact mz
   split
   exact OZ n _ _ _
   exact mz
   exact mz
   exact mz
   exact mz
   refine Aa (mz) λd=>?_
   split<;>exact mz
  exact mz
def Xk{p}(u:Vl):AB P H (match u with
  |.pointer sA|.nilIface|.nilFunc=>ym .nilDeref
  |.func (.method name) first E=>
   match (first[0]? :Option Vl)with
   |some .nilIface=>ym .nilDeref
   |some (.iface t w)=>do
    if (<-nilAhead ((<-program).types.size+Made.depth) t w name)!=A ss then
     wz (.noEntry "op/nilCheck.the method's receiver behind this interface value is a nil pointer, or cannot be seen to be none, and the arguments act or may panic (ledger 612)")
    tT (.value (.func (.method name) first E))
   |_=>tT (.value (.func (.method name) first E))
  |x=>tT (.value x):xZ Next)/\∀w n w',(match u with
  |.pointer sA|.nilIface|.nilFunc=>ym .nilDeref
  |.func (.method name) first E=>
   match (first[0]? :Option Vl)with
   |some .nilIface=>ym .nilDeref
   |some (.iface t w)=>do
    if (<-nilAhead ((<-program).types.size+Made.depth) t w name)!=A ss then
     wz (.noEntry "op/nilCheck.the method's receiver behind this interface value is a nil pointer, or cannot be seen to be none, and the arguments act or may panic (ledger 612)")
    tT (.value (.func (.method name) first E))
   |_=>tT (.value (.func (.method name) first E))
  |x=>tT (.value x):Sem Next).run P w=.ok n w' ->M8 P p n:=by
 let G:∀(w:M)(n:Next)(w':M),(ym .nilDeref:xZ Next).run P w=.ok n w'->M8 P p n:=λw n w' h=>by
  obtain⟨x,z,O,-⟩:=Bu (α:=Next) (P:=P) .nilDeref w;rw[O]at h;cases h
 split
 exact⟨Ch _,G⟩
 exact⟨Ch _,G⟩
 exact⟨Ch _,G⟩
 .
  split
  exact⟨Ch _,G⟩
  .
   refine⟨BH (Aa (OZ _ _ _ _) λ_=>Aw (Aa (Bb _) λ_=>Ab _) (Ab _)),λw n w' h=>?_⟩;let⟨V,z,U,h⟩:=Í h;obtain⟨z,h,Y,h⟩:=Í h;dsimp only at h
   split at h
   obtain⟨z,h,I,h⟩:=Í h;cases I
   cases h
   trivial
  exact⟨Ab _,λw n w' h=>by cases h;trivial⟩
 exact⟨mz,λw n w' h=>by cases h;trivial⟩
def Xp{p}(Y:Eb P p H)(U:∀g,e (.func g)=.func (.func g) #[] #[]){o}(G:lK P p o.op=sy):AB P H (vf e o)/\∀w n w',(vf e o).run P w=.ok n w'->M8 P p n:=by
 let E:∀{s:xZ Vl},AB P H s ->AB P H (s >>= λx=>tT (E4 x))/\∀w n w',(s >>= λx=>tT (E4 x)).run P w=.ok n w' ->M8 P p n:=λI=>⟨Aa I λ_=>Ab _,λw n w' h=>by
  obtain⟨z,w1,-,h⟩:=Í h;cases h
  trivial⟩
 let O:∀{s:xZ Unit},AB P H s ->AB P H (s >>= λ_=>tT Next.skip)/\∀w n w',(s >>= λ_=>tT Next.skip).run P w=.ok n w' ->M8 P p n:=λI=>⟨Aa I λ_=>Ab _,λw n w' h=>by
  obtain⟨z,w1,-,h⟩:=Í h;cases h
  trivial⟩
 unfold vf;dsimp only
 cases V:o.op<;>rw[V]at G<;>simp[lK]at G<;>first|cases G;done|skip
 case move x=>exact⟨Ab _,λw n w' h=>by cases h;trivial⟩
 case assign x=>exact⟨Ab _,λw n w' h=>by cases h;trivial⟩
 case pick c a b=>exact⟨Aa (La _) λ_=>Ab _,λw n w' h=>by
  obtain⟨z,w1,-,h⟩:=Í h;cases h
  trivial⟩
 case alloc t=>exact E ((by
   unfold Instr.alloc;exact mz))
 case box t x=>exact E ((Aa (mz) λ_=>mz))
 case build t parts=>exact E ((by
   refine Aa (mz) λz=>Aa (mz) λd=>?_
   split
   .
    refine Aa (X0 (λf=>Aa (mz) λ_=>mz) _) λp=>?_
    split
    exact mz
    exact mz
   exact mz
   exact mz))
 case buildSlice t l parts=>exact E (TD t l _)
 case load t a=>exact E (bO t _)
 case store t a x=>exact O (YI t _ _)
 case binOp op t x y t'=>exact E (Aa ((by
   apply Aw (mz)
   split
   exact Aw (mz) (Aa (Ij _ _ _ _) λ_=>Aw (Bb _) (mz))
   exact BH (BH (Aw (mz) (Aa (Ij _ _ _ _) λ_=>Aw (Bb _) (mz))))
   exact mz)) λ_=>kw _ _ _ _)
 case unOp op t x=>exact E ((by
   unfold Op.unary;split
   all_goals first
    |exact Ab _
    |exact Bb _
    |exact mz
    |exact mz))
 case makeInterface t x=>exact E ((by
   unfold Instr.makeInterface;exact mz))
 case makeFunc a a cs=>exact E (Ab _)
 case makeSlice t l c=>exact E ((by
   unfold Instr.makeSlice;exact mz))
 case makeChan t x=>exact E ((by
   unfold Instr.makeChan;refine Aa (MW _) λn=>Aa (AP t) λd=>?_
   split
   .
    rename_i elem
    refine Aa (Ce _) λi=>?_
    let tail:AB P H (do tT (.chan (A (<-newObj (.chan n.toNat #[] ss 0 0 ss)))):xZ Vl):=Aa Ou λ_=>mz
    split
    exact Aa (mz) λ_=>tail
    exact tail
   exact mz))
 case slice t x a a a=>exact E (YP _ _ _ _ _)
 case fieldAddr s x k=>exact E ((by
   unfold Instr.fieldAt;exact mz))
 case indexAddr t x i=>exact E (YH _ _ _)
 case typeAssert x t u ok=>exact E ((by
   let fails:∀(a b:Option _)(m:String),AB P H (if ok then(do tT (.t #[<-AM u,.bool ss]))else ym (.typeAssertion a b u m):xZ Vl):=λa b m=>mz
   unfold Instr.typeAssert;exact mz))
 case extract x k=>exact E ((by
   unfold Instr.extract;exact mz))
 case call c=>exact ou Y U G _
 case panic x=>exact E (jF _)
 case nilCheck x=>exact Xk (e x)
end
open Go.Conc
section
variable {α β γ:Type}{P:tP}{H:Nat->Prop}{p:Gg}
def KR:Item:=.code (.refuse "")
structure Gl (P:pG)(p:Gg)(fr:vh):Prop where
 g:∃f0,P.funcs[fr.fn]? = A f0
 a:∃l q,fr.todo=l++q/\(q=[]\/q=[KR])/\∀x∈l,Il P p x=sy
 e:fr.defers=[]
 b:fr.mode=.run\/fr.mode=.returning
 d:fr.kind=.normal
 round:fr.roundOf=sA
def qO (fr:vh):=∃ops i rest k,fr.todo=.inRegion ops (i::rest)::k
structure pF (P:pG)(p:Gg)(f:vh)(cs:lF):Prop where
 top:Gl P p f
 h:∃cs0,cs=cs0++[ö]/\∀g∈cs0,Gl P p g/\qO g
def Ű (k:lM)(l:lM):lM:=if (match l.getLast? with|some (.code (.refuse _))=>sy|_=>ss)then l.dropLast++k else l
def ĥ (k:lM)(f:vh):={f with todo:=Ű k f.todo}
def Į (k:lM)(c:lF)(cs:lF):lF:=cs.flatMap λg=>if g.defers.isEmpty then[ĥ k g]else c
def qw{x}(h:Il P p x=sy) m:x≠.code (.refuse m):=λe=>by
 subst e;cases h
def ah{k l}(h:∀x∈l,Il P p x=sy):Ű k l=l:=by
 unfold Ű;rw[Ä];cases G:l.getLast? with
 |none=>simp
 |some x=>
  have:=h x (List.mem_of_getLast? G);intro E;split at E
  .
   rename_i e
   cases e
   exact qw this _ J
  cases E
def ZZ k l:Ű k (l++[KR])=l++k:=by
 unfold Ű;simp[KR]
def Yy (k q:lM)(G:q=[]\/q=[KR]):∃E,∀l,(∀x∈l,Il P p x=sy)->Ű k (l++q)=l++E:=by
 obtain rfl|rfl:=G
 exact⟨[],λl h=>rj ζ (ah h)⟩
 exact⟨k,λl _=>ZZ k l⟩
def Ur{id}:∀(l k:lM),(∃G,BY id l=A G/\BY id (l++k)=A (G++k))\/BY id (l++k)=BY id k
 |[],k=>.inr J
 |x::l,k=>by
  let E:=Ur (id:=id) l k;cases x<;>simp[BY]<;>first|exact E|skip
  split
  exact .inl ⟨l,J,J⟩
  exact E
def Rt{id}:∀{l E:lM}{k:lM},BY id l=A E->BY id (l++k)=A (E++k)
 |[],_,_,h=>nf h
 |x::l,E,k,h=>by
  cases x<;>simp[BY,ς]at h⊢<;>first|exact Rt h|skip
  split at h
  simp_all
  rename_i e
  rw[Ä e];exact Rt h
def Gl.to{f}(h:Gl P p f)(l q:lM)(G:q=[]\/q=[KR])(E:∀y∈l,Il P p y=sy):Gl P p {f with todo:=l++q}:={h with a:=⟨l,q,J,G,E⟩}
def Gl.ret{f}(h:Gl P p f):Gl P p {f with mode:=.returning}:={h with b:=.inr J}
def Gl.h{f}(h:Gl P p f)(V:¬(f.mode=.run/\f.todo=[KR])):J7 P f:=by
 refine⟨h.g,λO x E=>?_,h.e,h.b,h.d,h.round⟩;let⟨l,q,G,U,I⟩:=h.a;cases l with
 |nil=>
  simp_all
 |cons y l=>
  rw[G]at E;cases E
  have:=I x (ï ..);cases x<;>simp[Il]at this<;>first|rfl|(cases this)|skip
  rename_i c
  cases c<;>simp[Hl]at this<;>first|rfl|cases this
def U3 k{f}(h:Gl P p f){ops:aO}{i}{rest:lN}{Y:lM}(E:f.todo=.inRegion ops (i::rest)::Y)(v:Vl):(ĥ k f).finish v=ĥ k (f.finish v)/\Gl P p (f.finish v):=by
 let⟨l,q,I,O,V⟩:=h.a;let⟨X,Z⟩:=Yy (P:=P) (p:=p) k q O;cases l with
 |nil=>
  obtain rfl|rfl:=O
  rw[I]at E;cases E
  rw[I]at E;cases E
 |cons x l=>
  rw[E]at I;simp[ς,List.cons.injEq]at I;obtain⟨rfl,rfl⟩:=I;let x:∀y∈l,Il P p y=true:=λy G=>V y (Ĥ _ G)
  let U:∀(r:lN) y,y∈Item.inRegion ops r::l->Il P p y=true:=λr y G=>by
   obtain rfl|G:=sV.1 G
   exact(V (.inRegion ops (i::rest)) (ï ..):_)
   exact x y G
  let x:∀r,Ű k (.inRegion ops r::(l++q))=.inRegion ops r::(l++X):=λr=>Z (.inRegion ops r::l) (U r)
  refine⟨?_,?_⟩
  simp[B5,ĥ,E,x]
  let r:=h.a;simp[B5,E];exact⟨h.g,⟨.inRegion ops rest::l,q,J,O,U rest⟩,h.e,h.b,h.d,h.round⟩
def yS (ab:Eb P p H){g:fI}{args:Array Vl}(h:M8 P p (.enter g args)) k:Gl P p (tR P g args .normal)/\ĥ k (tR P g args .normal)=tR P g args .normal:=by
 let⟨Z,X,c,I,V⟩:=h;obtain⟨x,O,-,⟨x,G,W⟩|⟨G,-⟩|G⟩:=ab g Z
 .
  rw[I]at O;cases O
  rw[V]at G;cases G
  let U:(tR P g args .normal).todo=[.code c]:=by simp[tR,I,V]
  let Y:∀x∈[Item.code c],Il P p x=true:=λx E=>by
   rw[Đ.1 E];exact W
  refine⟨⟨⟨X,I⟩,⟨[.code c],[],U▸rfl,.inl J,Y⟩,J,.inl J,J,J⟩,?_⟩;unfold ĥ;rw[U,ah Y,<-U]
 rw[I]at O;simp_all
 obtain⟨x,c,E,-⟩:=G #[] default;unfold vi at E;simp[Sem.run,I,V]at E
 split at E<;>cases E
def Tp (P:pG)(H:Nat->Prop)(G:α->Prop)(E:α->β)(s:xZ α)(s':xZ β):=∀v w,DY H v w->(∃h v',s.run P v=.halt h v'/\JQ h)\/∃a v' w' u,s.run P v=.ok a v'/\G a/\s'.run P w=.ok (E a) w'/\DY H v' w'/\ć H w w'/\
 (∀es,s'.events P w es=es++u)/\(∀e∈u,Qx H w'.heap.size e)/\OV P s v a v'
def Ki{G}{E:α->β}{a b}(O:G a)(U:E a=b):Tp P H G E (tT a) (tT b):=λv w I=>
 .inr ⟨a,v,w,#[],J,O,U▸rfl,I,ć.I ..,λv=>sm,sm,J,lr,λ_ _=>J⟩
def Ud{G}{E:α->β}{s s'}(h:Gm P s):Tp P H G E s s':=λv _ _=>.inl (h v)
def Qc{aa}{Y:β->γ}{s:xZ α}{f f'}(h:AB P H s)(k:∀a,(∃w w',s.run P w=.ok a w')->Tp P H aa Y (f a) (f' a)):Tp P H aa Y (s >>= f) (s >>= f'):=λv w b=>by
 obtain⟨x,I,G,E⟩|⟨a,I,r9,se,U,G,T,F,B,r7,W⟩:=h v w b
 exact .inl ⟨x,I,oy G,E⟩
 obtain⟨x,V,O,E⟩|⟨b,V,L,sd,D,X,O,K,Z,Q,S,R⟩:=k a ⟨v,I,U⟩ I r9 T
 exact .inl ⟨x,V,by simp[U,O],E⟩
 refine .inr ⟨b,V,L,se++sd,by simp[U,D],X,by simp[G,O],K,F.G Z,λb=>by simp[G,B,Q],λx E=>?_,W.d R⟩;obtain E|E:=ο.1 E
 exact(r7 x E).l Z.h
 exact S x E
def Ms fn(a:Array Vl):AB P H (results fn a):=by
 refine Aa (X0 (λx=>?_) _) λl=>?_
 .
  cases x with
  |tmp t=>exact mz
  |cell c t=>exact mz
 split<;>exact mz
def dJ{k c g}(h:g.defers=[])(cs:lF):Į k c (g::cs)=ĥ k g::Į k c cs:=by simp[Į,h]
def cZ (hF:Eb P p H)(k:List Item)(c:List vh){f}{cs:List vh}(h:pF P p f cs)(hn:¬(f.mode=.returning/\cs=[ö]))(hp:¬(f.mode=.run/\f.todo=[KR])):Tp P H (λx:vh×List vh=>pF P p x.1 x.2) (λx=>(ĥ k x.1,Į k c x.2)) (own P f cs) (own P (ĥ k f) (Į k c cs)):=by
 let⟨ht,hst⟩:=h;let⟨l,q,a,r,h3⟩:=ht.a;let⟨sq,hsq⟩:=Yy (P:=P) (p:=p) k q r;let⟨fn,tmps,todo,defers,mode,kind,ro⟩:=f;dsimp only at a h3 hn hp
 subst a;let hsw:∀l' m,(∀y∈l',Il P p y=sy)->ĥ k ⟨fn,tmps,l'++q,defers,m,kind,ro⟩=⟨fn,tmps,l'++sq,defers,m,kind,ro⟩:=λl' m h=>by simp[ĥ];rw[hsq l' h]
 rw[hsw l mode h3];let go:∀l',(∀y∈l',Il P p y=sy)->Tp P H (λx:vh×List vh=>pF P p x.1 x.2) (λx=>(ĥ k x.1,Į k c x.2)) (tT (⟨fn,tmps,l'++q,defers,mode,kind,ro⟩,cs)) (tT (⟨fn,tmps,l'++sq,defers,mode,kind,ro⟩,Į k c cs)):=λl' hl'=>
  Ki ⟨ht.to l' q r hl',hst⟩ (hsw l' mode hl'▸rfl)
 let ret:Tp P H (λx:vh×List vh=>pF P p x.1 x.2) (λx=>(ĥ k x.1,Į k c x.2)) (tT (⟨fn,tmps,l++q,defers,.returning,kind,ro⟩,cs)) (tT (⟨fn,tmps,l++sq,defers,.returning,kind,ro⟩,Į k c cs)):=
  Ki ⟨ht.ret,hst⟩ (hsw l .returning h3▸rfl)
 obtain T|T:=ht.b
 .
  dsimp only at T
  subst T;unfold own;dsimp only
  cases l with
  |nil=>
   obtain rfl|rfl:=r
   .
    have:sq=[]:=by
     have:=hsq [] sm;simpa[Ű]using this.symm
    subst this;exact ret
   cases hp ⟨J,J⟩
  |cons a l=>
   let h0:=h3 a (ï ..);let hl:∀y∈l,Il P p y=true:=λy hy=>h3 y (Ĥ _ hy)
   let one:∀x,Il P p x=sy->∀y∈x::l,Il P p y=true:=λx hx y hy=>by
    obtain rfl|hy:=sV.1 hy
    exact hx
    exact hl y hy
   let two:∀x x',Il P p x=sy->Il P p x'=sy->∀y∈x::x'::l,Il P p y=true:=λx x' hx hx' y hy=>by
    obtain rfl|hy:=sV.1 hy
    exact hx
    exact one x' hx' y hy
   simp[ς];cases a<;>first|(cases h0;done)|skip
   case code a=>
    cases a<;>first|(cases h0;done)|skip
    case skip=>exact go l hl
    case label=>exact go l hl
    case ret=>exact ret
    case seq a b=>
     simp[Il,Hl,Ŝ]at h0;exact go (.code a::.code b::l) (two _ _ h0.1 h0.2)
    case cond x a b=>
     simp[Il,Hl,Ŝ]at h0;dsimp only
     let evl:wI ⟨fn,tmps,.code (.cond x a b)::(l++sq),defers,.run,kind,ro⟩ x=wI ⟨fn,tmps,.code (.cond x a b)::(l++q),defers,.run,kind,ro⟩ x:=by cases x<;>rfl
     rw[evl];cases wI ⟨fn,tmps,.code (.cond x a b)::(l++q),defers,.run,kind,ro⟩ x<;>first|exact Ud (AV (h:=.stuck _) sk)|skip
     rename_i t
     refine go (.code (if t then a else b)::l) (one _ ?_);cases t
     exact h0.2
     exact h0.1
    case block id a=>exact go (.code a::.inBlock id::l) (two _ _ h0 J)
    case loop a=>exact go (.code a::.inLoop a::l) (two _ _ h0 h0)
    case scope a=>exact go (.code a::.inScope a::l) (two _ _ h0 h0)
    case exit id=>
     dsimp only
     obtain⟨l',e1,e2⟩|e2:=Ur (id:=id) l q
     rw[e2,Rt e1];exact go l' (MH e1 hl)
     rw[e2];have:BY id q=none:=by
      obtain rfl|rfl:=r<;>rfl
     rw[this];exact Ud (AV (h:=.stuck _) sk)
    case region id ops draw=>
     dsimp only
     cases draw with
     |false=>exact go (.inRegion ops (List.range ops.size)::l) (one (.inRegion ops _) h0)
     |true=>
      simp[mA,Ĭ,ę];refine Qc (DZ _) λt _=>?_
      exact go (.inRegion ops _::l) (one (.inRegion ops _) h0)
   case inBlock=>exact go l hl
   case inLoop a=>exact go (.code a::.inLoop a::l) (two _ _ h0 h0)
   case inScope a=>exact go l hl
   case inRegion ops r=>
    cases r with
    |nil=>exact go l hl
    |cons i rest=>
     dsimp only
     let evl:wI ⟨fn,tmps,.inRegion ops (i::rest)::(l++sq),defers,.run,kind,ro⟩=wI ⟨fn,tmps,.inRegion ops (i::rest)::(l++q),defers,.run,kind,ro⟩:=by funext x;cases x<;>rfl
     rw[evl];let hfin:∀x,Tp P H (λx:vh×List vh=>pF P p x.1 x.2) (λx=>(ĥ k x.1,Į k c x.2)) (tT (B5 ⟨fn,tmps,.inRegion ops (i::rest)::(l++q),defers,.run,kind,ro⟩ x,cs)) (tT (B5 ⟨fn,tmps,.inRegion ops (i::rest)::(l++sq),defers,.run,kind,ro⟩ x,Į k c cs)):=λx=>by
      let⟨k1,g⟩:=U3 k ht J x;let e1:=hsw (.inRegion ops (i::rest)::l) .run h3;simp[ς]at e1 k1;rw[e1]at k1;exact Ki ⟨g,hst⟩ (k1▸rfl)
     cases ho:ops[i]? with
     |none=>exact hfin undef
     |some o=>
      dsimp only
      let hmo:=Xp hF (e:=wI ⟨fn,tmps,.inRegion ops (i::rest)::(l++q),defers,.run,kind,ro⟩) (λg=>J) (jo.1 h0 o (ŵ ho));split
      .
       refine Qc hmo.1 λn⟨o,b,hn⟩=>?_
       let k1:=hmo.2 o n b hn;cases n<;>first|exact k1.elim|exact hfin _|skip
       case enter g args=>
        let⟨n,m⟩:=yS hF k1 k;let⟨cs0,a,e⟩:=hst;refine Ki ⟨n,_::cs0,oB a,λx hx=>?_⟩ ?_
        .
         obtain rfl|hx:=sV.1 hx
         exact⟨ht,ops,i,rest,l++q,J⟩
         exact e x hx
        dsimp only
        let e1:=hsw (.inRegion ops (i::rest)::l) .run h3;simp[ς]at e1;let e2:=dJ (k:=k) (c:=c) (g:=⟨fn,tmps,.inRegion ops (i::rest)::(l++q),defers,.run,kind,ro⟩) ht.e cs;rw[m,e2,e1]
      exact hfin undef
 dsimp only at T
 subst T;let⟨cs0,a,e⟩:=hst;cases cs0 with
 |nil=>cases hn ⟨J,a⟩
 |cons g cs0=>
  subst a;let b:=e g (ï ..);unfold own;rw[ς,dJ b.1.e];dsimp only
  let⟨a,hf0⟩:=ht.g;dsimp only at hf0
  rw[hf0];dsimp only
  refine Qc (Ms _ _) λx _=>?_
  let⟨ops,i,rest,k1,o⟩:=b.2;let⟨n,m⟩:=U3 k b.1 o x;exact Ki ⟨m,cs0,J,λy hy=>e y (Ĥ _ hy)⟩ (n▸rfl)
end
end Go.Proofs.YtaoikkhlnhfkfaaGreatDoor
