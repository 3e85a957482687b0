import Derived.Test.YtaoikkhlnhfkfaaGreatDoorU00
import Derived.Test.YtaoikkhlnhfkfaaGreatDoorU28
set_option maxHeartbeats 16000000
set_option maxRecDepth 100000
set_option linter.defProp false
set_option linter.unusedSimpArgs false
set_option linter.unusedVariables false
namespace Go.Proofs.YtaoikkhlnhfkfaaGreatDoor
open Go renaming Program->tP,Frame->vh,Goroutine->th,run_convert_to_unsafe->B0,stepG->tt,Func->zJ
open Bool renaming true->sy,false->ss
open ConcN renaming WgLive->tA
open Conc renaming base->Kx,stepG_mark0->B7,events_convert_to_unsafe->AH,stepG_markAt->A6,stepG_load_atomic->EJ,stepG_ret'->DO,stepG_cond->vm,stepG_skip->L0,stepG_region->yd
open ConcR.Gen renaming x_disable_n->KB,x_disable_b->KC,x_disable_x->KE,x_disable_f->KX,L7->Bs,x_loadU64_n->KY,x_loadU64_b->K0,x_loadU64_x->K1,x_loadU64_f->K2
open IntKind renaming u64->Ge,wrap_u64->HF,i32->LI,wrap_i32->HU,i64->ua
open ConcN.Gen.WgLive renaming cell1->we,cell0->AK
open Act renaming eval->A'
open Proofs.Tryz renaming prog->sr,f31->vS,f18->v8,link->tG,wgLib->CC
open Go.Conc Go.RowKit Go.Conc.Lib Go.ConcR.Gen
open Go.ConcN (WgLive st_flag st_waiters)
open Go.ConcR (KK WgAt stA smA rd wr mk)
section
variable {P:tP}{L:WgLink}{Wg:Nat}{b₀:vh}{a₀:Act}{ops₀:Array Oper}{i₀:Nat}{rest₀:List Nat}{k₀:List Item}{cs:List vh}
variable {child:th}{Nx:th->Prop}
def o9{q:Prop}(h:q:=by
 iterate 3 refine Á.k ?_
 refine Á.r ?_
 iterate 2 (refine Á.v ?_;walk_nrm)
 refine Á.k ?_
 refine Á.f ?_
 iterate 3 refine Á.k ?_
 refine Á.r ?_
 iterate 3 (refine Á.v ?_;walk_nrm)
 iterate 2 (refine Á.skip rfl rfl ?_;walk_nrm)
 iterate 2 (refine Á.v ?_;walk_nrm)
 iterate 4 (refine Á.skip rfl rfl ?_;walk_nrm)
 refine Á.v ?_
 walk_nrm
 refine Á.k ?_
 refine Á.f ?_
 iterate 3 refine Á.k ?_
 refine Á.r ?_
 iterate 3 (refine Á.v ?_;walk_nrm)
 iterate 2 (refine Á.skip rfl rfl ?_;walk_nrm)
 refine Á.v ?_
 walk_nrm
 refine Á.k ?_
 refine Á.t ?_
 refine Á.k ?_
 refine Á.q ⟨rfl,_,λ_ _=>stepG_unwind_entry (v:=.t #[]) (evs:=#[mk .enable]) rfl H.f_enable (x_enable_n L) (x_enable_b L) (x_enable_x L) (x_enable_f L) (by simp[Extern.Race.none_]) (by simp[mk]) (by simp[mk]),?_⟩;show Á P true (WgLive L.tWg Wg) (Ļ Wg) _ _
 refine Á.leave0 rfl rfl H.f_add rfl ?_
 exact Y):q:=h
def uY (H:WgLib P L)(Y:Á P sy (tA L.tWg Wg) (Ļ Wg) (vZ P L.tWg Wg child Nx) (G (b₀.at (a₀.put ((ops₀[i₀]?).bind (·.dst)) (.t #[])) (.inRegion ops₀ rest₀::k₀)) cs)):Á P sy (tA L.tWg Wg) (Ļ Wg) (bX P L.tWg Wg child Nx) (G ((Kx L.add).at ⟨#[.pp Wg 0,.q 1,uu,uu,uu,uu,uu,uu,uu,uu,uu,uu,uu,uu,uu,uu,uu,uu,uu,uu,uu,uu,uu,uu,uu,uu,uu,uu,uu,uu,uu,uu,uu,uu,uu,uu,uu,uu,uu,uu,uu,uu,uu,uu,uu,uu,uu,uu,uu,uu,uu,uu,uu,uu,uu,uu,uu,uu,uu,uu,uu,uu,uu,uu,uu,uu,uu,uu,uu,uu,uu,uu,uu,uu,uu,uu,uu,uu,uu,uu,uu,uu,uu,uu,uu,uu,uu,uu,uu,uu,uu,uu,uu,uu,uu,uu,uu,uu,uu,uu,uu,uu,uu,uu,uu,uu,uu,uu,uu,uu,uu,uu,uu,uu,uu,uu,uu],[]⟩ [.code (body_add L)]) (b₀.at a₀ (.inRegion ops₀ (i₀::rest₀)::k₀)::cs)):=by
 lib_facts
 simp only[body_add,addFn,é];refine Á.k ?_
 refine Á.t ?_
 iterate 2 refine Á.k ?_
 refine Á.r ?_
 iterate 2 (refine Á.v ?_;walk_nrm)
 refine Á.k ?_
 refine Á.f ?_
 iterate 2 refine Á.k ?_
 refine Á.r ?_
 refine Á.q ⟨J,_,λ_ _=>B7 .disable sm J J (by k_ne) J H.f_disable (KB L) (KC L) (KE L) (KX L),?_⟩
 walk_nrm
 show Á P sy (tA L.tWg Wg) (Ļ Wg) _ _
 refine Á.k ?_
 refine Á.r ?_
 (refine Á.c J (λ_=>stepG_defer J J (by k_ne) J) ?_;walk_nrm)
 iterate 2 refine Á.k ?_
 refine Á.r ?_
 refine Á.v ?_
 walk_nrm
 iterate 3 refine Á.k ?_
 refine Á.r ?_
 (refine Á.c J (λ_=>stepG_entry_pure (.bool ss) J J (by k_ne) J H.f_inBubble (x_inBubble_n L) (x_inBubble_b L) (x_inBubble_x L) (x_inBubble_f L)) ?_;walk_nrm)
 refine Á.k ?_
 refine Á.f ?_
 iterate 2 refine Á.k ?_
 refine Á.r ?_
 iterate 6 (refine Á.v ?_;walk_nrm)
 refine Á.call J J (by k_ne) J H.f_uAdd (nm_uAdd L) J ?_
 walk_nrmf uAddFn
 refine Á.k ?_
 refine Á.r ?_
 refine Á.v ?_
 walk_nrm
 iterate 2 refine Á.k ?_
 refine Á.r ?_
 iterate 4 (refine Á.v ?_;walk_nrm)
 refine Á.q ⟨J,λw v e I=>?_⟩;obtain rfl|ax:=Ģ v
 .
  replace I:WgAt L.tWg Wg w 0 0:=by simpa using I
  have z:(((0:Nat):Int)+1)*KK=KK:=sm;rw[z];have aa:Ge.wrap (0+4294967296)=KK:=dc;refine⟨_,(stepG_add_atomic J J (by k_ne) J H.f_addU64 (x_addU64_n L) (x_addU64_b L) (x_addU64_x L) .u64 (x_addU64_f L) J J I.cellSt (I.thaw 0)).trans (by rw[aa];rfl),?_⟩;clear I;simp only[KK]
  walk_nrm
  show Á P sy (tA L.tWg Wg) (Ļ Wg) _ _
  refine Á.v ?_
  walk_nrm
  iterate 2 refine Á.k ?_
  (refine Á.d J J H.f_uAdd J ?_;walk_nrm)
  refine Á.v ?_
  walk_nrm
  iterate 3 refine Á.k ?_
  refine Á.r ?_
  iterate 4 (refine Á.v ?_;walk_nrm)
  iterate 2 (refine Á.skip J J ?_;walk_nrm)
  refine Á.v ?_
  walk_nrm
  refine Á.k ?_
  refine Á.f ?_
  iterate 2 refine Á.k ?_
  refine Á.r ?_
  iterate 4 (refine Á.v ?_;walk_nrm)
  iterate 2 refine Á.k ?_
  refine Á.r ?_
  iterate 4 (refine Á.v ?_;walk_nrm)
  iterate 3 refine Á.k ?_
  refine Á.r ?_
  iterate 10 (refine Á.v ?_;walk_nrm)
  refine Á.k ?_
  refine Á.t ?_
  refine Á.r ?_
  iterate 3 (refine Á.v ?_;walk_nrm)
  refine Á.h (.pp Wg 1) J J (by k_ne) (λw I=>?_) (λw I=>?_) ?_
  . have e:=B0 (P:=P) H.underlying_tPU32 H.underlying_tUP H.room_tU32 (we I).choose_spec;go_simp
  .
   have e:=λes=>AH (P:=P) H.underlying_tPU32 H.underlying_tUP H.room_tU32 (we I).choose_spec es
   simp[go_sem, *]
  walk_nrm
  refine Á.j (es:=#[⟨.mark (.read (C Wg 1)),ss,sy⟩]) J (λe Z=>?_) (λ_ _=>A6 .read sm rfl rfl (by k_ne) rfl H.f_raceRead (x_raceRead_n L) (x_raceRead_b L) (x_raceRead_x L) (x_raceRead_f L) (ad:=(C Wg 1)) (by simp[A'])) ?_
  . rw[mn]at Z;exact .inr Z
  walk_nrm
  exact o9
 obtain⟨E,U⟩:∃E:Int,E=(v:Int)+1:=⟨_,J⟩
 obtain⟨S,O⟩:∃S:Int,S=E*KK:=⟨_,J⟩
 have V:Ge.wrap ((v:Int)*KK+4294967296)=S:=by rw[HF,O,U];simp only[KK];omega
 rw[<-U,<-O];have e:S/4294967296=E:=by rw[O];simp only[KK];omega
 have ab:bits .and .u64 S 2147483648=0:=by rw[O,U];have:=st_flag (v+1) 0 N N;simpa[KK]using this
 have ap:bits .and .u64 S 2147483647=0:=by rw[O,U];have:=st_waiters (v+1) 0 N N;simpa[KK]using this
 have am:LI.wrap E=E:=by rw[HU];omega
 have e:1<E:=N;have e:E<2147483648:=N;have e:(E==1)=false:=by simp;omega
 have aC:decide (E=1)=false:=ĕ N;have ak:decide (E<0)=false:=ĕ N;have e:decide (0<E)=true:=ď N;have al:(E==0)=false:=by simp;omega
 have e:decide (E=0)=false:=ĕ N;refine⟨_,(stepG_add_atomic J J (by k_ne) J H.f_addU64 (x_addU64_n L) (x_addU64_b L) (x_addU64_x L) .u64 (x_addU64_f L) J J I.cellSt (I.thaw 0)).trans (by rw[V];rfl),?_⟩;clear I O U V
 walk_nrm
 show Á P sy (tA L.tWg Wg) (Ļ Wg) _ _
 refine Á.v ?_
 walk_nrm
 iterate 2 refine Á.k ?_
 (refine Á.d J J H.f_uAdd J ?_;walk_nrm)
 refine Á.v ?_
 walk_nrm
 iterate 3 refine Á.k ?_
 refine Á.r ?_
 iterate 4 (refine Á.v ?_;walk_nrm)
 iterate 2 (refine Á.skip J J ?_;walk_nrm)
 refine Á.v ?_
 walk_nrm
 refine Á.k ?_
 refine Á.f ?_
 iterate 2 refine Á.k ?_
 refine Á.r ?_
 iterate 4 (refine Á.v ?_;walk_nrm)
 iterate 2 refine Á.k ?_
 refine Á.r ?_
 iterate 4 (refine Á.v ?_;walk_nrm)
 iterate 3 refine Á.k ?_
 refine Á.r ?_
 iterate 10 (refine Á.v ?_;walk_nrm)
 refine Á.k ?_
 refine Á.f ?_
 exact o9
end
open Go.ConcN (WgLive st_flag st_waiters)
open Go.ConcR (KK WgAt stA smA rd wr mk)
section
variable {P:tP}{L:WgLink}{Wg:Nat}{b₀:vh}{a₀:Act}{ops₀:Array Oper}{i₀:Nat}{rest₀:List Nat}{k₀:List Item}{cs:List vh}
def ŗ (L:WgLink)(Wg:Nat)(c:vh)(cs:lF)(g:gR):Prop:=
 ∃T:Array Vl,g=G ((Kx L.wait).at ⟨T,[]⟩ [.code (Bs L),.inLoop (Bs L),.inBlock 0]) (c::cs)/\T.size=84/\T[0]? = some (.pp Wg 0)
def lW (H:WgLib P L)(c:vh)(cs:lF):Á P sy (tA L.tWg Wg) (Ļ Wg) (mY P L.tWg Wg (ŗ L Wg c cs)) (G ((Kx L.wait).at ⟨#[.pp Wg 0,uu,uu,uu,uu,uu,uu,uu,uu,uu,uu,uu,uu,uu,uu,uu,uu,uu,uu,uu,uu,uu,uu,uu,uu,uu,uu,uu,uu,uu,uu,uu,uu,uu,uu,uu,uu,uu,uu,uu,uu,uu,uu,uu,uu,uu,uu,uu,uu,uu,uu,uu,uu,uu,uu,uu,uu,uu,uu,uu,uu,uu,uu,uu,uu,uu,uu,uu,uu,uu,uu,uu,uu,uu,uu,uu,uu,uu,uu,uu,uu,uu,uu,uu],[]⟩ [.code (body_wait L)]) (c::cs)):=by
 lib_facts
 simp only[body_wait,waitFn,é];refine Á.k ?_
 refine Á.t ?_
 refine Á.r ?_
 refine Á.q ⟨J,_,λ_ _=>B7 .disable sm J J (by k_ne) J H.f_disable (KB L) (KC L) (KE L) (KX L),?_⟩
 walk_nrm
 show Á P sy (tA L.tWg Wg) (Ļ Wg) _ _
 iterate 2 refine Á.k ?_
 refine Á.c J (λ_=>stepG_loop) ?_
 exact Á.q ⟨_,J,sm,sm⟩
end
open Go.ConcN (WgLive st_flag st_waiters)
open Go.ConcR (KK WgAt stA smA rd wr mk)
section
variable {P:tP}{L:WgLink}{Wg:Nat}{b₀:vh}{a₀:Act}{ops₀:Array Oper}{i₀:Nat}{rest₀:List Nat}{k₀:List Item}{cs:List vh}
def nl{q:Prop}(h:q:=by
 refine Á.k ?_
 (refine Á.c rfl (λ_=>stepG_cond (t:=false) (by first|rfl|(simp[Act.eval];omega))) ?_;simp only[ô,ę,Ĭ,↓reduceIte])
 refine Á.c rfl (λ_=>stepG_skip) ?_
 refine Á.c rfl (λ_=>stepG_ret') ?_
 refine Á.leave0 rfl rfl H.f_wait rfl ?_
 exact Á.q rfl):q:=h
def o4{q:Prop}(h:q:=by
 have Z:=λes=>events_convert_to_unsafe (P:=P) H.underlying_tWgP H.underlying_tUP H.room_tWg (Go.ConcN.Gen.WgLive.cell0 E).choose_spec es
 simp[go_sem, *]):q:=h
def oS{q:Prop}(h:q:=by
 have V:=run_convert_to_unsafe (P:=P) H.underlying_tWgP H.underlying_tUP H.room_tWg (Go.ConcN.Gen.WgLive.cell0 E).choose_spec;go_simp):q:=h
def kR (H:WgLib P L)(g:gR)(h:ŗ L Wg (b₀.at a₀ (.inRegion ops₀ (i₀::rest₀)::k₀)) cs g):Á P sy (tA L.tWg Wg) (Ļ Wg) (eU P L.tWg Wg (ŗ L Wg (b₀.at a₀ (.inRegion ops₀ (i₀::rest₀)::k₀)) cs) (λg=>g=G (b₀.at (a₀.put ((ops₀[i₀]?).bind (·.dst)) (.t #[])) (.inRegion ops₀ rest₀::k₀)) cs)) g:=by
 lib_facts
 obtain⟨T,rfl,aa,U⟩:=h;obtain⟨v,ap,cb,v,v,v,a4,v,v,b4,v,v,cl,ai,v,v,aB,v,cH,bh,v,aj,cC,v,ax,v,ch,bc,cy,bl,v,b2,v,v,v,v,cJ,cE,cg,a2,aW,v,v,bg,b0,v,v,cn,b',v,v,v,v,bm,an,b7,v,v,v,cA,v,cI,bv,b5,b8,ak,aw,aC,v,v,cv,v,v,cL,v,bw,cP,bk,ao,v,v,bp,bn,v,rfl⟩:=array84 T aa;simp only[List.getElem?_toArray,aV,k6]at U;subst U;simp only[Bs,body_wait,waitFn,é];refine Á.c J (λ_=>stepG_block) ?_
 refine Á.k ?_
 refine Á.r ?_
 iterate 3 (refine Á.v ?_;walk_nrm)
 refine Á.call J J (by k_ne) J H.f_uLoad (nm_uLoad L) J ?_
 walk_nrmf uLoadFn
 refine Á.k ?_
 refine Á.r ?_
 (refine Á.v ?_;walk_nrm)
 refine Á.k ?_
 refine Á.k ?_
 refine Á.r ?_
 iterate 3 (refine Á.v ?_;walk_nrm)
 refine Á.q ⟨J,λw v e E=>?_⟩;obtain rfl|e:=Ģ v
 .
  replace E:WgAt L.tWg Wg w 0 0:=by simpa using E
  refine⟨_,EJ (v:=0) J J (by k_ne) J H.f_loadU64 (KY L) (K0 L) (K1 L) .u64 (K2 L) J E.cellSt,λ_=>?_,λh=>absurd J h⟩;clear E
  walk_nrm
  show Á P sy (tA L.tWg Wg) (Ļ Wg) _ _
  (refine Á.v ?_;walk_nrm)
  refine Á.k ?_
  refine Á.c J (λ_=>DO) ?_
  (refine Á.d J J H.f_uLoad J ?_;walk_nrm)
  (refine Á.v ?_;walk_nrm)
  refine Á.k ?_
  refine Á.k ?_
  refine Á.r ?_
  iterate 4 (refine Á.v ?_;walk_nrm)
  refine Á.k ?_
  refine Á.k ?_
  refine Á.r ?_
  iterate 4 (refine Á.v ?_;walk_nrm)
  refine Á.k ?_
  iterate 2 (refine Á.k ?_)
  refine Á.r ?_
  iterate 2 (refine Á.v ?_;walk_nrm)
  refine Á.k ?_
  (refine Á.c J (λ_=>vm (t:=sy) (by first|rfl|(simp[Act.eval];omega))) ?_;simp only[ô,ę,Ĭ,↓reduceIte])
  refine Á.k ?_
  (refine Á.c J (λ_=>vm (t:=sy) (by first|rfl|(simp[Act.eval];omega))) ?_;simp only[ô,ę,Ĭ,↓reduceIte])
  refine Á.k ?_
  refine Á.r ?_
  refine Á.q ⟨J,_,λ_ _=>B7 .enable sm J J (by k_ne) J H.f_enable (x_enable_n L) (x_enable_b L) (x_enable_x L) (x_enable_f L),?_⟩
  walk_nrm
  show Á P sy (tA L.tWg Wg) (Ļ Wg) _ _
  refine Á.k ?_
  refine Á.r ?_
  (refine Á.v ?_;walk_nrm)
  refine Á.h (.pp Wg 0) J J (by k_ne) (λw E=>?_) (λw E=>?_) ?_
  . exact oS
  . exact o4
  walk_nrm
  refine Á.q ⟨J,_,λ_ _=>A6 .acquire sm J J (by k_ne) J H.f_acquire (x_acquire_n L) (x_acquire_b L) (x_acquire_x L) (x_acquire_f L) (by simp[A',stA]),?_⟩
  walk_nrm
  show Á P sy (tA L.tWg Wg) (λ_=>False) _ _
  refine Á.k ?_
  iterate 2 (refine Á.k ?_)
  refine Á.r ?_
  iterate 8 (refine Á.v ?_;walk_nrm)
  iterate 2 (refine Á.skip J J ?_;walk_nrm)
  (refine Á.v ?_;walk_nrm)
  exact nl
 obtain⟨S,I⟩:∃S:Int,(v:Int)*KK=S:=⟨_,J⟩
 have e:S/4294967296=(v:Int):=by rw[<-I];simp only[KK];omega
 have a1:bits .and .u64 S 2147483648=0:=by rw[<-I];have:=st_flag v 0 N N;simpa[KK]using this
 have cD:bits .and .u64 S 2147483647=0:=by rw[<-I];have:=st_waiters v 0 N N;simpa[KK]using this
 have bd:LI.wrap (v:Int)=(v:Int):=by rw[HU];omega
 have e:Ge.wrap (S+1)=S+1:=by rw[HF,<-I];simp only[KK];omega
 have e:decide ((v:Int)<0)=false:=ĕ N;have e:decide (0<(v:Int))=true:=ď N;have e:((v:Int)==0)=false:=by simp;omega
 have e:decide ((v:Int)=0)=false:=ĕ N;rw[I]at E;refine⟨_,EJ (v:=S) J J (by k_ne) J H.f_loadU64 (KY L) (K0 L) (K1 L) .u64 (K2 L) J E.cellSt,λab=>absurd ab N,λ_=>?_⟩;clear E
 walk_nrm
 show Á P sy (tA L.tWg Wg) (Ļ Wg) _ _
 (refine Á.v ?_;walk_nrm)
 refine Á.k ?_
 refine Á.c J (λ_=>DO) ?_
 (refine Á.d J J H.f_uLoad J ?_;walk_nrm)
 (refine Á.v ?_;walk_nrm)
 refine Á.k ?_
 refine Á.k ?_
 refine Á.r ?_
 iterate 4 (refine Á.v ?_;walk_nrm)
 refine Á.k ?_
 refine Á.k ?_
 refine Á.r ?_
 iterate 4 (refine Á.v ?_;walk_nrm)
 refine Á.k ?_
 iterate 2 (refine Á.k ?_)
 refine Á.r ?_
 iterate 2 (refine Á.v ?_;walk_nrm)
 refine Á.k ?_
 (refine Á.c J (λ_=>vm (t:=ss) (by first|rfl|(simp[Act.eval];omega))) ?_;simp only[ô,ę,Ĭ,↓reduceIte])
 refine Á.c J (λ_=>L0) ?_
 refine Á.k ?_
 refine Á.r ?_
 iterate 6 (refine Á.v ?_;walk_nrm)
 refine Á.call J J (by k_ne) J H.f_uCas (nm_uCas L) J ?_
 walk_nrmf uCasFn
 refine Á.k ?_
 refine Á.r ?_
 (refine Á.v ?_;walk_nrm)
 refine Á.k ?_
 refine Á.k ?_
 refine Á.r ?_
 iterate 5 (refine Á.v ?_;walk_nrm)
 refine Á.q ⟨J,λe v' e E=>⟨λe=>?_,λe=>?_⟩⟩
 .
  subst e;rw[I]at E⊢;refine⟨_,(stepG_cas_hit (v:=S) (n:=S+1) J J (by k_ne) J H.f_casU64 (x_casU64_n L) (x_casU64_b L) (x_casU64_x L) .u64 (x_casU64_f L) J J J E.cellSt (E.thaw 0)).trans (by rfl),?_⟩;clear E
  walk_nrm
  show Á P sy (tA L.tWg Wg) (Ļ Wg) _ _
  (refine Á.v ?_;walk_nrm)
  refine Á.k ?_
  refine Á.c J (λ_=>DO) ?_
  (refine Á.d J J H.f_uCas J ?_;walk_nrm)
  refine Á.k ?_
  (refine Á.c J (λ_=>vm (t:=sy) (by first|rfl|(simp[Act.eval];omega))) ?_;simp only[ô,ę,Ĭ,↓reduceIte])
  iterate 2 (refine Á.k ?_)
  refine Á.r ?_
  iterate 4 (refine Á.v ?_;walk_nrm)
  refine Á.k ?_
  (refine Á.c J (λ_=>vm (t:=sy) (by first|rfl|(simp[Act.eval];omega))) ?_;simp only[ô,ę,Ĭ,↓reduceIte])
  refine Á.r ?_
  iterate 3 (refine Á.v ?_;walk_nrm)
  refine Á.h (.pp Wg 1) J J (by k_ne) (λw E=>?_) (λw E=>?_) ?_
  . have V:=B0 (P:=P) H.underlying_tPU32 H.underlying_tUP H.room_tU32 (we E).choose_spec;go_simp
  .
   have Z:=λes=>AH (P:=P) H.underlying_tPU32 H.underlying_tUP H.room_tU32 (we E).choose_spec es
   simp[go_sem, *]
  walk_nrm
  refine Á.j (es:=#[⟨.mark (.write (C Wg 1)),ss,sy⟩]) J (λe Y=>?_) (λ_ _=>A6 .write sm rfl rfl (by k_ne) rfl H.f_raceWrite (x_raceWrite_n L) (x_raceWrite_b L) (x_raceWrite_x L) (x_raceWrite_f L) (ad:=(C Wg 1)) (by simp[A'])) ?_
  . rw[mn]at Y;exact .inl Y
  walk_nrm
  refine Á.k ?_
  refine Á.k ?_
  refine Á.r ?_
  (refine Á.v ?_;walk_nrm)
  refine Á.k ?_
  iterate 2 (refine Á.k ?_)
  refine Á.r ?_
  iterate 4 (refine Á.v ?_;walk_nrm)
  (refine Á.skip J J ?_;walk_nrm)
  (refine Á.v ?_;walk_nrm)
  refine Á.k ?_
  (refine Á.c J (λ_=>vm (t:=ss) (by first|rfl|(simp[Act.eval];omega))) ?_;simp only[ô,ę,Ĭ,↓reduceIte])
  refine Á.c J (λ_=>L0) ?_
  refine Á.k ?_
  refine Á.r ?_
  iterate 4 (refine Á.v ?_;walk_nrm)
  refine Á.q ⟨J,J,λw e E=>stepG_semacquire_wait J J J H.f_semacquire (x_semacquire_n L) (x_semacquire_b L) (x_semacquire_x L) (x_semacquire_f L) (by simp[A',smA]) E.cellSm,λw O=>?_⟩;refine⟨_,(stepG_semacquire (n:=1) J J (by k_ne) J H.f_semacquire (x_semacquire_n L) (x_semacquire_b L) (x_semacquire_x L) (x_semacquire_f L) (by simp[A',smA]) O.cellSm (by k_ne) (O.thaw 1)).trans (by rfl),?_⟩;clear O
  walk_nrm
  show Á P sy (tA L.tWg Wg) (Ļ Wg) _ _
  refine Á.k ?_
  refine Á.k ?_
  refine Á.r ?_
  iterate 3 (refine Á.v ?_;walk_nrm)
  refine Á.call J J (by k_ne) J H.f_uLoad (nm_uLoad L) J ?_
  walk_nrmf uLoadFn
  refine Á.k ?_
  refine Á.r ?_
  (refine Á.v ?_;walk_nrm)
  refine Á.k ?_
  refine Á.k ?_
  refine Á.r ?_
  iterate 3 (refine Á.v ?_;walk_nrm)
  refine Á.q ⟨J,λw E=>⟨_,EJ (v:=0) J J (by k_ne) J H.f_loadU64 (KY L) (K0 L) (K1 L) .u64 (K2 L) J E.cellSt,?_⟩⟩;clear E
  walk_nrm
  show Á P sy (tA L.tWg Wg) (Ļ Wg) _ _
  (refine Á.v ?_;walk_nrm)
  refine Á.k ?_
  refine Á.c J (λ_=>DO) ?_
  (refine Á.d J J H.f_uLoad J ?_;walk_nrm)
  iterate 2 (refine Á.v ?_;walk_nrm)
  refine Á.k ?_
  refine Á.k ?_
  (refine Á.c J (λ_=>vm (t:=sy) (by first|rfl|(simp[Act.eval];omega))) ?_;simp only[ô,ę,Ĭ,↓reduceIte])
  refine Á.k ?_
  refine Á.r ?_
  refine Á.q ⟨J,_,λ_ _=>B7 .enable sm J J (by k_ne) J H.f_enable (x_enable_n L) (x_enable_b L) (x_enable_x L) (x_enable_f L),?_⟩
  walk_nrm
  show Á P sy (tA L.tWg Wg) (Ļ Wg) _ _
  refine Á.k ?_
  refine Á.r ?_
  (refine Á.v ?_;walk_nrm)
  refine Á.h (.pp Wg 0) J J (by k_ne) (λw E=>?_) (λw E=>?_) ?_
  . exact oS
  . exact o4
  walk_nrm
  refine Á.q ⟨J,_,λ_ _=>A6 .acquire sm J J (by k_ne) J H.f_acquire (x_acquire_n L) (x_acquire_b L) (x_acquire_x L) (x_acquire_f L) (by simp[A',stA]),?_⟩
  walk_nrm
  show Á P sy (tA L.tWg Wg) (λ_=>False) _ _
  refine Á.k ?_
  iterate 2 (refine Á.k ?_)
  refine Á.r ?_
  (refine Á.v ?_;walk_nrm)
  exact nl
 refine⟨_,stepG_cas_miss (v:=(v':Int)*KK) (old:=S) (n:=S+1) J J (by k_ne) J H.f_casU64 (x_casU64_n L) (x_casU64_b L) (x_casU64_x L) .u64 (x_casU64_f L) J J J E.cellSt (E.thaw 0) (by rw[<-I];simp only[KK];omega),?_⟩;clear E
 walk_nrm
 show Á P sy (tA L.tWg Wg) (Ļ Wg) _ _
 (refine Á.v ?_;walk_nrm)
 refine Á.k ?_
 refine Á.c J (λ_=>DO) ?_
 (refine Á.d J J H.f_uCas J ?_;walk_nrm)
 refine Á.k ?_
 (refine Á.c J (λ_=>vm (t:=ss) (by first|rfl|(simp[Act.eval];omega))) ?_;simp only[ô,ę,Ĭ,↓reduceIte])
 refine Á.c J (λ_=>L0) ?_
 refine Á.c J (λ_=>stepG_inBlock) ?_
 refine Á.c J (λ_=>stepG_inLoop) ?_
 exact Á.q ⟨_,J,sm,sm⟩
end
open Go.ConcN (RW DWs AtR0 WgLive Has)
open Go.ConcR (KK WgAt stA smA rd wr mk Payload DC0)
section
variable {P:tP}{L:WgLink}{Wg:Nat}
def rH (P:pG)(g:gR):Prop:=g.status=.running/\∃g',∀w,tt P ss g w=.go g' w #[mk .disable]
def rI (P:pG)(F:M->Prop)(Wg:Nat)(g:gR):Prop:=g.status=.running/\∃g',(∀w,tt P ss g w=.go g' w #[mk (.releaseMerge (stA Wg))])/\Á P ss F (λ_=>False) (rH P) g'
def rJ (H:WgLib P L){F:M->Prop}(hF:∀w,F w->tA L.tWg Wg w)(c:vh)(cs:lF):Á P ss F (λ_=>False) (rI P F Wg) (G ((baseD L.done).at ⟨#[.pp Wg 0,uu,uu,uu],[]⟩ [.code (body_done L)]) (c::cs)):=by
 lib_facts
 simp only[body_done,doneFn,é];refine Á.c J (λ_=>yd) ?_
 simp only[Ŷ,Ċ,Ġ,Nat.reduceAdd,Ă,List.range,List.range.loop];refine Á.value _ J J (by k_ne) (λ_=>by go_simp<;>rfl) (λ_=>by simp[go_sem, *]) ?_
 walk_nrm
 refine Á.call J J (by k_ne) J H.f_add (nm_add L) J ?_
 walk_nrmf addFn
 repeat (first
  |(refine Á.k ?_)
  |(refine Á.k ?_)
  |(refine Á.c J (λ_=>vm (t:=sy) J) ?_;simp only[ô,↓reduceIte])
  |(refine Á.c J (λ_=>vm (t:=ss) J) ?_;simp only[ę,Ĭ,↓reduceIte])
  |(refine Á.r ?_)
  |(refine Á.value _ J J (by k_ne) (λ_=>by go_simp<;>rfl) (λ_=>by simp[go_sem, *]) ?_;walk_nrm))
 refine Á.h (.pp Wg 0) J J (by k_ne) (λw t=>?_) (λw t=>?_) ?_
 . have hcv:=B0 (P:=P) H.underlying_tWgP H.underlying_tUP H.room_tWg (AK (hF w t)).choose_spec;go_simp
 .
  have hce:=λZ=>AH (P:=P) H.underlying_tWgP H.underlying_tUP H.room_tWg (AK (hF w t)).choose_spec Z
  simp[go_sem, *]
 walk_nrm
 refine Á.q ⟨J,_,λ_=>A6 .releaseMerge (by simp) J J (by k_ne) J H.f_relMerge (x_relMerge_n L) (x_relMerge_b L) (x_relMerge_x L) (x_relMerge_f L) (by simp[A',stA]),?_⟩
 walk_nrm
 iterate 2 refine Á.k ?_
 refine Á.c J (λ_=>yd) ?_
 simp only[Ŷ,Ċ,Ġ,Nat.reduceAdd,Ă,List.range,List.range.loop];exact Á.q ⟨J,_,λ_=>B7 .disable (by simp) J J (by k_ne) J H.f_disable (KB L) (KC L) (KE L) (KX L)⟩
def NI{R:M->M->Prop}{D:M->M->Array Event->Prop}{O:gR->M->Prop}{F:M->Prop}{w:M}(I:R w w)(Z:F w){g':gR}(Y:∀g G,tt P ss g w=.go G w #[]->¬O g w):∀{n m:Nat}{g:gR},Å P ss F (λ_=>False) n g g'->Goes P ss R D O m g w->∃m',Goes P ss R D O m' g' w
 |0,m,g,E,h=>by
  cases E
  exact⟨m,h⟩
 |n+1,m,g,⟨an,G,e,U,X,E⟩,h=>by
  obtain rfl:e= #[]:=by
   obtain⟨l⟩:=e;cases l with
   |nil=>rfl
   |cons e l=>exact(U e sm).elim
  have V:=X w Z;obtain e|⟨m',rfl,ai⟩:=Goes.cases h
  . exact absurd (e w I) (Y g G V)
  have ac:=ai w I;obtain⟨al,w2,am,U,-,e⟩:=ac;rw[V]at U;cases U
  exact NI I Z Y E e
def zt[Payload] (H:WgLib P L) {F:M->Prop}(hF:∀w,F w->tA L.tWg Wg w) {sd:Nat}{val:Vl}(hC:∀w,F w->Has sd 0 val w) {c:vh}{cs:lF}{qt:Nat}(hcm:c.mode=.returning)(hT:QuitsD P qt 0 (G c cs)):Á P ss F (λ_=>False) (λg=>∀w,F w->AtR0 P L.tWg Wg sd 1 0 1 val g w) (G ((baseD L.done).at ⟨#[.pp Wg 0,uu,uu,uu],[]⟩ [.code (body_done L)]) (c::cs)):=by
 obtain⟨n,Y,Z,hrun,e,hrel,m,e,hw1,hrunD,e,hdis⟩:=rJ H hF c cs;refine⟨n,Y,Z,λw hFw=>?_⟩;have m:RW L.tWg Wg sd 1 0 (1-1) w w:=Go.ConcN.RW.refl w;have Y:=Go.ConcN.Gen.doneN (L:=L) H (Own:=λ_ _=>False) (Rd:=λ_ _=>False) (Wg:=Wg) (C:=sd) (n:=1) (Low:=0) (k:=1) (val:=val) hcm hT w ⟨hF w hFw,hC w hFw⟩;have k:∀g e,tt P ss g w=.go e w #[]->¬AtR0 P L.tWg Wg sd 1 0 1 val g w:=λg e hgo⟨_,_,g',hgo',_⟩=>by
  rw[hgo]at hgo';injection hgo' with _ _ e
  simp at e
 obtain⟨m',hG'⟩:=NI m hFw k Z Y;obtain hstop|⟨e,rfl,hstep⟩:=Goes.cases hG'
 . exact hstop w m
 exfalso
 obtain⟨e,e,es3,hgo3,-,hG3⟩:=hstep w m;rw[hrel w]at hgo3;cases hgo3
 obtain⟨e,hG4⟩:=NI m hFw k hw1 hG3;obtain hstop|⟨e,rfl,hstep⟩:=Goes.cases hG4
 .
  obtain⟨_,_,g',hgo',_⟩:=hstop w m;rw[hdis w]at hgo';injection hgo' with _ _ e
  simp[mk]at e
 obtain⟨e,e,es5,hgo5,⟨-,hev⟩,-⟩:=hstep w m;rw[hdis w]at hgo5;cases hgo5
 exact(hev (mk .disable) (by simp)).2.1 J
end
open Go.ConcN (WgLive)
open Go.ConcR (KK WgAt stA smA rd wr mk)
def Kg (f:zJ):Code:=Ak (Ak (Ak (È f)))
def Ww (f:zJ):Code:=CR (CR (Ak (A7 (Kg f))))
def KN (f:zJ):Code:=Ak (Kg f)
def lD (f:zJ):Code:=Ak (Ak (Ak (Ww f)))
def Yv (f:zJ):aO:=Gc (Ak (CR (A7 (Ak (Ak (Ww f))))))
structure ā where
 v:ű
 (n m:Nat)
 a:Int
 b:Vl
structure Μ where
 (b d e a:Vl)
def k7 (z:ā)(j:Nat)(x:Μ):Array Vl:=#[.q z.n,.q z.a,z.b,uu,uu,.pp z.v.h 0,.sn,.n,.pp z.v.d 0,.pp z.v.e 0,.pp z.v.a 0,uu,.chan (some z.v.b),.chan (some z.v.cr),.q z.a,.q z.n,.q z.m,.q j,x.b,x.d,x.e,x.a,uu,uu,uu,uu,uu,uu,uu,uu,uu]
def JB (P:pG)(q:Bool)(z:ā)(j:Nat)(x:Μ)(cs:lF):gR:=G ((Kx (Ň q)).at ⟨k7 z j x,[]⟩ [.code (Ww (đ P q)),.inLoop (Ww (đ P q)),.inBlock 0,.code (KN (đ P q))]) cs
def Zx (P:pG)(q:Bool)(z:ā)(j:Nat)(x:Μ)(cs:lF):gR:=G ((Kx (Ň q)).at ⟨k7 z j x,[]⟩ [.inRegion (Yv (đ P q)) [],.inBlock 1,.code (lD (đ P q)),.inLoop (Ww (đ P q)),.inBlock 0,.code (KN (đ P q))]) cs
section
variable {q:Bool}{z:ā}{cs:List vh}{F:World->Prop}{Ev:Event->Prop}{K:th->Prop}
def zF{j:Nat}{x:Μ}(I:j<100000)(h:∀x',Á sr sy F Ev K (JB sr q z (j+1) x' cs)):Á sr sy F Ev K (Zx sr q z j x cs):=by
 cases q
 all_goals
  have G:ua.wrap ((j:Int)+1)=((j+1:Nat):Int):=by rw[Ĵ]<;>omega
  have E:=h ⟨x.b,x.d,x.e,.q ((j+1:Nat):Int)⟩;revert E
  simp only[Zx,JB,k7,Yv,lD,Ww,KN,Kg,È,CR,Ak,A7,Gc,Ň,OU,OT,vS,v8,é];intro E
  iterate 2 refine Á.k ?_
  refine Á.c J (λ_=>yd) ?_
  try walk_nrm
  refine Á.value (.q ((j+1:Nat):Int)) J J dc (λ_=>by go_simp) (λ_=>by simp[go_sem, *]) ?_
  try walk_nrm
  refine Á.value (.q ((j+1:Nat):Int)) J J dc (λ_=>by go_simp) (λ_=>by simp[go_sem, *]) ?_
  try walk_nrm
  iterate 2 refine Á.k ?_
  exact E
def pS{j:Nat}{x:Μ}(Y:j<z.m){child:gR}(U:child=born sr (LD q z.v.a z.v.d z.v.h z.v.e)){Nx:gR->Prop}(O:∀x',Nx (Zx sr q z j x' cs)):Á sr sy (tA tG.tWg z.v.a) (Ļ z.v.a) (bX sr tG.tWg z.v.a child Nx) (JB sr q z j x cs):=by
 obtain⟨w,G⟩:∃w,w=ŝ q:=⟨_,J⟩
 cases q
 all_goals
  have V:decide ((j:Int)<(z.m:Int))=true:=ď N;have E:=O ⟨.bool sy,.t #[],.func (.func w) #[] #[.pp z.v.a 0,.pp z.v.d 0,.pp z.v.h 0,.pp z.v.e 0],x.a⟩;subst U;revert E
  simp only[Zx,JB,k7,Yv,lD,Ww,KN,Kg,È,CR,Ak,A7,Gc,Ň,OU,OT,vS,v8,é];intro E;refine Á.k ?_
  refine Á.c J (λ_=>yd) ?_
  try walk_nrm
  refine Á.value (.bool sy) J J dc (λ_=>by go_simp) (λ_=>by simp[go_sem, *]) ?_
  try walk_nrm
  iterate 2 refine Á.k ?_
  refine Á.c J (λ_=>vm (t:=sy) J) ?_
  simp only[ô]
  iterate 4 refine Á.k ?_
  refine Á.c J (λ_=>yd) ?_
  try walk_nrm
  refine Á.call J J dc J CC.f_add (nm_add tG) J ?_
  have I:=@uY sr tG z.v.a;simp only[body_add,addFn,é]at I
  walk_nrmf addFn
  refine I CC ?_
  try walk_nrm
  refine Á.k ?_
  refine Á.c J (λ_=>yd) ?_
  try walk_nrm
  refine Á.value (.func (.func w) #[] #[.pp z.v.a 0,.pp z.v.d 0,.pp z.v.h 0,.pp z.v.e 0]) J J dc (λ_=>by subst G;go_simp) (λ_=>by simp[go_sem, *]) ?_
  try walk_nrm
  subst G;refine Á.q ⟨J,_,λw _=>?_,E⟩;rw[stepG_spawn (d:=LD _ z.v.a z.v.d z.v.h z.v.e) (w':=w) J J dc (by go_simp;rfl) J]
  congr 1
end
end Go.Proofs.YtaoikkhlnhfkfaaGreatDoor
