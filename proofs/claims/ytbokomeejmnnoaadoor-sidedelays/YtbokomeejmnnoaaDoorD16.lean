/- Own facts, put together: no statement of its own. -/
import Derived.Test.YtbokomeejmnnoaaDoorD15
set_option maxHeartbeats 1000000

namespace Go.Proofs.YtbokomeejmnnoaaDoor
open Go.Conc
section
variable {P:Program} {Fb Gb:Nat → Bool} {L:Nat} {r s:Ren} {bot base:List Frame}
theorem sim_own (hF:FnsOk P Fb Gb) (hg:∀ g,Gb g=true → r.rel g g) (hG:P.globals.size ≤ L) {fr fr':Frame} {cs cs':List Frame} (h:FrameR P Fb Gb r fr fr') (hs:StackR P Fb Gb r bot base cs cs') (hn:¬ (fr.mode=.returning ∧ cs=bot)) :
  Sim P (inF Fb) L (fun t a b=>FrameR P Fb Gb t a.1 b.1 ∧ StackR P Fb Gb t bot base a.2 b.2) (own P fr cs) (own P fr' cs') r:=by
 obtain ⟨fn,tmps,todo,defers,mode,kind,roundOf⟩:=fr
 obtain ⟨fn',tmps',todo',defers',mode',kind',roundOf'⟩:=fr'
 have hi:=h.items
 obtain rfl:fn'=fn:=h.fn
 obtain rfl:todo'=todo:=h.todo
 obtain rfl:mode'=mode:=h.mode
 unfold own
 dsimp only at hi hn ⊢
 rcases h.modes with hm | hm
 ·
  dsimp only at hm
  subst hm
  dsimp only
  cases todo' with
  | nil=>exact sim_pure ⟨h.ret,hs⟩
  | cons it k=>
   have h0:=hi it (List.mem_cons_self ..)
   have hk:∀ y ∈ k,itemOk P Fb Gb y=true:=fun y hy=>hi y (List.mem_cons_of_mem _ hy)
   have one:∀ x,itemOk P Fb Gb x=true → ∀ y ∈ x :: k,itemOk P Fb Gb y=true:=fun x hx y hy=>by
    rcases List.mem_cons.1 hy with rfl | hy
    · exact hx
    · exact hk y hy
   have two:∀ x x',itemOk P Fb Gb x=true → itemOk P Fb Gb x'=true → ∀ y ∈ x :: x' :: k,itemOk P Fb Gb y=true:=fun x x' hx hx' y hy=>by
    rcases List.mem_cons.1 hy with rfl | hy
    · exact hx
    · exact one x' hx' y hy
   cases it <;> first | (cases h0;done) | skip
   case code c=>
    cases c <;> first | (cases h0;done) | skip
    case skip=>exact sim_pure ⟨h.to k hk,hs⟩
    case label=>exact sim_pure ⟨h.to k hk,hs⟩
    case ret=>exact sim_pure ⟨h.ret,hs⟩
    case seq a b=>
     simp only [itemOk,codeOk,Bool.and_eq_true] at h0
     exact sim_pure ⟨h.to _ (two _ _ h0.1 h0.2),hs⟩
    case cond c a b=>
     simp only [itemOk,codeOk,Bool.and_eq_true] at h0
     dsimp only
     have hv:=(h.eval hg).rel c h0.1.1
     have h1:=hv.out
     revert hv h1
     generalize (Frame.eval _ c:Value)=u
     generalize (Frame.eval _ c:Value)=v
     intro hv h1
     cases u <;> simp only [VStep] at h1 <;> first | exact sim_stuck | skip
     rename_i t
     subst h1
     refine sim_pure ⟨h.to _ (one _ ?_),hs⟩
     cases t
     · exact h0.2
     · exact h0.1.2
    case block id c=>exact sim_pure ⟨h.to _ (two _ _ h0 rfl),hs⟩
    case loop c=>exact sim_pure ⟨h.to _ (two _ _ h0 h0),hs⟩
    case scope c=>exact sim_pure ⟨h.to _ (two _ _ h0 h0),hs⟩
    case exit id=>
     dsimp only
     cases he:exitTo id k with
     | none=>exact sim_stuck
     | some k'=>exact sim_pure ⟨h.to k' (exitTo_items he hk),hs⟩
    case region id ops draw=>
     dsimp only
     refine sim_ite (fun _=>sim_pure ⟨h.to _ (one (.inRegion ops _) h0),hs⟩) fun _=>?_
     refine sim_bind (sim_choose _) ?_
     rintro t _ n hle rfl
     exact sim_pure ⟨(h.mono hle).to _ (one (.inRegion ops _) h0),hs.mono hle⟩
   case inBlock=>exact sim_pure ⟨h.to k hk,hs⟩
   case inLoop c=>exact sim_pure ⟨h.to _ (two _ _ h0 h0),hs⟩
   case inScope c=>exact sim_pure ⟨h.to k hk,hs⟩
   case inRegion ops l=>
    cases l with
    | nil=>exact sim_pure ⟨h.to k hk,hs⟩
    | cons i rest=>
     dsimp only
     cases ho:ops[i]? with
     | none=>exact sim_pure ⟨h.finish (VR.plain (n:=1) (by simp [undef,plainV])),hs⟩
     | some o=>
      dsimp only
      rw [h.yielded]
      refine sim_ite (fun _=>?_) fun _=>sim_pure ⟨h.finish (VR.plain (n:=1) (by simp [undef,plainV])),hs⟩
      have hop:operOk P Fb Gb o=true:=Array.all_eq_true_iff_forall_mem.1 h0 o (Array.mem_of_getElem? ho)
      refine sim_bind (sim_oper (hF.fine L) (fun _ h=>h) (h.eval hg) hop hG) ?_
      intro t n n' hle hnn
      cases n <;> simp only [NR] at hnn
      case value v=>obtain ⟨v',rfl,hv⟩:=hnn;exact sim_pure ⟨(h.mono hle).finish hv,hs.mono hle⟩
      case skip=>subst hnn;exact sim_pure ⟨(h.mono hle).finish (VR.plain (n:=1) (by simp [undef,plainV])),hs.mono hle⟩
      case enter f args=>
       obtain ⟨args',rfl,hf,ha⟩:=hnn
       exact sim_pure ⟨FrameR.entered hF hf.1 hf.2 ha,.inr ⟨_,_,rfl,h.mono hle,hs.mono hle⟩⟩
 ·
  dsimp only at hm
  subst hm
  dsimp only
  cases cs with
  | nil=>
   simp only [StackR] at hs
   exact absurd ⟨rfl,hs.1⟩ hn
  | cons c rest=>
   simp only [StackR] at hs
   rcases hs with ⟨h1,-⟩ | ⟨c',rest',rfl,hc,hr⟩
   · exact absurd ⟨rfl,h1⟩ hn
   ·
    dsimp only
    obtain ⟨fn,h1,-⟩:=hF _ h.isIn
    rw [h1]
    dsimp only
    refine sim_bind (sim_results h.tmps) ?_
    intro t u v hle huv
    exact sim_pure ⟨(hc.mono hle).finish huv,StackR.mono hle hr⟩
def codeForm:Code → Bool
 | .skip | .exit _ | .label _ | .ret | .region _ _ _ | .seq _ _ | .cond _ _ _ | .block _ _ | .loop _ | .scope _=>true
 | _=>false
def itemForm:Item → Bool
 | .code c=>codeForm c
 | .inBlock _ | .inLoop _ | .inScope _ | .inRegion _ _=>true
 | _=>false
structure FrameForm (P:Program) (fr:Frame):Prop where
 isIn:∃ f0,P.funcs[fr.fn]? = some f0
 items:fr.mode=.run → ∀ x,fr.todo.head? = some x → itemForm x=true
 defers:fr.defers=[]
 modes:fr.mode=.run ∨ fr.mode=.returning
 kind:fr.kind=.normal
 round:fr.roundOf=none
structure FrameOk (P:Program) (Fb Gb:Nat → Bool) (fr:Frame):Prop where
 isIn:Fb fr.fn=true
 items:∀ x ∈ fr.todo,itemOk P Fb Gb x=true
 defers:fr.defers=[]
 modes:fr.mode=.run ∨ fr.mode=.returning
 kind:fr.kind=.normal
 round:fr.roundOf=none
theorem FrameR.ok {f f':Frame} (x:FrameR P Fb Gb r f f'):FrameOk P Fb Gb f:=⟨x.isIn,x.items,x.defers,x.modes,x.kind,x.round⟩
theorem FrameR.ok' {f f':Frame} (x:FrameR P Fb Gb r f f'):FrameOk P Fb Gb f':=⟨x.fn ▸ x.isIn,x.todo ▸ x.items,x.defers',x.mode ▸ x.modes,x.kind',x.round'⟩
theorem itemOk.form {x:Item} (h:itemOk P Fb Gb x=true):itemForm x=true:=by
 cases x <;> simp only [itemOk] at h <;> first | rfl | (cases h;done) | skip
 rename_i c
 cases c <;> simp only [codeOk] at h <;> first | rfl | cases h
theorem FrameOk.form (hF:FnsOk P Fb Gb) {fr:Frame} (h:FrameOk P Fb Gb fr):FrameForm P fr:=by
 obtain ⟨f0,hf0,-⟩:=hF _ h.isIn
 exact ⟨⟨f0,hf0⟩,fun _ x hx=>itemOk.form (h.items x (List.mem_of_mem_head? hx)),h.defers,h.modes,h.kind,h.round⟩
theorem seen_nil (P:Program) (f:FuncId):seen P f #[] = #[]:=by simp [seen]
theorem form_go {main:Bool} {fr f':Frame} {cs cs':List Frame} {w w1:World} (h:FrameForm P fr) (hr:(own P fr cs).run P w=.ok (f',cs') w1) :
  stepG P main (G fr cs) w=.go (G f' cs') w1 (seen P fr.fn ((own P fr cs).events P w #[])):=by
 obtain ⟨fn,tmps,todo,defers,mode,kind,roundOf⟩:=fr
 obtain ⟨⟨f0,hf0⟩,hi,rfl,hm,rfl,rfl⟩:=h
 dsimp only at hf0 hi hm ⊢
 rcases hm with rfl | rfl
 ·
  cases todo with
  | nil=>
   simp only [own,Sem.run_pure,Result.ok.injEq,Prod.mk.injEq] at hr
   obtain ⟨⟨rfl,rfl⟩,rfl⟩:=hr
   simp [own,stepG,stepG.exec,G,seen_nil]
  | cons it k=>
   have h0:=hi rfl it rfl
   cases it <;> first | (cases h0;done) | skip
   case code c=>
    cases c <;> first | (cases h0;done) | skip
    case cond c a b=>
     simp only [own] at hr
     cases hc:(Frame.eval { fn:=fn,tmps:=tmps,todo:=.code (.cond c a b) :: k,defers:=[],mode:=.run,kind:=.normal,roundOf:=none } c) <;> rw [hc] at hr <;> first | (simp [stuck] at hr;done) | skip
     rename_i t
     simp only [Sem.run_pure,Result.ok.injEq,Prod.mk.injEq] at hr
     obtain ⟨⟨rfl,rfl⟩,rfl⟩:=hr
     simp [own,stepG,stepG.exec,G,hc,seen_nil]
    case exit id=>
     simp only [own] at hr
     cases he:exitTo id k with
     | none=>rw [he] at hr;simp [stuck] at hr
     | some k'=>
      rw [he] at hr
      simp only [Sem.run_pure,Result.ok.injEq,Prod.mk.injEq] at hr
      obtain ⟨⟨rfl,rfl⟩,rfl⟩:=hr
      simp [own,stepG,stepG.exec,G,he,seen_nil]
    case region id ops draw=>
     simp only [own] at hr
     cases draw with
     | false=>
      simp only [Bool.not_false,if_true,Sem.run_pure,Result.ok.injEq,Prod.mk.injEq] at hr
      obtain ⟨⟨rfl,rfl⟩,rfl⟩:=hr
      simp [own,stepG,stepG.exec,G,seen_nil]
     | true=>
      simp only [Bool.not_true,Bool.false_eq_true,if_false,Sem.run_bind] at hr
      simp only [own,stepG,stepG.exec,G,Bool.not_true,Bool.false_eq_true,if_false]
      cases hq:(choose (.order fn id)).run P w with
      | halt x y=>rw [hq] at hr;simp at hr
      | ok t w2=>
       rw [hq] at hr
       simp only [Result.andThen_ok,Sem.run_pure,Result.ok.injEq,Prod.mk.injEq] at hr
       obtain ⟨⟨rfl,rfl⟩,rfl⟩:=hr
       have:(choose (.order fn id)).events P w #[] = #[]:=by
        simp only [choose,Sem.events,Sem.runT]
        split <;> rfl
       simp [this,seen_nil]
    all_goals
     simp only [own,Sem.run_pure,Result.ok.injEq,Prod.mk.injEq] at hr
     obtain ⟨⟨rfl,rfl⟩,rfl⟩:=hr
     simp [own,stepG,stepG.exec,G,seen_nil]
   case inRegion ops l=>
    cases l with
    | nil=>
     simp only [own,Sem.run_pure,Result.ok.injEq,Prod.mk.injEq] at hr
     obtain ⟨⟨rfl,rfl⟩,rfl⟩:=hr
     simp [own,stepG,stepG.exec,G,seen_nil]
    | cons i rest=>
     simp only [own] at hr ⊢
     cases ho:ops[i]? with
     | none=>
      rw [ho] at hr
      simp only [Sem.run_pure,Result.ok.injEq,Prod.mk.injEq] at hr
      obtain ⟨⟨rfl,rfl⟩,rfl⟩:=hr
      simp [stepG,stepG.exec,G,ho,seen_nil]
     | some o=>
      rw [ho] at hr
      dsimp only at hr ⊢
      by_cases hw:Region.wanted o (yielded ops tmps)=true
      ·
       rw [if_pos hw] at hr ⊢
       simp only [Sem.run_bind] at hr
       cases hx:(execOp (Frame.eval { fn:=fn,tmps:=tmps,todo:=.inRegion ops (i :: rest) :: k,defers:=[],mode:=.run,kind:=.normal,roundOf:=none }) o).run P w with
       | halt x y=>rw [hx] at hr;simp at hr
       | ok n w2=>
        rw [hx] at hr
        simp only [Result.andThen_ok] at hr
        cases n <;> first | (simp at hr;done) | skip
        all_goals
         simp only [Sem.run_pure,Result.ok.injEq,Prod.mk.injEq] at hr
         obtain ⟨⟨rfl,rfl⟩,rfl⟩:=hr
         simp [stepG,stepG.exec,stepG.oper,stepG.apply,Frame.oper?,G,ho,hw,hx,GStep.after]
      ·
       rw [if_neg hw] at hr ⊢
       simp only [Sem.run_pure,Result.ok.injEq,Prod.mk.injEq] at hr
       obtain ⟨⟨rfl,rfl⟩,rfl⟩:=hr
       simp [stepG,stepG.exec,G,ho,hw,seen_nil]
   all_goals
    simp only [own,Sem.run_pure,Result.ok.injEq,Prod.mk.injEq] at hr
    obtain ⟨⟨rfl,rfl⟩,rfl⟩:=hr
    simp [own,stepG,stepG.exec,G,seen_nil]
 ·
  simp only [own] at hr ⊢
  cases cs with
  | nil=>simp at hr
  | cons c rest=>
   rw [hf0] at hr ⊢
   simp only [Sem.run_bind] at hr
   cases hx:(results f0 tmps).run P w with
   | halt x y=>rw [hx] at hr;simp at hr
   | ok v w2=>
    rw [hx] at hr
    simp only [Result.andThen_ok,Sem.run_pure,Result.ok.injEq,Prod.mk.injEq] at hr
    obtain ⟨⟨rfl,rfl⟩,rfl⟩:=hr
    simp [stepG,unwind,doReturn,G,hf0,hx,GStep.after]
theorem form_halt {main:Bool} {fr:Frame} {cs:List Frame} {w w1:World} {x:Halt} (h:FrameForm P fr) (hr:(own P fr cs).run P w=.halt x w1) (hx:Mild x) :
  (∃ v es,stepG P main (G fr cs) w=.go (G (fr.raise [{ v,recovered:=false }]) cs) w1 es) ∨ ∃ o w2 es,stepG P main (G fr cs) w=.ended o w2 es:=by
 obtain ⟨fn,tmps,todo,defers,mode,kind,roundOf⟩:=fr
 obtain ⟨⟨f0,hf0⟩,hi,rfl,hm,rfl,rfl⟩:=h
 dsimp only at hf0 hi hm ⊢
 rcases hm with rfl | rfl
 ·
  cases todo with
  | nil=>simp [own] at hr
  | cons it k=>
   have h0:=hi rfl it rfl
   cases it <;> first | (cases h0;done) | (simp [own] at hr;done) | skip
   case code c=>
    cases c <;> first | (cases h0;done) | (simp [own] at hr;done) | skip
    case cond c a b=>
     simp only [own] at hr
     cases hc:(Frame.eval { fn:=fn,tmps:=tmps,todo:=.code (.cond c a b) :: k,defers:=[],mode:=.run,kind:=.normal,roundOf:=none } c) <;> rw [hc] at hr <;> first | (simp at hr;done) | (exact .inr ⟨_,_,_,by simp only [stepG,stepG.exec,G,hc];rfl⟩)
    case exit id=>
     simp only [own] at hr
     cases he:exitTo id k with
     | none=>exact .inr ⟨_,_,_,by simp only [stepG,stepG.exec,G,he,Option.elim];rfl⟩
     | some k'=>rw [he] at hr;simp at hr
    case region id ops draw=>
     simp only [own] at hr
     cases draw with
     | false=>simp at hr
     | true=>
      simp only [Bool.not_true,Bool.false_eq_true,if_false,Sem.run_bind] at hr
      have:∃ t w2,(choose (.order fn id)).run P w=.ok t w2:=⟨_,_,rfl⟩
      obtain ⟨t,w2,h2⟩:=this
      rw [h2] at hr
      simp at hr
   case inRegion ops l=>
    cases l with
    | nil=>simp [own] at hr
    | cons i rest=>
     simp only [own] at hr
     cases ho:ops[i]? with
     | none=>rw [ho] at hr;simp at hr
     | some o=>
      rw [ho] at hr
      dsimp only at hr
      by_cases hw:Region.wanted o (yielded ops tmps)=true
      ·
       rw [if_pos hw] at hr
       simp only [Sem.run_bind] at hr
       cases hq:(execOp (Frame.eval { fn:=fn,tmps:=tmps,todo:=.inRegion ops (i :: rest) :: k,defers:=[],mode:=.run,kind:=.normal,roundOf:=none }) o).run P w with
       | halt y w2=>
        rw [hq] at hr
        simp only [Result.andThen_halt,Result.halt.injEq] at hr
        obtain ⟨rfl,rfl⟩:=hr
        cases y <;> first | (exact hx.elim) | skip
        case panic v=>exact .inl ⟨v,_,by simp only [stepG,stepG.exec,stepG.oper,stepG.apply,Frame.oper?,G,ho,Option.map_some,Option.getD_some,hw,if_true,hq,Sem.runT_eq,GStep.after];rfl⟩
        case stuck m=>exact .inr ⟨_,_,_,by simp only [stepG,stepG.exec,stepG.oper,stepG.apply,Frame.oper?,G,ho,Option.map_some,Option.getD_some,hw,if_true,hq,Sem.runT_eq,GStep.after];rfl⟩
        case unsupported u=>
         cases u <;> first | (exact hx.elim) | exact .inr ⟨_,_,_,by simp only [stepG,stepG.exec,stepG.oper,stepG.apply,Frame.oper?,G,ho,Option.map_some,Option.getD_some,hw,if_true,hq,Sem.runT_eq,GStep.after];rfl⟩
       | ok n w2=>
        rw [hq] at hr
        simp only [Result.andThen_ok] at hr
        cases n <;> first | (simp at hr;done) | (simp only [Sem.run_halt,Result.halt.injEq] at hr;obtain ⟨rfl,-⟩:=hr;exact hx.elim)
      ·
       rw [if_neg hw] at hr
       simp at hr
 ·
  simp only [own] at hr
  cases cs with
  | nil=>simp only [Sem.run_halt,Result.halt.injEq] at hr;obtain ⟨rfl,-⟩:=hr;exact hx.elim
  | cons c rest=>
   rw [hf0] at hr
   simp only [Sem.run_bind] at hr
   cases hq:(results f0 tmps).run P w with
   | halt y w2=>
    cases y <;> exact .inr ⟨_,_,_,by simp only [stepG,unwind,G,hf0,hq,Sem.runT_eq,GStep.after];rfl⟩
   | ok v w2=>rw [hq] at hr;simp at hr
theorem own_go (hF:FnsOk P Fb Gb) {main:Bool} {fr f':Frame} {cs cs':List Frame} {w w1:World} (h:FrameOk P Fb Gb fr) (hr:(own P fr cs).run P w=.ok (f',cs') w1) :
  stepG P main (G fr cs) w=.go (G f' cs') w1 (seen P fr.fn ((own P fr cs).events P w #[])):=form_go (h.form hF) hr
theorem own_halt (hF:FnsOk P Fb Gb) {main:Bool} {fr:Frame} {cs:List Frame} {w w1:World} {x:Halt} (h:FrameOk P Fb Gb fr) (hr:(own P fr cs).run P w=.halt x w1) (hx:Mild x) :
  (∃ v es,stepG P main (G fr cs) w=.go (G (fr.raise [{ v,recovered:=false }]) cs) w1 es) ∨ ∃ o w2 es,stepG P main (G fr cs) w=.ended o w2 es:=form_halt (h.form hF) hr hx
end
abbrev LnSt:=(Frame × List Frame) × World
def pit:Frame:={ fn:=0,tmps:=#[],todo:=[.code (.refuse "")],defers:=[{ target:=.nil,args:=#[] }],mode:=.run,kind:=.normal }
def Stopped (x:LnSt):Prop:=x.1.1.mode=.returning ∧ x.1.2=[pit]
def LStep (P:Program) (x y:LnSt):Prop:=¬ Stopped x ∧ ∃ t,(own P x.1.1 x.1.2).run P (taped x.2 t)=.ok y.1 y.2
section
variable {P:Program} {Fb Gb:Nat → Bool} {L:Nat} {r:Ren} {F:Nat → Prop} {w w':World} {t t':Nat → Question → Nat}
theorem WR.lead (h:WR F L r (taped w t) (taped w' t')):WR F L r (taped w fun j q=>w'.tape (j - w.drawn+w'.drawn) q) w':=
 ⟨h.obj,h.low,h.base,h.high,h.size,h.size',fun j q=>by
  show w'.tape (w.drawn+j - w.drawn+w'.drawn) q=_
  rw [Nat.add_sub_cancel_left,Nat.add_comm]⟩
theorem WR.follow (h:WR F L r (taped w t) (taped w' t')) (u:Nat → Question → Nat):WR F L r (taped w u) (taped w' fun j q=>u (j - w'.drawn+w.drawn) q):=
 ⟨h.obj,h.low,h.base,h.high,h.size,h.size',fun j q=>by
  show u (w.drawn+j) q=u (w'.drawn+j - w'.drawn+w.drawn) q
  rw [Nat.add_sub_cancel_left,Nat.add_comm]⟩
def OkSt (P:Program) (Fb Gb:Nat → Bool) (L:Nat) (x:LnSt):Prop:=∃ (r:Ren) (base:List Frame) (fr':Frame) (cs':List Frame) (w':World) (t t':Nat → Question → Nat),
 (∀ g,Gb g=true → r.rel g g) ∧ FrameR P Fb Gb r x.1.1 fr' ∧ StackR P Fb Gb r [pit] base x.1.2 cs' ∧ WR (inF Fb) L r (taped x.2 t) (taped w' t')
theorem ok_run (hF:FnsOk P Fb Gb) (hG:P.globals.size ≤ L) {x:LnSt} (h:OkSt P Fb Gb L x) (hn:¬ Stopped x) (u:Nat → Question → Nat) :
  (∃ z w1,(own P x.1.1 x.1.2).run P (taped x.2 u)=.halt z w1 ∧ Mild z) ∨ ∃ y:LnSt,(own P x.1.1 x.1.2).run P (taped x.2 u)=.ok y.1 y.2 ∧ OkSt P Fb Gb L y ∧ LocTp P (own P x.1.1 x.1.2) (taped x.2 u) y.1 y.2:=by
 obtain ⟨r,base,fr',cs',w',t,t',hg,hf,hs,hw⟩:=h
 rcases sim_own hF hg hG hf hs hn _ _ (hw.follow u) with h1 | ⟨a,w1,r1,b,w1',evs,h1,h2,h3,h4,h5,h6,h7,h8⟩
 · exact .inl h1
 · exact .inr ⟨(a,w1),h1,⟨r1,base,b.1,b.2,w1',w1.tape,w1'.tape,fun g hgb=>h6.le _ _ (hg g hgb),h4.1,h4.2,h5⟩,h8⟩
theorem ok_step (hF:FnsOk P Fb Gb) (hG:P.globals.size ≤ L) {x y:LnSt} (h:OkSt P Fb Gb L x) (hs:LStep P x y):OkSt P Fb Gb L y:=by
 obtain ⟨hn,u,hu⟩:=hs
 rcases ok_run hF hG h hn u with ⟨z,w1,h1,-⟩ | ⟨y',h1,h2,-⟩
 · rw [h1] at hu;cases hu
 ·
  rw [h1] at hu
  simp only [Result.ok.injEq] at hu
  obtain rfl:y'=y:=Prod.ext hu.1 hu.2
  exact h2
theorem ok_frame {x:LnSt} (h:OkSt P Fb Gb L x):FrameOk P Fb Gb x.1.1:=let ⟨_,_,_,_,_,_,_,_,hf,_⟩:=h;hf.ok
theorem ok_retape (hF:FnsOk P Fb Gb) (hG:P.globals.size ≤ L) {x y:LnSt} (h:OkSt P Fb Gb L x) (hn:¬ Stopped x) {u:Nat → Question → Nat} (hu:(own P x.1.1 x.1.2).run P (taped x.2 u)=.ok y.1 y.2) :
  y.2.tape=u ∧ x.2.drawn ≤ y.2.drawn ∧ ∀ v,(∀ j q,x.2.drawn ≤ j → j < y.2.drawn → v j q=u j q) → (own P x.1.1 x.1.2).run P (taped x.2 v)=.ok y.1 (taped y.2 v):=by
 rcases ok_run hF hG h hn u with ⟨z,w1,h1,-⟩ | ⟨y',h1,h2,h3⟩
 · rw [h1] at hu;cases hu
 ·
  rw [h1] at hu
  simp only [Result.ok.injEq] at hu
  obtain rfl:y'=y:=Prod.ext hu.1 hu.2
  exact ⟨h3.1,h3.2.1,fun v hv=>h3.2.2 v hv⟩
theorem lone_next {fr f':Frame} {cs cs':List Frame} {w w1:World} (hF:FnsOk P Fb Gb) (h:FrameOk P Fb Gb fr) (hr:(own P fr cs).run P w=.ok (f',cs') w1):step P (lone fr cs w)=.next (lone f' cs' w1):=by
 have e:=own_go (main:=true) hF h hr
 exact step_lone_go (by
  show (stepG P true (G fr cs) w).bare=_
  rw [e]
  rfl)
theorem chain_run (hF:FnsOk P Fb Gb) (hG:P.globals.size ≤ L) {c:Nat → LnSt} {T:Nat → Question → Nat} (h0:OkSt P Fb Gb L (c 0)):∀ n,(∀ k,k < n → LStep P (c k) (c (k+1)) ∧ (own P (c k).1.1 (c k).1.2).run P (taped (c k).2 T)=.ok (c (k+1)).1 (taped (c (k+1)).2 T)) →
  OkSt P Fb Gb L (c n) ∧ runN P n (lone (c 0).1.1 (c 0).1.2 (taped (c 0).2 T))=.next (lone (c n).1.1 (c n).1.2 (taped (c n).2 T))
 | 0,_=>⟨h0,rfl⟩
 | n+1,hc=>by
  obtain ⟨h1,h2⟩:=chain_run hF hG h0 n fun k hk=>hc k (Nat.lt_succ_of_lt hk)
  obtain ⟨k1,k2⟩:=hc n (Nat.lt_succ_self _)
  refine ⟨ok_step hF hG h1 k1,?_⟩
  rw [runN_add,h2]
  show runN P 1 _=_
  simp only [runN]
  rw [lone_next hF (ok_frame h1) k2]
theorem tapes_join (d:Nat → Nat) (hd:∀ k,d k ≤ d (k+1)) (t:Nat → Nat → Question → Nat):∃ T:Nat → Question → Nat,∀ k j q,d k ≤ j → j < d (k+1) → T j q=t k j q:=by
 have mono:∀ a b,a ≤ b → d a ≤ d b:=fun a b h=>by
  induction h with
  | refl=>exact Nat.le_refl _
  | step _ ih=>exact Nat.le_trans ih (hd _)
 refine ⟨fun j q=>open Classical in if h:∃ k,d k ≤ j ∧ j < d (k+1) then t h.choose j q else 0,fun k j q h1 h2=>?_⟩
 have hk:∃ k,d k ≤ j ∧ j < d (k+1):=⟨k,h1,h2⟩
 dsimp only
 rw [dif_pos hk]
 have hc:=hk.choose_spec
 have:hk.choose=k:=by
  rcases Nat.lt_trichotomy hk.choose k with h | h | h
  ·
   have:=mono (hk.choose+1) k h
   have:=hc.2
   omega
  · exact h
  ·
   have:=mono (k+1) hk.choose h
   have:=hc.1
   omega
 rw [this]
theorem tapes_join_to (n:Nat) (d:Nat → Nat) (hd:∀ k,k < n → d k ≤ d (k+1)) (t:Nat → Nat → Question → Nat) (u:Nat → Question → Nat) :
  ∃ T:Nat → Question → Nat,(∀ k,k < n → ∀ j q,d k ≤ j → j < d (k+1) → T j q=t k j q) ∧ ∀ j q,d n ≤ j → T j q=u j q:=by
 obtain ⟨T,hT⟩:=tapes_join (fun k=>if k ≤ n then d k else d n+(k - n)) (fun k=>by
   by_cases h:k < n
   ·
    rw [if_pos (by omega),if_pos (by omega)]
    exact hd k h
   ·
    rw [if_neg (show ¬ k+1 ≤ n by omega)]
    split
    ·
     obtain rfl:k=n:=by omega
     omega
    · omega) (fun k=>if k < n then t k else u)
 refine ⟨T,fun k hk j q h1 h2=>?_,fun j q h=>?_⟩
 ·
  have:=hT k j q (by rw [if_pos (by omega)];exact h1) (by rw [if_pos (by omega)];exact h2)
  rwa [if_pos hk] at this
 ·
  have:=hT (n+(j - d n)) j q (by
   by_cases e:j - d n=0
   ·
    rw [e,if_pos (by omega)]
    exact h
   ·
    rw [if_neg (by omega)]
    omega) (by rw [if_neg (by omega)];omega)
  rwa [if_neg (by omega)] at this
section
variable {P:Program} {Fb Gb:Nat → Bool} {L:Nat} {f:FuncId} {args:Array Value} {w0:World} {Post:Ending → World → Prop}
structure Ends (P:Program) (f:FuncId) (args:Array Value) (w0:World) (Post:Ending → World → Prop):Prop where
 calls:∀ t,Calls P f args (taped w0 t) Post
 back:∀ e w,Post e w → ∃ v,e=.returned v
def start (P:Program) (f:FuncId) (args:Array Value) (w0:World):LnSt:=((Frame.enter P f args .normal,[pit]),w0)
theorem Ends.at (h:Ends P f args w0 Post) (t:Nat → Question → Nat):∃ n v fr w',Post (.returned v) w' ∧ runN P n (lone (Frame.enter P f args .normal) [pit] (taped w0 t))=.next (lone fr [pit] w') ∧ fr.leaving P w' (.returned v):=by
 obtain ⟨e,w',fr,hp,hc,-,hl⟩:=h.calls t [pit]
 obtain ⟨v,rfl⟩:=h.back e w' hp
 obtain ⟨n,hn⟩:=hc
 exact ⟨n,v,fr,w',hp,hn,hl⟩
theorem lone_inj {f f':Frame} {c c':List Frame} {w w':World} (h:lone f c w=lone f' c' w'):f=f' ∧ c=c' ∧ w=w':=by
 unfold lone at h
 simp only [Machine.mk.injEq,Array.mk.injEq,List.cons.injEq,Goroutine.mk.injEq,and_true] at h
 exact ⟨h.2.1,h.2.2,h.1⟩
theorem acc_start (hF:FnsOk P Fb Gb) (hG:P.globals.size ≤ L) (h:Ends P f args w0 Post) (h0:OkSt P Fb Gb L (start P f args w0)):Acc (fun y x=>LStep P x y) (start P f args w0):=by
 refine Classical.byContradiction fun hna=>?_
 have nxt:∀ x:{ x:LnSt // ¬ Acc (fun y x=>LStep P x y) x },∃ y:{ x:LnSt // ¬ Acc (fun y x=>LStep P x y) x },LStep P x.1 y.1:=fun ⟨x,hx⟩=>by
  refine Classical.byContradiction fun hno=>hx ⟨x,fun y hy=>Classical.byContradiction fun hna=>hno ⟨⟨y,hna⟩,hy⟩⟩
 let c:Nat → { x:LnSt // ¬ Acc (fun y x=>LStep P x y) x }:=fun n=>Nat.rec ⟨start P f args w0,hna⟩ (fun _ x=>(nxt x).choose) n
 have hc:∀ n,LStep P (c n).1 (c (n+1)).1:=fun n=>(nxt (c n)).choose_spec
 have hok:∀ n,OkSt P Fb Gb L (c n).1:=fun n=>by
  induction n with
  | zero=>exact h0
  | succ n ih=>exact ok_step hF hG ih (hc n)
 have ht:∀ n,∃ t,(own P (c n).1.1.1 (c n).1.1.2).run P (taped (c n).1.2 t)=.ok (c (n+1)).1.1 (c (n+1)).1.2:=fun n=>(hc n).2
 obtain ⟨T,hT⟩:=tapes_join (fun n=>(c n).1.2.drawn) (fun n=>(ok_retape hF hG (hok n) (hc n).1 (ht n).choose_spec).2.1) (fun n=>(ht n).choose)
 obtain ⟨n,v,fr,w',-,hn,hl⟩:=h.at T
 have:=(chain_run (c:=fun n=>(c n).1) (T:=T) hF hG h0 n fun k _=>⟨hc k,(ok_retape hF hG (hok k) (hc k).1 (ht k).choose_spec).2.2 T (hT k)⟩).2
 have e:runN P n (lone (Frame.enter P f args .normal) [pit] (taped w0 T))=.next (lone (c n).1.1.1 (c n).1.1.2 (taped (c n).1.2 T)):=this
 rw [hn] at e
 obtain ⟨e1,e2,-⟩:=lone_inj (Stepped.next.inj e)
 exact (hc n).1 ⟨e1 ▸ hl.1,e2.symm⟩
end
end
end Go.Proofs.YtbokomeejmnnoaaDoor
