/- Own facts, put together: no statement of its own. -/
import Derived.Test.YtbokomeejmnnoaaDoorD18
import Derived.Conc.Own
import Derived.Conc.Events
import Derived.Test.YtbokomeejmnnoaaDoorD10
import Derived.Test.YtbokomeejmnnoaaDoorD01

set_option maxRecDepth 100000
set_option linter.unusedSimpArgs false
namespace Go.Proofs.YtbokomeejmnnoaaDoor
open Go.Conc Go.RowKit Go.Conc.Lib Go.ConcR.Gen
theorem Walk.enter {P:Program} {main:Bool} {F:World → Prop} {Ev:Event → Prop} {n:Nat} {g'':Goroutine} {b:Frame} {a:Act} {k:List Item} {cs:List Frame} {ops:Array Oper} {i:Nat} {rest:List Nat} {o:Oper} (f:FuncId) (args:Array Value) (ho:ops[i]? = some o) (hw:Region.wanted o (yielded ops a.tmps)=true) (hk:b.kind ≠ .early)
  (hr:∀ w,(execOp a.eval o).run P w=.ok (.enter f args) w) (he:∀ w,(execOp a.eval o).events P w #[] = #[])
  (hq:Walk P main F Ev n (G (Frame.enter P f args .normal) (b.at a (.inRegion ops (i :: rest) :: k) :: cs)) g''):Walk P main F Ev (n+1) (G (b.at a (.inRegion ops (i :: rest) :: k)) cs) g'':=
 .c rfl (fun w=>by rw [stepG_enter ho hw hk (hr w)];unfold listed;rw [he w,seen_none]) hq
def doneC (wg:Nat):List Deferred:=[dcall 24 #[.pointer (some ⟨wg,0,none⟩)]]
def wkK (f:Func):List Item:=[.inLoop (loopC f),.inBlock 0]
def recvOps (f:Func):Array Oper:=opsC (firstC (loopC f))
def gotC (f:Func):Code:=innerC (secondC (secondC (loopC f)))
def callOps (f:Func):Array Oper:=opsC (firstC (secondC (gotC f)))
def sendC (f:Func):Code:=secondC (secondC (gotC f))
def sendOps (f:Func):Array Oper:=opsC (sendC f)
section
variable {F:World → Prop} {Ev:Event → Prop} {wg bn ba br cn cr bl bp i:Nat} {t4 t5 t6 t8 t9 t10 t11 t12 t13 t14 t15 t16 t17 t18 t19 t20 t21:Value}
theorem wk_got (hF:∀ w,F w → w.cell? ⟨ba,0,none⟩=some (.func (.func 15) #[] #[.pointer (some ⟨bl,0,none⟩),.pointer (some ⟨bp,0,none⟩)])) (hE:Ev ⟨.cell ⟨ba,0,none⟩,false,false⟩) :
  Walk Tryd.prog false F Ev 16 (G (wkB.at ⟨#[.pointer (some ⟨wg,0,none⟩),.pointer (some ⟨bn,0,none⟩),.pointer (some ⟨ba,0,none⟩),.pointer (some ⟨br,0,none⟩),t4,t5,t6,.chan (some cn),.tuple #[.int .i64 i,.bool true],t9,t10,t11,t12,t13,t14,t15,t16,t17,t18,t19,t20,t21],doneC wg⟩
    (.inRegion (recvOps Tryd.f23) [1] :: .code (secondC (loopC Tryd.f23)) :: wkK Tryd.f23)) [wkBot Tryd.prog])
   (G (Frame.enter Tryd.prog 15 (answerArgs bl bp i) .normal) [wkB.at ⟨#[.pointer (some ⟨wg,0,none⟩),.pointer (some ⟨bn,0,none⟩),.pointer (some ⟨ba,0,none⟩),.pointer (some ⟨br,0,none⟩),.int .i64 i,t5,t6,.chan (some cn),.tuple #[.int .i64 i,.bool true],.bool true,.int .i64 i,t11,.func (.func 15) #[] #[.pointer (some ⟨bl,0,none⟩),.pointer (some ⟨bp,0,none⟩)],.int .i64 i,t14,t15,t16,t17,t18,t19,t20,t21],doneC wg⟩
    (.inRegion (callOps Tryd.f23) [2,3,4,5,6,7] :: .code (sendC Tryd.f23) :: .inBlock 1 :: wkK Tryd.f23),wkBot Tryd.prog]):=by
 simp only [bodyC,loopC,innerC,secondC,firstC,opsC,recvOps,callOps,sendC,gotC,wkK,Tryd.f23,Option.getD_some]
 refine Walk.value (.bool true) rfl rfl (by decide) (fun w=>by go_simp) (fun w=>by simp [go_sem]) ?_;try walk_nrm
 refine Walk.c rfl (fun _=>stepG_region_end) ?_;try walk_nrm
 refine Walk.c rfl (fun _=>stepG_seq) ?_;try walk_nrm
 refine Walk.c rfl (fun _=>stepG_cond (t:=true) rfl) ?_;try walk_nrm
 simp only [if_true]
 refine Walk.c rfl (fun _=>stepG_skip) ?_;try walk_nrm
 refine Walk.c rfl (fun _=>stepG_block) ?_;try walk_nrm
 refine Walk.c rfl (fun _=>stepG_seq) ?_;try walk_nrm
 refine Walk.c rfl (fun _=>stepG_region) ?_;try simp only [List.size_toArray,List.length_cons,List.length_nil,Nat.reduceAdd,Nat.zero_add,List.range,List.range.loop];try walk_nrm
 refine Walk.value (.int .i64 i) rfl rfl (by decide) (fun w=>by go_simp) (fun w=>by simp [go_sem]) ?_;try walk_nrm
 refine Walk.value (.int .i64 i) rfl rfl (by decide) (fun w=>by go_simp) (fun w=>by simp [go_sem]) ?_;try walk_nrm
 refine Walk.c rfl (fun _=>stepG_region_end) ?_;try walk_nrm
 refine Walk.c rfl (fun _=>stepG_seq) ?_;try walk_nrm
 refine Walk.c rfl (fun _=>stepG_region) ?_;try simp only [List.size_toArray,List.length_cons,List.length_nil,Nat.reduceAdd,Nat.zero_add,List.range,List.range.loop];try walk_nrm
 refine Walk.load (ad:=⟨ba,0,none⟩) (.func (.func 15) #[] #[.pointer (some ⟨bl,0,none⟩),.pointer (some ⟨bp,0,none⟩)]) rfl rfl (by decide) (fun w h=>?_) (fun w h=>?_) hE ?_
 ·
  have h1:=hF w h
  go_simp
 ·
  have h1:=hF w h
  simp [go_sem, *]
 try walk_nrm
 refine Walk.value (.int .i64 i) rfl rfl (by decide) (fun w=>by go_simp) (fun w=>by simp [go_sem]) ?_;try walk_nrm
 refine Walk.enter 15 (answerArgs bl bp i) rfl rfl (by decide) (fun w=>?_) (fun w=>?_) ?_
 · go_simp
 · simp [go_sem,callFunc,Tryd.func15,Tryd.f15]
 try walk_nrm
 exact Walk.refl _
theorem wk_made {d:Int} {y:Value} (hy:y=.nilIface ∨ ∃ t v,y=.iface t v) (hF:∀ w,F w → w.cell? ⟨br,0,none⟩=some (.chan (some cr))) (hE:Ev ⟨.cell ⟨br,0,none⟩,false,false⟩) :
  Walk Tryd.prog false F Ev 12 (G (wkB.at ⟨#[.pointer (some ⟨wg,0,none⟩),.pointer (some ⟨bn,0,none⟩),.pointer (some ⟨ba,0,none⟩),.pointer (some ⟨br,0,none⟩),.int .i64 i,t5,t6,.chan (some cn),t8,t9,t10,t11,t12,t13,.tuple #[.int .i64 d,y],t15,t16,t17,t18,t19,t20,t21],doneC wg⟩
    (.inRegion (callOps Tryd.f23) [3,4,5,6,7] :: .code (sendC Tryd.f23) :: .inBlock 1 :: wkK Tryd.f23)) [wkBot Tryd.prog])
  (G (wkB.at ⟨#[.pointer (some ⟨wg,0,none⟩),.pointer (some ⟨bn,0,none⟩),.pointer (some ⟨ba,0,none⟩),.pointer (some ⟨br,0,none⟩),.int .i64 i,.int .i64 d,y,.chan (some cn),t8,t9,t10,.tuple #[.int .i64 d,y],t12,t13,.tuple #[.int .i64 d,y],.int .i64 d,y,.chan (some cr),.int .i64 i,.int .i64 d,y,.agg #[.int .i64 i,.int .i64 d,y]],doneC wg⟩
    (.inRegion (sendOps Tryd.f23) [5] :: .inBlock 1 :: wkK Tryd.f23)) [wkBot Tryd.prog]):=by
 rcases hy with rfl | ⟨t,v,rfl⟩
 ·
  simp only [bodyC,loopC,innerC,secondC,firstC,opsC,recvOps,callOps,sendC,sendOps,gotC,wkK,Tryd.f23,Option.getD_some]
  refine Walk.value (.tuple #[.int .i64 d,.nilIface]) rfl rfl (by decide) (fun w=>by go_simp) (fun w=>by simp [go_sem]) ?_;try walk_nrm
  refine Walk.value (.int .i64 d) rfl rfl (by decide) (fun w=>by go_simp) (fun w=>by simp [go_sem]) ?_;try walk_nrm
  refine Walk.value .nilIface rfl rfl (by decide) (fun w=>by go_simp) (fun w=>by simp [go_sem]) ?_;try walk_nrm
  refine Walk.value (.int .i64 d) rfl rfl (by decide) (fun w=>by go_simp) (fun w=>by simp [go_sem]) ?_;try walk_nrm
  refine Walk.value .nilIface rfl rfl (by decide) (fun w=>by go_simp) (fun w=>by simp [go_sem]) ?_;try walk_nrm
  refine Walk.c rfl (fun _=>stepG_region_end) ?_;try walk_nrm
  refine Walk.c rfl (fun _=>stepG_region) ?_;try simp only [List.size_toArray,List.length_cons,List.length_nil,Nat.reduceAdd,Nat.zero_add,List.range,List.range.loop];try walk_nrm
  refine Walk.load (ad:=⟨br,0,none⟩) (.chan (some cr)) rfl rfl (by decide) (fun w h=>?_) (fun w h=>?_) hE ?_
  ·
   have h1:=hF w h
   go_simp
  ·
   have h1:=hF w h
   simp [go_sem, *]
  try walk_nrm
  refine Walk.value (.int .i64 i) rfl rfl (by decide) (fun w=>by go_simp) (fun w=>by simp [go_sem]) ?_;try walk_nrm
  refine Walk.value (.int .i64 d) rfl rfl (by decide) (fun w=>by go_simp) (fun w=>by simp [go_sem]) ?_;try walk_nrm
  refine Walk.value .nilIface rfl rfl (by decide) (fun w=>by go_simp) (fun w=>by simp [go_sem]) ?_;try walk_nrm
  refine Walk.value (.agg #[.int .i64 i,.int .i64 d,.nilIface]) rfl rfl (by decide) (fun w=>by go_simp) (fun w=>by simp [go_sem]) ?_;try walk_nrm
  exact Walk.refl _
 ·
  simp only [bodyC,loopC,innerC,secondC,firstC,opsC,recvOps,callOps,sendC,sendOps,gotC,wkK,Tryd.f23,Option.getD_some]
  refine Walk.value (.tuple #[.int .i64 d,.iface t v]) rfl rfl (by decide) (fun w=>by go_simp) (fun w=>by simp [go_sem]) ?_;try walk_nrm
  refine Walk.value (.int .i64 d) rfl rfl (by decide) (fun w=>by go_simp) (fun w=>by simp [go_sem]) ?_;try walk_nrm
  refine Walk.value (.iface t v) rfl rfl (by decide) (fun w=>by go_simp) (fun w=>by simp [go_sem]) ?_;try walk_nrm
  refine Walk.value (.int .i64 d) rfl rfl (by decide) (fun w=>by go_simp) (fun w=>by simp [go_sem]) ?_;try walk_nrm
  refine Walk.value (.iface t v) rfl rfl (by decide) (fun w=>by go_simp) (fun w=>by simp [go_sem]) ?_;try walk_nrm
  refine Walk.c rfl (fun _=>stepG_region_end) ?_;try walk_nrm
  refine Walk.c rfl (fun _=>stepG_region) ?_;try simp only [List.size_toArray,List.length_cons,List.length_nil,Nat.reduceAdd,Nat.zero_add,List.range,List.range.loop];try walk_nrm
  refine Walk.load (ad:=⟨br,0,none⟩) (.chan (some cr)) rfl rfl (by decide) (fun w h=>?_) (fun w h=>?_) hE ?_
  ·
   have h1:=hF w h
   go_simp
  ·
   have h1:=hF w h
   simp [go_sem, *]
  try walk_nrm
  refine Walk.value (.int .i64 i) rfl rfl (by decide) (fun w=>by go_simp) (fun w=>by simp [go_sem]) ?_;try walk_nrm
  refine Walk.value (.int .i64 d) rfl rfl (by decide) (fun w=>by go_simp) (fun w=>by simp [go_sem]) ?_;try walk_nrm
  refine Walk.value (.iface t v) rfl rfl (by decide) (fun w=>by go_simp) (fun w=>by simp [go_sem]) ?_;try walk_nrm
  refine Walk.value (.agg #[.int .i64 i,.int .i64 d,.iface t v]) rfl rfl (by decide) (fun w=>by go_simp) (fun w=>by simp [go_sem]) ?_;try walk_nrm
  exact Walk.refl _
theorem wk_sent :
  Walk Tryd.prog false F Ev 5 (G (wkB.at ⟨#[.pointer (some ⟨wg,0,none⟩),.pointer (some ⟨bn,0,none⟩),.pointer (some ⟨ba,0,none⟩),.pointer (some ⟨br,0,none⟩),t4,t5,t6,.chan (some cn),t8,t9,t10,t11,t12,t13,t14,t15,t16,t17,t18,t19,t20,t21],doneC wg⟩
    (.inRegion (sendOps Tryd.f23) [] :: .inBlock 1 :: wkK Tryd.f23)) [wkBot Tryd.prog])
   (G (wkB.at ⟨#[.pointer (some ⟨wg,0,none⟩),.pointer (some ⟨bn,0,none⟩),.pointer (some ⟨ba,0,none⟩),.pointer (some ⟨br,0,none⟩),t4,t5,t6,.chan (some cn),t8,t9,t10,t11,t12,t13,t14,t15,t16,t17,t18,t19,t20,t21],doneC wg⟩
    (.inRegion (recvOps Tryd.f23) [0,1] :: .code (secondC (loopC Tryd.f23)) :: wkK Tryd.f23)) [wkBot Tryd.prog]):=by
 simp only [bodyC,loopC,innerC,secondC,firstC,opsC,recvOps,callOps,sendC,sendOps,gotC,wkK,Tryd.f23,Option.getD_some]
 refine Walk.c rfl (fun _=>stepG_region_end) ?_;try walk_nrm
 refine Walk.c rfl (fun _=>stepG_inBlock) ?_;try walk_nrm
 refine Walk.c rfl (fun _=>stepG_inLoop) ?_;try walk_nrm
 refine Walk.c rfl (fun _=>stepG_seq) ?_;try walk_nrm
 refine Walk.c rfl (fun _=>stepG_region) ?_;try simp only [List.size_toArray,List.length_cons,List.length_nil,Nat.reduceAdd,Nat.zero_add,List.range,List.range.loop];try walk_nrm
 exact Walk.refl _
theorem wk_closed :
  Walk Tryd.prog false F Ev 6 (G (wkB.at ⟨#[.pointer (some ⟨wg,0,none⟩),.pointer (some ⟨bn,0,none⟩),.pointer (some ⟨ba,0,none⟩),.pointer (some ⟨br,0,none⟩),t4,t5,t6,.chan (some cn),.tuple #[.int .i64 0,.bool false],t9,t10,t11,t12,t13,t14,t15,t16,t17,t18,t19,t20,t21],doneC wg⟩
    (.inRegion (recvOps Tryd.f23) [1] :: .code (secondC (loopC Tryd.f23)) :: wkK Tryd.f23)) [wkBot Tryd.prog])
   (G { wkB.at ⟨#[.pointer (some ⟨wg,0,none⟩),.pointer (some ⟨bn,0,none⟩),.pointer (some ⟨ba,0,none⟩),.pointer (some ⟨br,0,none⟩),t4,t5,t6,.chan (some cn),.tuple #[.int .i64 0,.bool false],.bool false,t10,t11,t12,t13,t14,t15,t16,t17,t18,t19,t20,t21],doneC wg⟩ [] with mode:=.returning } [wkBot Tryd.prog]):=by
 simp only [bodyC,loopC,innerC,secondC,firstC,opsC,recvOps,callOps,sendC,sendOps,gotC,wkK,Tryd.f23,Option.getD_some]
 refine Walk.value (.bool false) rfl rfl (by decide) (fun w=>by go_simp) (fun w=>by simp [go_sem]) ?_;try walk_nrm
 refine Walk.c rfl (fun _=>stepG_region_end) ?_;try walk_nrm
 refine Walk.c rfl (fun _=>stepG_seq) ?_;try walk_nrm
 refine Walk.c rfl (fun _=>stepG_cond (t:=false) rfl) ?_;try walk_nrm
 simp only [Bool.false_eq_true,if_false]
 refine Walk.c rfl (fun _=>stepG_exit rfl) ?_;try walk_nrm
 refine Walk.c rfl (fun _=>stepG_end) ?_;try walk_nrm
 exact Walk.refl _
end
end Go.Proofs.YtbokomeejmnnoaaDoor

set_option maxRecDepth 100000
namespace Go.Proofs.YtbokomeejmnnoaaDoor
open Go.Conc Go.RowKit Go.Conc.Lib Go.ConcR.Gen
structure WkV where
 (wg bn ba br cn cr bl bp:Nat)
structure WkT where
 (t4 t5 t6 t8 t9 t10 t11 t12 t13 t14 t15 t16 t17 t18 t19 t20 t21:Value)
structure WkF (v:WkV) (w:World):Prop where
 bn:w.cell? ⟨v.bn,0,none⟩=some (.chan (some v.cn))
 ba:w.cell? ⟨v.ba,0,none⟩=some (.func (.func 15) #[] #[.pointer (some ⟨v.bl,0,none⟩),.pointer (some ⟨v.bp,0,none⟩)])
 br:w.cell? ⟨v.br,0,none⟩=some (.chan (some v.cr))
def WkE (v:WkV) (e:Event):Prop:=∃ b,(b=v.bn ∨ b=v.ba ∨ b=v.br) ∧ e=⟨.cell ⟨b,0,none⟩,false,false⟩
def wkRecv (f:Func) (P:Program) (v:WkV) (t:WkT):Goroutine:=G (wkB.at ⟨#[.pointer (some ⟨v.wg,0,none⟩),.pointer (some ⟨v.bn,0,none⟩),.pointer (some ⟨v.ba,0,none⟩),.pointer (some ⟨v.br,0,none⟩),t.t4,t.t5,t.t6,.chan (some v.cn),t.t8,t.t9,t.t10,t.t11,t.t12,t.t13,t.t14,t.t15,t.t16,t.t17,t.t18,t.t19,t.t20,t.t21],doneC v.wg⟩ (.inRegion (recvOps f) [0,1] :: .code (secondC (loopC f)) :: wkK f)) [wkBot P]
def wkGot (f:Func) (P:Program) (v:WkV) (t:WkT) (x:Value) (ok:Bool):Goroutine:=G (wkB.at ⟨#[.pointer (some ⟨v.wg,0,none⟩),.pointer (some ⟨v.bn,0,none⟩),.pointer (some ⟨v.ba,0,none⟩),.pointer (some ⟨v.br,0,none⟩),t.t4,t.t5,t.t6,.chan (some v.cn),.tuple #[x,.bool ok],t.t9,t.t10,t.t11,t.t12,t.t13,t.t14,t.t15,t.t16,t.t17,t.t18,t.t19,t.t20,t.t21],doneC v.wg⟩ (.inRegion (recvOps f) [1] :: .code (secondC (loopC f)) :: wkK f)) [wkBot P]
def wkCaller (f:Func) (v:WkV) (t:WkT) (i:Nat):Frame:=wkB.at ⟨#[.pointer (some ⟨v.wg,0,none⟩),.pointer (some ⟨v.bn,0,none⟩),.pointer (some ⟨v.ba,0,none⟩),.pointer (some ⟨v.br,0,none⟩),.int .i64 i,t.t5,t.t6,.chan (some v.cn),t.t8,t.t9,t.t10,t.t11,t.t12,t.t13,t.t14,t.t15,t.t16,t.t17,t.t18,t.t19,t.t20,t.t21],doneC v.wg⟩ (.inRegion (callOps f) [2,3,4,5,6,7] :: .code (sendC f) :: .inBlock 1 :: wkK f)
def wkMade (f:Func) (P:Program) (v:WkV) (t:WkT) (i:Nat) (x y:Value):Goroutine:=G (wkB.at ⟨#[.pointer (some ⟨v.wg,0,none⟩),.pointer (some ⟨v.bn,0,none⟩),.pointer (some ⟨v.ba,0,none⟩),.pointer (some ⟨v.br,0,none⟩),.int .i64 i,t.t5,t.t6,.chan (some v.cn),t.t8,t.t9,t.t10,t.t11,t.t12,t.t13,.tuple #[x,y],t.t15,t.t16,t.t17,t.t18,t.t19,t.t20,t.t21],doneC v.wg⟩ (.inRegion (callOps f) [3,4,5,6,7] :: .code (sendC f) :: .inBlock 1 :: wkK f)) [wkBot P]
def wkSend (f:Func) (P:Program) (v:WkV) (t:WkT) (x:Value):Goroutine:=G (wkB.at ⟨#[.pointer (some ⟨v.wg,0,none⟩),.pointer (some ⟨v.bn,0,none⟩),.pointer (some ⟨v.ba,0,none⟩),.pointer (some ⟨v.br,0,none⟩),t.t4,t.t5,t.t6,.chan (some v.cn),t.t8,t.t9,t.t10,t.t11,t.t12,t.t13,t.t14,t.t15,t.t16,.chan (some v.cr),t.t18,t.t19,t.t20,x],doneC v.wg⟩ (.inRegion (sendOps f) [5] :: .inBlock 1 :: wkK f)) [wkBot P]
def wkSent (f:Func) (P:Program) (v:WkV) (t:WkT):Goroutine:=G (wkB.at ⟨#[.pointer (some ⟨v.wg,0,none⟩),.pointer (some ⟨v.bn,0,none⟩),.pointer (some ⟨v.ba,0,none⟩),.pointer (some ⟨v.br,0,none⟩),t.t4,t.t5,t.t6,.chan (some v.cn),t.t8,t.t9,t.t10,t.t11,t.t12,t.t13,t.t14,t.t15,t.t16,t.t17,t.t18,t.t19,t.t20,t.t21],doneC v.wg⟩ (.inRegion (sendOps f) [] :: .inBlock 1 :: wkK f)) [wkBot P]
def wkOut (P:Program) (v:WkV) (t:WkT):Goroutine:=G { wkB.at ⟨#[.pointer (some ⟨v.wg,0,none⟩),.pointer (some ⟨v.bn,0,none⟩),.pointer (some ⟨v.ba,0,none⟩),.pointer (some ⟨v.br,0,none⟩),t.t4,t.t5,t.t6,.chan (some v.cn),t.t8,t.t9,t.t10,t.t11,t.t12,t.t13,t.t14,t.t15,t.t16,t.t17,t.t18,t.t19,t.t20,t.t21],doneC v.wg⟩ [] with mode:=.returning } [wkBot P]
section
variable {v:WkV} {t:WkT}
theorem WkE.of {b:Nat} (h:b=v.bn ∨ b=v.ba ∨ b=v.br):WkE v ⟨.cell ⟨b,0,none⟩,false,false⟩:=⟨b,h,rfl⟩
theorem wk_born:∃ t,Walk Tryd.prog false (WkF v) (WkE v) 13 (born Tryd.prog (wkCall v.wg v.bn v.ba v.br)) (wkRecv Tryd.f23 Tryd.prog v t):=
 ⟨⟨undef,undef,undef,undef,undef,undef,undef,undef,undef,undef,undef,undef,undef,undef,undef,undef,undef⟩,wk_first (F:=WkF v) (Ev:=WkE v) (fun _ h=>h.bn) (.of (.inl rfl))⟩
theorem wk_calls (i:Nat):∃ t',Walk Tryd.prog false (WkF v) (WkE v) 16 (wkGot Tryd.f23 Tryd.prog v t (.int .i64 i) true) (G (Frame.enter Tryd.prog 15 (answerArgs v.bl v.bp i) .normal) [wkCaller Tryd.f23 v t' i,wkBot Tryd.prog]):=
 ⟨⟨t.t4,t.t5,t.t6,.tuple #[.int .i64 i,.bool true],.bool true,.int .i64 i,t.t11,.func (.func 15) #[] #[.pointer (some ⟨v.bl,0,none⟩),.pointer (some ⟨v.bp,0,none⟩)],.int .i64 i,t.t14,t.t15,t.t16,t.t17,t.t18,t.t19,t.t20,t.t21⟩,wk_got (F:=WkF v) (Ev:=WkE v) (fun _ h=>h.ba) (.of (.inr (.inl rfl)))⟩
theorem wk_sends {i:Nat} {d:Int} {y:Value} (hy:y=.nilIface ∨ ∃ t v,y=.iface t v):∃ t',Walk Tryd.prog false (WkF v) (WkE v) 12 (wkMade Tryd.f23 Tryd.prog v t i (.int .i64 d) y) (wkSend Tryd.f23 Tryd.prog v t' (.agg #[.int .i64 i,.int .i64 d,y])):=
 ⟨⟨.int .i64 i,.int .i64 d,y,t.t8,t.t9,t.t10,.tuple #[.int .i64 d,y],t.t12,t.t13,.tuple #[.int .i64 d,y],.int .i64 d,y,t.t17,.int .i64 i,.int .i64 d,y,t.t21⟩,wk_made (F:=WkF v) (Ev:=WkE v) hy (fun _ h=>h.br) (.of (.inr (.inr rfl)))⟩
theorem wk_back:Walk Tryd.prog false (WkF v) (WkE v) 5 (wkSent Tryd.f23 Tryd.prog v t) (wkRecv Tryd.f23 Tryd.prog v t):=wk_sent
theorem wk_leaves:∃ t',Walk Tryd.prog false (WkF v) (WkE v) 6 (wkGot Tryd.f23 Tryd.prog v t (.int .i64 0) false) (wkOut Tryd.prog v t'):=
 ⟨⟨t.t4,t.t5,t.t6,.tuple #[.int .i64 0,.bool false],.bool false,t.t10,t.t11,t.t12,t.t13,t.t14,t.t15,t.t16,t.t17,t.t18,t.t19,t.t20,t.t21⟩,wk_closed⟩
theorem wk_asks (w:World):stepG Tryd.prog false (wkRecv Tryd.f23 Tryd.prog v t) w=.comm (wkRecv Tryd.f23 Tryd.prog v t) #[⟨.chan (some v.cn),none,.int .i64 0⟩] true (.recv true) w #[]:=by
 unfold wkRecv recvOps
 simp only [opsC,firstC,loopC,innerC,secondC,bodyC,Tryd.f23,Option.getD_some]
 rw [stepG_comm (cases:=#[⟨.chan (some v.cn),none,.int .i64 0⟩]) (blocking:=true) (shape:=.recv true) (w':=w) rfl rfl (by decide) (by go_simp)]
 congr 1
theorem wk_offers {x:Value} (w:World):stepG Tryd.prog false (wkSend Tryd.f23 Tryd.prog v t x) w=.comm (wkSend Tryd.f23 Tryd.prog v t x) #[⟨.chan (some v.cr),some x,undef⟩] true .send w #[]:=by
 unfold wkSend sendOps
 simp only [opsC,loopC,innerC,secondC,bodyC,sendC,gotC,Tryd.f23,Option.getD_some]
 rw [stepG_comm (cases:=#[⟨.chan (some v.cr),some x,undef⟩]) (blocking:=true) (shape:=.send) (w':=w) rfl rfl (by decide) (by go_simp;rfl)]
 congr 1
theorem wk_takes (g:Goroutine) {cs:Array CommCase} {k:Int} {x:Value} {ok:Bool} (h:{ g with status:=.running,offers:=none }=wkRecv Tryd.f23 Tryd.prog v t):g.finishComm Tryd.prog cs (.recv true) k x ok=wkGot Tryd.f23 Tryd.prog v t x ok:=by
 have e:g.finishComm Tryd.prog cs (.recv true) k x ok=({ g with status:=.running,offers:=none }:Goroutine).finishComm Tryd.prog cs (.recv true) k x ok:=rfl
 rw [e,h]
 rfl
theorem wk_gives (g:Goroutine) {cs:Array CommCase} {k:Int} {x y:Value} {ok:Bool} (h:{ g with status:=.running,offers:=none }=wkSend Tryd.f23 Tryd.prog v t x):∃ t',g.finishComm Tryd.prog cs .send k y ok=wkSent Tryd.f23 Tryd.prog v t':=by
 have e:g.finishComm Tryd.prog cs .send k y ok=({ g with status:=.running,offers:=none }:Goroutine).finishComm Tryd.prog cs .send k y ok:=rfl
 rw [e,h]
 exact ⟨{ t with t17:=.chan (some v.cr),t21:=x },rfl⟩
end
end Go.Proofs.YtbokomeejmnnoaaDoor

namespace Go.Proofs.YtbokomeejmnnoaaDoor
structure Mask (H:Nat → Prop) (v w:World):Prop where
 size:w.heap.size=v.heap.size
 seen:∀ b,¬ H b → (w.heap[b]? = v.heap[b]? ∧ ∀ c e,v.heap[b]? ≠ some (.pending c e)) ∨ ∃ c e,w.heap[b]? = some (.pending c e) ∧ v.heap[b]? = some (.coro none)
 hid:∀ b,H b → ∃ c e,w.heap[b]? = some (.cells c e (0,0)) ∧ v.heap[b]? = some (.cells #[] e (0,0))
 tape:∀ j q,w.tape (w.drawn+j) q=v.tape (v.drawn+j) q
 os:w.os=v.os
 output:w.output=v.output
structure Kept (H:Nat → Prop) (w w':World):Prop where
 size:w.heap.size ≤ w'.heap.size
 hid:∀ b,H b → w'.heap[b]? = w.heap[b]?
 tape:w'.tape=w.tape
 drawn:w.drawn ≤ w'.drawn
 os:w'.os=w.os
 output:w'.output=w.output
 others:∀ (b:Nat) o,w.heap[b]? = some o → (∀ c t fz,o ≠ .cells c t fz) → w'.heap[b]? = some o
theorem Kept.refl (H:Nat → Prop) (w:World):Kept H w w:=⟨Nat.le_refl _,fun _ _=>rfl,rfl,Nat.le_refl _,rfl,rfl,fun _ _ h _=>h⟩
theorem Kept.trans {H:Nat → Prop} {a b c:World} (h:Kept H a b) (k:Kept H b c):Kept H a c:=
 ⟨Nat.le_trans h.size k.size,fun x hx=>(k.hid x hx).trans (h.hid x hx),k.tape.trans h.tape,Nat.le_trans h.drawn k.drawn,k.os.trans h.os,k.output.trans h.output,fun b o hb ho=>k.others b o (h.others b o hb ho) ho⟩
def OffH (H:Nat → Prop) (n:Nat) (e:Event):Prop:=(∀ a,e.loc=.cell a → ¬ H a.block ∧ a.block < n) ∧ (∀ r,e.loc=.obj r → ¬ H r ∧ r < n) ∧ e.loc ≠ .output ∧ (∀ m,e.loc=.mark m → m=.noRoom ∨ ∃ f,m=.extern f)
theorem OffH.mono {H:Nat → Prop} {n m:Nat} (h:n ≤ m) {e:Event} (x:OffH H n e):OffH H m e:=
 ⟨fun a ha=>⟨(x.1 a ha).1,Nat.lt_of_lt_of_le (x.1 a ha).2 h⟩,fun r hr=>⟨(x.2.1 r hr).1,Nat.lt_of_lt_of_le (x.2.1 r hr).2 h⟩,x.2.2⟩
def MSimAt {α:Type} (P:Program) (H:Nat → Prop) (m:Sem α) (v w:World):Prop:=(∃ h v',m.run P v=.halt h v' ∧ Mild h) ∨ ∃ a v' w' u,m.run P v=.ok a v' ∧ m.run P w=.ok a w' ∧ Mask H v' w' ∧ Kept H w w' ∧
 (∀ es,m.events P w es=es ++ u) ∧ (∀ e ∈ u,OffH H w'.heap.size e) ∧ LocTp P m v a v'
def MSim {α:Type} (P:Program) (H:Nat → Prop) (m:Sem α):Prop:=∀ v w,Mask H v w → MSimAt P H m v w
section
variable {α β:Type} {P:Program} {H:Nat → Prop} {v w:World}
theorem msim_pure (a:α):MSim P H (pure a:Sem α):=fun v w h=>
 .inr ⟨a,v,w,#[],rfl,rfl,h,Kept.refl _ _,fun es=>by simp,by simp,rfl,Nat.le_refl _,fun _ _=>rfl⟩
theorem msim_halt (x:Halt) (hx:Mild x:=by trivial):MSim P H (Sem.halt x:Sem α):=fun v _ _=>.inl ⟨x,v,rfl,hx⟩
theorem msim_stuck (m:String):MSim P H (stuck m:Sem α):=fun v _ _=>.inl ⟨.stuck m,v,rfl,trivial⟩
theorem msim_bindR {s:Sem α} {f:α → Sem β} (h:MSim P H s) (k:∀ a,(∃ w w',s.run P w=.ok a w') → MSim P H (f a)):MSim P H (s >>= f):=fun v w hm=>by
 rcases h v w hm with ⟨x,v1,h1,hx⟩ | ⟨a,v1,w1,u1,h0,h1,h2,h3,h4,h5,h6⟩
 · exact .inl ⟨x,v1,by simp [h1],hx⟩
 ·
  rcases k a ⟨v,v1,h0⟩ v1 w1 h2 with ⟨x,v2,k1,hx⟩ | ⟨b,v2,w2,u2,k0,k1,k2,k3,k4,k5,k6⟩
  · exact .inl ⟨x,v2,by simp [h0,k1],hx⟩
  ·
   refine .inr ⟨b,v2,w2,u1 ++ u2,by simp [h0,k0],by simp [h1,k1],k2,h3.trans k3,fun es=>by simp [h1,h4,k4,Array.append_assoc],fun x hx=>?_,h6.bind k6⟩
   rcases Array.mem_append.1 hx with hx | hx
   · exact (h5 x hx).mono k3.size
   · exact k5 x hx
theorem msim_bind {s:Sem α} {f:α → Sem β} (h:MSim P H s) (k:∀ a,MSim P H (f a)):MSim P H (s >>= f):=msim_bindR h fun a _=>k a
theorem msim_program {f:Program → Sem α} (h:MSim P H (f P)):MSim P H (program >>= f):=fun v w hm=>h v w hm
theorem msim_ite {c:Prop} [Decidable c] {s t:Sem α} (h:MSim P H s) (k:MSim P H t):MSim P H (if c then s else t):=by
 split
 · exact h
 · exact k
theorem msim_choose (q:Question):MSim P H (choose q):=fun v w hm=>by
 by_cases hf:q.forced=true
 · exact .inr ⟨0,v,w,#[],by simp only [choose,Sem.run,hf,if_true],by simp only [choose,Sem.run,hf,if_true],hm,Kept.refl _ _,fun es=>by simp [choose,Sem.events,Sem.runT,hf],by simp,rfl,Nat.le_refl _,fun t _=>by simp only [choose,Sem.run,hf,if_true]⟩
 ·
  refine .inr ⟨_,{ v with drawn:=v.drawn+1 },{ w with drawn:=w.drawn+1 },#[],by simp only [choose,Sem.run,hf];rfl,by
   have:=hm.tape 0 q
   simp only [Nat.add_zero] at this
   simp only [choose,Sem.run,hf,this]
   rfl,⟨hm.size,hm.seen,hm.hid,fun j q=>by have:=hm.tape (1+j) q;simpa [Nat.add_assoc] using this,hm.os,hm.output⟩,⟨Nat.le_refl _,fun _ _=>rfl,rfl,Nat.le_succ _,rfl,rfl,fun _ _ h _=>h⟩,fun es=>by simp [choose,Sem.events,Sem.runT,hf],by simp,rfl,Nat.le_succ _,fun t ht=>?_⟩
  simp only [choose,Sem.run,hf]
  show Result.ok (q.cut (t v.drawn q)) _=_
  rw [ht v.drawn q (Nat.le_refl _) (Nat.lt_succ_self _)]
  rfl
theorem msim_mark {m:Mark} (h:m=.noRoom ∨ ∃ f,m=.extern f):MSim P H (mark m):=fun v w hm=>by
 refine .inr ⟨(),v,w,#[⟨.mark m,false,true⟩],rfl,rfl,hm,Kept.refl _ _,fun es=>by simp [mark,Sem.events,Sem.runT],fun x hx=>?_,rfl,Nat.le_refl _,fun _ _=>rfl⟩
 simp only [List.mem_toArray,List.mem_cons,List.not_mem_nil,or_false] at hx
 subst hx
 exact ⟨fun a ha=>(by cases ha),fun r hr=>(by cases hr),(by simp),fun k hk=>by cases hk;exact h⟩
theorem Mask.cell (hm:Mask H v w) {a:Addr} {x:Value} (h:v.cell? a=some x):w.cell? a=some x ∧ ¬ H a.block ∧ w.heap[a.block]? = v.heap[a.block]?:=by
 have hn:¬ H a.block:=fun hh=>by
  obtain ⟨c,e,h1,h2⟩:=hm.hid _ hh
  simp [World.cell?,h2] at h
 rcases hm.seen _ hn with ⟨hs,-⟩ | ⟨c,e,-,h2⟩
 · exact ⟨by unfold World.cell? at h ⊢;rw [hs];exact h,hn,hs⟩
 · simp [World.cell?,h2] at h
theorem Mask.noCell (hm:Mask H v w) {a:Addr} (h:v.cell? a=none):w.cell? a=none ∨ H a.block:=by
 by_cases hn:H a.block
 · exact .inr hn
 ·
  rcases hm.seen _ hn with ⟨hs,-⟩ | ⟨c,e,h1,h2⟩
  · exact .inl (by unfold World.cell? at h ⊢;rw [hs];exact h)
  · exact .inl (by simp [World.cell?,h1])
theorem Mask.frozen (hm:Mask H v w) (a:Addr):w.frozen? a=v.frozen? a:=by
 unfold World.frozen?
 by_cases hn:H a.block
 ·
  obtain ⟨c,e,h1,h2⟩:=hm.hid _ hn
  rw [h1,h2]
 ·
  rcases hm.seen _ hn with ⟨hs,-⟩ | ⟨c,e,h1,h2⟩
  · rw [hs]
  · rw [h1,h2]
theorem Mask.put (hm:Mask H v w) {x:Nat} (hx:¬ H x) (o:Obj) (ho:∀ c e,o ≠ .pending c e) (v1 w1:World) (e1:v1.heap=v.heap.setIfInBounds x o) (e2:w1.heap=w.heap.setIfInBounds x o)
  (t1:∀ j q,w1.tape (w1.drawn+j) q=v1.tape (v1.drawn+j) q) (o1:w1.os=v1.os) (p1:w1.output=v1.output):Mask H v1 w1:=by
 refine ⟨by rw [e1,e2];simpa using hm.size,fun b hb=>?_,fun b hb=>?_,t1,o1,p1⟩
 ·
  rw [e1,e2]
  by_cases h:x=b
  ·
   subst h
   refine .inl ⟨by simp [Array.getElem?_setIfInBounds,hm.size],fun c e he=>?_⟩
   rw [Array.getElem?_setIfInBounds,if_pos rfl] at he
   split at he
   · exact ho c e (Option.some.inj he)
   · cases he
  ·
   rw [Array.getElem?_setIfInBounds_ne h,Array.getElem?_setIfInBounds_ne h]
   exact hm.seen b hb
 ·
  have h:x ≠ b:=fun h=>hx (h ▸ hb)
  rw [e1,e2,Array.getElem?_setIfInBounds_ne h,Array.getElem?_setIfInBounds_ne h]
  exact hm.hid b hb
theorem kept_putM {x:Nat} (hx:¬ H x) (o:Obj) (hnp:∃ c t fz,w.heap[x]? = some (.cells c t fz)) (w1:World) (e2:w1.heap=w.heap.setIfInBounds x o) (t:w1.tape=w.tape) (d:w1.drawn=w.drawn) (os:w1.os=w.os) (p:w1.output=w.output):Kept H w w1:=
 ⟨by rw [e2];simp,fun b hb=>by
  have h:x ≠ b:=fun h=>hx (h ▸ hb)
  rw [e2,Array.getElem?_setIfInBounds_ne h],t,by rw [d];exact Nat.le_refl _,os,p,fun b o hb ho=>by
  have h:x ≠ b:=fun h=>by
   obtain ⟨c,t,fz,h1⟩:=hnp
   rw [h,hb] at h1
   exact ho c t fz (Option.some.inj h1)
  rw [e2,Array.getElem?_setIfInBounds_ne h]
  exact hb⟩
theorem setCell_put {w:World} {a:Addr} {x:Value} (h:w.cell? a=some x) (y:Value):∃ o,(∀ c e,o ≠ .pending c e) ∧ (∀ w':World,w'.heap[a.block]? = w.heap[a.block]? → (w'.setCell a y).heap=w'.heap.setIfInBounds a.block o):=by
 unfold World.cell? at h
 cases hh:w.heap[a.block]? with
 | none=>rw [hh] at h;cases h
 | some o=>
  rw [hh] at h
  cases o <;> simp only at h <;> first | (cases h;done) | skip
  rename_i c e fz
  split at h
  · cases h
  ·
   rename_i hs
   refine ⟨.cells (c.setIfInBounds a.off y) e fz,(fun _ _ he=>by cases he),fun w' hw=>?_⟩
   simp only [World.setCell]
   apply Array.ext_getElem?
   intro j
   by_cases hj:a.block=j
   ·
    subst hj
    have hlt:=(Array.getElem?_eq_some_iff.1 hw).1
    rw [Array.getElem?_modify,Array.getElem?_setIfInBounds_self_of_lt hlt]
    simp [hw,hs]
   · rw [Array.getElem?_modify,if_neg hj,Array.getElem?_setIfInBounds_ne hj]
end
end Go.Proofs.YtbokomeejmnnoaaDoor
