/- Own facts, put together: no statement of its own. -/
import Derived.Conc.AppendEvents3
import Derived.Conc.AppendEvents
import Derived.Test.YtbokomeejmnnoaaDoorD26
import Derived.Test.YtbokomeejmnnoaaDoorD32
import Derived.Test.YtbokomeejmnnoaaDoorD34

namespace Go.Proofs.YtbokomeejmnnoaaDoor
open Go.Conc Go.RowKit Go.Conc.Lib Go.ConcR.Gen
section
variable {P:Program} {Fx Sh:Nat → Prop} {Stop:(Nat → Prop) → Goroutine → World → Prop} {K:Nat → Prop} {w:World} {n:Nat} {g g':Goroutine}
theorem Goes0.c (hs:g.status=.running) (h:∀ w1,stepG P true g w1=.go g' w1) (k:Goes0 P Fx Sh Stop n K g' w):Goes0 P Fx Sh Stop (n+1) K g w:=
 .inr ⟨hs,fun w1 h1=>⟨g',w1,#[],h w1,Own0.idle _ _ _ _,by rw [grown_same K rfl];exact k.rely h1⟩⟩
theorem Goes0.mono:∀ {n m:Nat} {K:Nat → Prop} {g:Goroutine} {w:World},n ≤ m → Goes0 P Fx Sh Stop n K g w → Goes0 P Fx Sh Stop m K g w
 | 0,m,K,g,w,_,h=>Goes0.stop h
 | n+1,0,_,_,_,hl,_=>absurd hl (by omega)
 | n+1,m+1,K,g,w,hl,h=>by
  rcases h with h | ⟨hr,h⟩
  · exact .inl h
  · exact .inr ⟨hr,fun w1 h1=>let ⟨g',w',es,h2,h3,h4⟩:=h w1 h1;⟨g',w',es,h2,h3,h4.mono (by omega)⟩⟩
theorem Goes0.wto {F:World → Prop} {Ev:Event → Prop} {m:Nat} {Kp:Goroutine → Prop} (h:WTo P true F Ev Kp g) (hF:∀ w w1,F w → Sees K w w1 → F w1) (hE:∀ e,Ev e → ∃ a,e=⟨.cell a,false,false⟩ ∧ K a.block ∧ ¬ Sh a.block)
  (h0:F w) (hb:∀ b,K b → b < w.heap.size) (hk:∀ g',Kp g' → Goes0 P Fx Sh Stop m K g' w):∃ M,Goes0 P Fx Sh Stop M K g w:=by
 obtain ⟨n,g',h1,h2⟩:=h
 exact ⟨n+m,Goes0.walk hF hE h0 hb h1 fun w1 h3=>(hk g' h2).rely h3⟩
section
variable {b:Frame} {a:Act} {k:List Item} {cs:List Frame} {ops:Array Oper} {i:Nat} {rest:List Nat} {o:Oper}
theorem Goes0.value (v:Value) (ho:ops[i]? = some o) (hw:Region.wanted o (yielded ops a.tmps)=true) (hk:b.kind ≠ .early) (hr:∀ w,(execOp a.eval o).run P w=.ok (.value v) w) (he:∀ w,(execOp a.eval o).events P w #[] = #[])
  (h:Goes0 P Fx Sh Stop n K (G (b.at (a.put o.dst v) (.inRegion ops rest :: k)) cs) w):Goes0 P Fx Sh Stop (n+1) K (G (b.at a (.inRegion ops (i :: rest) :: k)) cs) w:=
 .c rfl (fun w1=>by rw [stepG_value ho hw hk (hr w1)];unfold listed;rw [he w1,seen_none]) h
theorem own0_seen {fn:FuncId} {w':World} {es:Array Event} (h:Own0 Fx Sh K w w' es):Own0 Fx Sh K w w' (seen P fn es):=⟨h.size,h.stand,h.out,fun e he=>h.evs e (mem_seen he)⟩
theorem Goes0.load (v:Value) (ho:ops[i]? = some o) (hw:Region.wanted o (yielded ops a.tmps)=true) (hk:b.kind ≠ .early) (hb:∀ b,K b → b < w.heap.size) (hr:∀ w1,Sees K w w1 → (execOp a.eval o).run P w1=.ok (.value v) w1)
  (he:∀ w1,Sees K w w1 → ∀ e ∈ (execOp a.eval o).events P w1 #[],∃ a,e=⟨.cell a,false,false⟩ ∧ K a.block ∧ ¬ Sh a.block)
  (h:Goes0 P Fx Sh Stop n K (G (b.at (a.put o.dst v) (.inRegion ops rest :: k)) cs) w):Goes0 P Fx Sh Stop (n+1) K (G (b.at a (.inRegion ops (i :: rest) :: k)) cs) w:=
 .inr ⟨rfl,fun w1 h1=>⟨_,w1,_,stepG_value ho hw hk (hr w1 h1),own0_seen ⟨Nat.le_refl _,fun _ _ _=>rfl,⟨rfl,rfl⟩,fun e hx=>by
  obtain ⟨ad,e1,e2,e3⟩:=he w1 h1 e hx
  exact ⟨ad,false,e1,.inl e2,Nat.lt_of_lt_of_le (hb _ e2) h1.2,(fun h=>by cases h),e3⟩⟩,by rw [grown_same K rfl];exact h.rely h1⟩⟩
theorem Goes0.store {bo:Nat} {cur cur':Array Value} {t:TypeId} (ho:ops[i]? = some o) (hw:Region.wanted o (yielded ops a.tmps)=true) (hk:b.kind ≠ .early) (hb:∀ b,K b → b < w.heap.size) (hK:K bo) (hf:¬ Fx bo) (hs:¬ Sh bo) (hg:w.heap[bo]? = some (.cells cur t (0,0)))
  (hr:∀ w1:World,w1.heap[bo]? = some (.cells cur t (0,0)) → (execOp a.eval o).run P w1=.ok .skip (w1.setRow bo cur'))
  (he:∀ w1:World,w1.heap[bo]? = some (.cells cur t (0,0)) → ∀ e ∈ (execOp a.eval o).events P w1 #[],∃ a,e=⟨.cell a,true,false⟩ ∧ a.block=bo)
  (h:Goes0 P Fx Sh Stop n K (G (b.at (a.put o.dst undef) (.inRegion ops rest :: k)) cs) (w.setRow bo cur')):Goes0 P Fx Sh Stop (n+1) K (G (b.at a (.inRegion ops (i :: rest) :: k)) cs) w:=by
 refine .inr ⟨rfl,fun w1 h1=>?_⟩
 have hg1:w1.heap[bo]? = some (.cells cur t (0,0)):=(h1.1 bo hK).trans hg
 have hsz:∀ (w:World) (cs:Array Value),(w.setRow bo cs).heap.size=w.heap.size:=fun w cs=>by simp [World.setRow]
 have hne:∀ (w:World) (cs:Array Value) b,b ≠ bo → (w.setRow bo cs).heap[b]? = w.heap[b]?:=fun w cs b hb=>by simp [World.setRow,Array.getElem?_modify,Ne.symm hb]
 refine ⟨_,w1.setRow bo cur',_,stepG_none ho hw hk (hr w1 hg1),own0_seen ⟨Nat.le_of_eq (hsz _ _).symm,fun b hb' hx=>hne _ _ _ ?_,⟨rfl,rfl⟩,fun e hx=>?_⟩,?_⟩
 ·
  rintro rfl
  rcases hx with hx | hx
  · exact hf hx
  · exact hx hK
 ·
  obtain ⟨ad,e1,e2⟩:=he w1 hg1 e hx
  subst e2
  exact ⟨ad,true,e1,.inl hK,by rw [hsz];exact Nat.lt_of_lt_of_le (hb _ hK) h1.2,fun _=>hf,hs⟩
 ·
  rw [grown_same K (hsz _ _)]
  refine h.rely ⟨fun b hb'=>?_,by rw [hsz,hsz];exact h1.2,h1.out⟩
  by_cases e:b=bo
  ·
   subst e
   rw [setRow_heap w1 b cur cur' t _ hg1,setRow_heap w b cur cur' t _ hg]
  ·
   rw [hne _ _ _ e,hne _ _ _ e]
   exact h1.1 b hb'
theorem stepG_named {main:Bool} {f:FuncId} {fn:Func} {c:Code} {args:Array Operand} {ats:Array TypeId} (ho:ops[i]? = some o) (hw:Region.wanted o (yielded ops a.tmps)=true) (hk:b.kind ≠ .early) (hop:o.op=.call { callee:=.value (.func f),args,argTypes:=ats })
  (hf:P.funcs[f]? = some fn) (hname:(fn.name == "runtime.NumGoroutine")=false) (hb:fn.body=some c) (w:World) :
  stepG P main (G (b.at a (.inRegion ops (i :: rest) :: k)) cs) w=.go (G ((base f).at { tmps:=args.map a.eval ++ Array.replicate (fn.ntmps - (args.map a.eval).size) undef,defers:=[] } [.code c]) (b.at a (.inRegion ops (i :: rest) :: k) :: cs)) w #[]:=by
 by_cases hx:stepG P main (G (b.at a (.inRegion ops (i :: rest) :: k)) cs) w=.go (G ((base f).at { tmps:=args.map a.eval ++ Array.replicate (fn.ntmps - (args.map a.eval).size) undef,defers:=[] } [.code c]) (b.at a (.inRegion ops (i :: rest) :: k) :: cs)) w #[]
 · exact hx
 ·
  exfalso
  have h2:=goes_call (P:=P) (main:=main) (w:=w) (cs:=cs) (k:=k) (rest:=rest) (K:=fun x w' es=>x=(G ((base f).at { tmps:=args.map a.eval ++ Array.replicate (fn.ntmps - (args.map a.eval).size) undef,defers:=[] } [.code c]) (b.at a (.inRegion ops (i :: rest) :: k) :: cs)) ∧ w'=w ∧ es = #[]) ho hw hk hop hf hname hb ⟨rfl,rfl,rfl⟩
  revert h2
  generalize stepG P main (G (b.at a (.inRegion ops (i :: rest) :: k)) cs) w=st at hx
  cases st <;> simp only [GStep.goes,imp_false,not_false_eq_true]
  rintro ⟨rfl,rfl,rfl⟩
  exact hx rfl
theorem Goes0.call {f:FuncId} {fn:Func} {c:Code} {args:Array Operand} {ats:Array TypeId} (ho:ops[i]? = some o) (hw:Region.wanted o (yielded ops a.tmps)=true) (hk:b.kind ≠ .early) (hop:o.op=.call { callee:=.value (.func f),args,argTypes:=ats })
  (hf:P.funcs[f]? = some fn) (hname:(fn.name == "runtime.NumGoroutine")=false) (hb:fn.body=some c)
  (h:Goes0 P Fx Sh Stop n K (G ((base f).at { tmps:=args.map a.eval ++ Array.replicate (fn.ntmps - (args.map a.eval).size) undef,defers:=[] } [.code c]) (b.at a (.inRegion ops (i :: rest) :: k) :: cs)) w):Goes0 P Fx Sh Stop (n+1) K (G (b.at a (.inRegion ops (i :: rest) :: k)) cs) w:=
 .c rfl (fun w1=>stepG_named ho hw hk hop hf hname hb w1) h
theorem Goes0.alloc {c:Array Value} {t:TypeId} (v:Nat → Value) (ho:ops[i]? = some o) (hw:Region.wanted o (yielded ops a.tmps)=true) (hk:b.kind ≠ .early)
  (hr:∀ w1:World,(execOp a.eval o).run P w1=.ok (.value (v w1.heap.size)) (w1.alloc (.cells c t (0,0)))) (he:∀ w1,∀ e ∈ (execOp a.eval o).events P w1 #[],False)
  (h:∀ w1,Sees K w w1 → Goes0 P Fx Sh Stop n (fun b=>K b ∨ b=w1.heap.size) (G (b.at (a.put o.dst (v w1.heap.size)) (.inRegion ops rest :: k)) cs) (w1.alloc (.cells c t (0,0)))):Goes0 P Fx Sh Stop (n+1) K (G (b.at a (.inRegion ops (i :: rest) :: k)) cs) w:=by
 refine .inr ⟨rfl,fun w1 h1=>⟨_,_,_,stepG_value ho hw hk (hr w1),own0_seen ⟨by show _ ≤ (w1.heap.push _).size;simp,fun b hb _=>?_,⟨rfl,rfl⟩,fun e hx=>(he w1 e hx).elim⟩,?_⟩⟩
 ·
  show (w1.heap.push _)[b]? = _
  simp [Array.getElem?_push,Nat.ne_of_lt hb]
 ·
  have e:grown K w1 (w1.alloc (.cells c t (0,0)))=fun b=>K b ∨ b=w1.heap.size:=by
   funext b
   have hz:(w1.alloc (.cells c t (0,0))).heap.size=w1.heap.size+1:=by show (w1.heap.push _).size=_;simp
   simp only [grown,hz]
   refine propext ⟨?_,?_⟩
   ·
    rintro (h | h)
    · exact .inl h
    · exact .inr (by omega)
   ·
    rintro (h | rfl)
    · exact .inl h
    · exact .inr ⟨Nat.le_refl _,Nat.lt_succ_self _⟩
  rw [e]
  exact h w1 h1
end
end
end Go.Proofs.YtbokomeejmnnoaaDoor

set_option maxRecDepth 100000
set_option linter.unusedSimpArgs false
namespace Go.Proofs.YtbokomeejmnnoaaDoor
open Go.Conc Go.RowKit Go.Conc.Lib Go.ConcR.Gen
def hoMid (f:Func):Code:=secondC (secondC (secondC (bodyC f)))
def hoLB (f:Func):Code:=innerC (innerC (secondC (firstC (hoMid f))))
def hoRest (f:Func):Code:=secondC (hoMid f)
def hoIn (f:Func):Code:=secondC (secondC (innerC (secondC (hoLB f))))
def hoSelOps (f:Func):Array Oper:=opsC (firstC (hoIn f))
def hoGot (f:Func):Code:=secondC (hoIn f)
structure HoX where
 (t11 t15 t16 t17 t18 t19 t20 t21 t22 t23 t24 t25 t26 t27 t28 t29 t30 t31 t32 t33 t34 t35 t36 t37:Value)
def hoT (z:OeV) (ob:Option Addr) (op8:Value) (a b:Nat) (x:HoX):Array Value:=#[.int .i64 z.n,.chan (some z.v.cn),.chan (some z.v.cr),undef,undef,undef,.slice none 0 0,.slice ob z.n z.n,op8,.int .i64 a,.int .i64 b,x.t11,.int .i64 z.n,.slice ob z.n z.n,.chan (some z.v.cn),x.t15,x.t16,x.t17,x.t18,x.t19,x.t20,x.t21,x.t22,x.t23,x.t24,x.t25,x.t26,x.t27,x.t28,x.t29,x.t30,x.t31,x.t32,x.t33,x.t34,x.t35,x.t36,x.t37,undef,undef]
def hoAt (T:Array Value) (k:List Item) (cs:List Frame):Goroutine:=G ((base 25).at ⟨T,[]⟩ k) cs
def hoHead (f:Func) (z:OeV) (ob:Option Addr) (op8:Value) (a b:Nat) (x:HoX) (cs:List Frame):Goroutine:=hoAt (hoT z ob op8 a b x) [.code (hoLB f),.inLoop (hoLB f),.inBlock 0,.code (hoRest f)] cs
def opOf (z:OeV) (a:Nat):Value:=if a < z.n then .chan (some z.v.cn) else .chan none
def hoSel (f:Func) (z:OeV) (ob:Option Addr) (a b:Nat) (x:HoX) (cs:List Frame):Goroutine:=hoAt (hoT z ob (opOf z a) a b { x with t21:=opOf z a,t22:=.int .i64 a,t23:=.chan (some z.v.cr) }) [.inRegion (hoSelOps f) [0,1,2,3],.code (hoGot f),.inBlock 1,.inLoop (hoLB f),.inBlock 0,.code (hoRest f)] cs
def hoTold (f:Func) (z:OeV) (ob:Option Addr) (a b:Nat) (x:HoX) (cs:List Frame):Goroutine:=hoAt (hoT z ob (opOf z a) a b x) [.inRegion (hoSelOps f) [1,2,3],.code (hoGot f),.inBlock 1,.inLoop (hoLB f),.inBlock 0,.code (hoRest f)] cs
def z67:Value:=.agg #[.int .i64 0,.int .i64 0,.nilIface]
def hoCases (z:OeV) (a:Nat):Array CommCase:=#[⟨opOf z a,some (.int .i64 a),.int .i64 0⟩,rcase z.v.cr z67]
section
variable {z:OeV} {ob:Option Addr} {a b:Nat} {x:HoX} {cs:List Frame} {m:Nat} {K Fx Sh:Nat → Prop} {Stop:(Nat → Prop) → Goroutine → World → Prop} {w:World}
theorem ho_asks (w:World):stepG Tryd.prog true (hoSel Tryd.f25 z ob a b x cs) w=.comm (hoSel Tryd.f25 z ob a b x cs) (hoCases z a) true .select w #[]:=by
 unfold hoSel hoSelOps hoCases hoAt
 simp only [opsC,firstC,hoIn,hoLB,hoMid,innerC,secondC,bodyC,hoT,Tryd.f25,Option.getD_some]
 rw [stepG_comm (cases:=#[⟨opOf z a,some (.int .i64 a),.int .i64 0⟩,rcase z.v.cr z67]) (blocking:=true) (shape:=.select) (w':=w) rfl rfl (by decide) (by unfold opOf;split <;> (go_simp;rfl))]
 congr 1
 unfold opOf
 split <;> (unfold listed;simp [go_sem];exact seen_none _ _)
theorem ho_round {op8:Value} (hb:b < z.n) (ha:a ≤ z.n) (hop:a < z.n → op8=.chan (some z.v.cn)) (h:∀ x',Goes0 Tryd.prog Fx Sh Stop m K (hoSel Tryd.f25 z ob a b x' cs) w):Goes0 Tryd.prog Fx Sh Stop (m+60) K (hoHead Tryd.f25 z ob op8 a b x cs) w:=by
 have d1:decide ((b:Int) < (z.n:Int))=true:=decide_eq_true (by omega)
 by_cases han:a < z.n
 ·
  obtain rfl:=hop han
  have e:opOf z a=.chan (some z.v.cn):=by simp [opOf,han]
  have d2:((a:Int) == (z.n:Int))=false:=by simp;omega
  have h':=h { x with t15:=.int .i64 b,t16:=.int .i64 z.n,t17:=.bool true,t18:=.int .i64 a,t19:=.int .i64 z.n,t20:=.bool false }
  simp only [hoSel,e] at h'
  revert h'
  simp only [hoHead,hoAt,hoT,hoSelOps,hoGot,hoIn,hoLB,hoRest,hoMid,bodyC,innerC,secondC,firstC,opsC,Tryd.f25,Option.getD_some]
  intro h'
  refine Goes0.c rfl (fun _=>stepG_seq) ?_
  refine Goes0.c rfl (fun _=>stepG_seq) ?_
  refine Goes0.c rfl (fun _=>stepG_region) ?_
  try walk_nrm
  refine Goes0.value (.int .i64 b) rfl rfl (by decide) (fun _=>by go_simp) (fun _=>by simp [go_sem]) ?_;try walk_nrm
  refine Goes0.value (.int .i64 z.n) rfl rfl (by decide) (fun _=>by go_simp) (fun _=>by simp [go_sem]) ?_;try walk_nrm
  refine Goes0.value (.bool true) rfl rfl (by decide) (fun _=>by go_simp) (fun _=>by simp [go_sem]) ?_;try walk_nrm
  refine Goes0.c rfl (fun _=>stepG_region_end) ?_
  refine Goes0.c rfl (fun _=>stepG_cond (t:=true) rfl) ?_
  simp only [if_true]
  refine Goes0.c rfl (fun _=>stepG_skip) ?_
  refine Goes0.c rfl (fun _=>stepG_block) ?_
  refine Goes0.c rfl (fun _=>stepG_seq) ?_
  refine Goes0.c rfl (fun _=>stepG_seq) ?_
  refine Goes0.c rfl (fun _=>stepG_region) ?_
  try walk_nrm
  refine Goes0.value (.int .i64 a) rfl rfl (by decide) (fun _=>by go_simp) (fun _=>by simp [go_sem]) ?_;try walk_nrm
  refine Goes0.value (.int .i64 z.n) rfl rfl (by decide) (fun _=>by go_simp) (fun _=>by simp [go_sem]) ?_;try walk_nrm
  refine Goes0.value (.bool false) rfl rfl (by decide) (fun _=>by go_simp) (fun _=>by simp [go_sem]) ?_;try walk_nrm
  refine Goes0.c rfl (fun _=>stepG_region_end) ?_
  refine Goes0.c rfl (fun _=>stepG_cond (t:=false) rfl) ?_
  simp only [Bool.false_eq_true,if_false]
  refine Goes0.c rfl (fun _=>stepG_skip) ?_
  iterate 3 (refine Goes0.c rfl (fun _=>stepG_seq) ?_)
  refine Goes0.c rfl (fun _=>stepG_region) ?_
  try walk_nrm
  refine Goes0.value (.chan (some z.v.cn)) rfl rfl (by decide) (fun _=>by go_simp) (fun _=>by simp [go_sem]) ?_;try walk_nrm
  refine Goes0.c rfl (fun _=>stepG_region_end) ?_
  refine Goes0.c rfl (fun _=>stepG_region) ?_
  try walk_nrm
  refine Goes0.value (.int .i64 a) rfl rfl (by decide) (fun _=>by go_simp) (fun _=>by simp [go_sem]) ?_;try walk_nrm
  refine Goes0.c rfl (fun _=>stepG_region_end) ?_
  refine Goes0.c rfl (fun _=>stepG_region) ?_
  try walk_nrm
  refine Goes0.value (.chan (some z.v.cr)) rfl rfl (by decide) (fun _=>by go_simp) (fun _=>by simp [go_sem]) ?_;try walk_nrm
  refine Goes0.c rfl (fun _=>stepG_region_end) ?_
  refine Goes0.c rfl (fun _=>stepG_seq) ?_
  refine Goes0.c rfl (fun _=>stepG_region) ?_
  try walk_nrm
  exact Goes0.mono (n:=m) (by omega) h'
 ·
  have e:opOf z a=.chan none:=by simp [opOf,han]
  obtain rfl:a=z.n:=by omega
  have h':=h { x with t15:=.int .i64 b,t16:=.int .i64 z.n,t17:=.bool true,t18:=.int .i64 z.n,t19:=.int .i64 z.n,t20:=.bool true }
  simp only [hoSel,e] at h'
  revert h'
  simp only [hoHead,hoAt,hoT,hoSelOps,hoGot,hoIn,hoLB,hoRest,hoMid,bodyC,innerC,secondC,firstC,opsC,Tryd.f25,Option.getD_some]
  intro h'
  refine Goes0.c rfl (fun _=>stepG_seq) ?_
  refine Goes0.c rfl (fun _=>stepG_seq) ?_
  refine Goes0.c rfl (fun _=>stepG_region) ?_
  try walk_nrm
  refine Goes0.value (.int .i64 b) rfl rfl (by decide) (fun _=>by go_simp) (fun _=>by simp [go_sem]) ?_;try walk_nrm
  refine Goes0.value (.int .i64 z.n) rfl rfl (by decide) (fun _=>by go_simp) (fun _=>by simp [go_sem]) ?_;try walk_nrm
  refine Goes0.value (.bool true) rfl rfl (by decide) (fun _=>by go_simp) (fun _=>by simp [go_sem]) ?_;try walk_nrm
  refine Goes0.c rfl (fun _=>stepG_region_end) ?_
  refine Goes0.c rfl (fun _=>stepG_cond (t:=true) rfl) ?_
  simp only [if_true]
  refine Goes0.c rfl (fun _=>stepG_skip) ?_
  refine Goes0.c rfl (fun _=>stepG_block) ?_
  refine Goes0.c rfl (fun _=>stepG_seq) ?_
  refine Goes0.c rfl (fun _=>stepG_seq) ?_
  refine Goes0.c rfl (fun _=>stepG_region) ?_
  try walk_nrm
  refine Goes0.value (.int .i64 z.n) rfl rfl (by decide) (fun _=>by go_simp) (fun _=>by simp [go_sem]) ?_;try walk_nrm
  refine Goes0.value (.int .i64 z.n) rfl rfl (by decide) (fun _=>by go_simp) (fun _=>by simp [go_sem]) ?_;try walk_nrm
  refine Goes0.value (.bool true) rfl rfl (by decide) (fun _=>by go_simp) (fun _=>by simp [go_sem]) ?_;try walk_nrm
  refine Goes0.c rfl (fun _=>stepG_region_end) ?_
  refine Goes0.c rfl (fun _=>stepG_cond (t:=true) rfl) ?_
  simp only [if_true]
  refine Goes0.c rfl (fun _=>stepG_region) ?_
  try walk_nrm
  refine Goes0.value (.chan none) rfl rfl (by decide) (fun _=>by go_simp) (fun _=>by simp [go_sem]) ?_;try walk_nrm
  refine Goes0.c rfl (fun _=>stepG_region_end) ?_
  iterate 3 (refine Goes0.c rfl (fun _=>stepG_seq) ?_)
  refine Goes0.c rfl (fun _=>stepG_region) ?_
  try walk_nrm
  refine Goes0.value (.chan none) rfl rfl (by decide) (fun _=>by go_simp) (fun _=>by simp [go_sem]) ?_;try walk_nrm
  refine Goes0.c rfl (fun _=>stepG_region_end) ?_
  refine Goes0.c rfl (fun _=>stepG_region) ?_
  try walk_nrm
  refine Goes0.value (.int .i64 z.n) rfl rfl (by decide) (fun _=>by go_simp) (fun _=>by simp [go_sem]) ?_;try walk_nrm
  refine Goes0.c rfl (fun _=>stepG_region_end) ?_
  refine Goes0.c rfl (fun _=>stepG_region) ?_
  try walk_nrm
  refine Goes0.value (.chan (some z.v.cr)) rfl rfl (by decide) (fun _=>by go_simp) (fun _=>by simp [go_sem]) ?_;try walk_nrm
  refine Goes0.c rfl (fun _=>stepG_region_end) ?_
  refine Goes0.c rfl (fun _=>stepG_seq) ?_
  refine Goes0.c rfl (fun _=>stepG_region) ?_
  try walk_nrm
  exact Goes0.mono (n:=m) (by omega) h'
theorem ho_sent (han:a < z.n) (hn:z.n ≤ 100000) (h:∀ x',Goes0 Tryd.prog Fx Sh Stop m K (hoHead Tryd.f25 z ob (opOf z a) (a+1) b x' cs) w):Goes0 Tryd.prog Fx Sh Stop (m+60) K (hoTold Tryd.f25 z ob a b { x with t24:=.tuple #[.int .i64 0,.bool false,z67] } cs) w:=by
 have hw:IntKind.i64.wrap ((a:Int)+1)=((a+1:Nat):Int):=by rw [IntWalk.i64_in] <;> omega
 have e:opOf z a=.chan (some z.v.cn):=by simp [opOf,han]
 have h':=h { x with t24:=.tuple #[.int .i64 0,.bool false,z67],t25:=.int .i64 0,t26:=.bool true,t27:=.bool false,t28:=.int .i64 a,t29:=.int .i64 ((a+1:Nat):Int) }
 rw [e] at h'
 revert h'
 simp only [hoTold,e,hoHead,hoAt,hoT,hoSelOps,hoGot,hoIn,hoLB,hoRest,hoMid,bodyC,innerC,secondC,firstC,opsC,Tryd.f25,Option.getD_some]
 intro h'
 refine Goes0.value (.int .i64 0) rfl rfl (by decide) (fun _=>by go_simp) (fun _=>by simp [go_sem]) ?_;try walk_nrm
 refine Goes0.value (.bool true) rfl rfl (by decide) (fun _=>by go_simp) (fun _=>by simp [go_sem]) ?_;try walk_nrm
 refine Goes0.value (.bool false) rfl rfl (by decide) (fun _=>by go_simp) (fun _=>by simp [go_sem]) ?_;try walk_nrm
 refine Goes0.c rfl (fun _=>stepG_region_end) ?_
 refine Goes0.c rfl (fun _=>stepG_block) ?_
 refine Goes0.c rfl (fun _=>stepG_cond (t:=true) rfl) ?_
 simp only [if_true]
 refine Goes0.c rfl (fun _=>stepG_region) ?_
 try walk_nrm
 refine Goes0.value (.int .i64 a) rfl rfl (by decide) (fun _=>by go_simp) (fun _=>by simp [go_sem]) ?_;try walk_nrm
 refine Goes0.value (.int .i64 ((a+1:Nat):Int)) rfl rfl (by decide) (fun _=>by go_simp) (fun _=>by simp [go_sem, *]) ?_;try walk_nrm
 refine Goes0.value (.int .i64 ((a+1:Nat):Int)) rfl rfl (by decide) (fun _=>by go_simp) (fun _=>by simp [go_sem]) ?_;try walk_nrm
 refine Goes0.c rfl (fun _=>stepG_region_end) ?_
 refine Goes0.c rfl (fun _=>stepG_inBlock) ?_
 refine Goes0.c rfl (fun _=>stepG_inBlock) ?_
 refine Goes0.c rfl (fun _=>stepG_inLoop) ?_
 exact Goes0.mono (n:=m) (by omega) h'
end
end Go.Proofs.YtbokomeejmnnoaaDoor

set_option linter.unusedSimpArgs false
namespace Go.Proofs.YtbokomeejmnnoaaDoor
open Go.Conc
section
variable {P:Program} {w:World} {T t:TypeId} {g o:Nat} {cur:Array Value} {x y z:Value}
def put3g (cur:Array Value) (o:Nat) (x y z:Value):Array Value:=((cur.setIfInBounds o x).setIfInBounds (o+1) y).setIfInBounds (o+2) z
theorem put3g_size:(put3g cur o x y z).size=cur.size:=by simp [put3g]
theorem put3_other {j:Nat} (h:j < o ∨ o+3 ≤ j):(put3g cur o x y z)[j]? = cur[j]?:=by
 unfold put3g
 rw [Array.getElem?_setIfInBounds_ne (by omega),Array.getElem?_setIfInBounds_ne (by omega),Array.getElem?_setIfInBounds_ne (by omega)]
theorem put3_at (h:o+3 ≤ cur.size):(put3g cur o x y z)[o]? = some x ∧ (put3g cur o x y z)[o+1]? = some y ∧ (put3g cur o x y z)[o+2]? = some z:=by
 unfold put3g
 refine ⟨?_,?_,?_⟩
 · rw [Array.getElem?_setIfInBounds_ne (by omega),Array.getElem?_setIfInBounds_ne (by omega),Array.getElem?_setIfInBounds_self_of_lt (by omega)]
 · rw [Array.getElem?_setIfInBounds_ne (by omega),Array.getElem?_setIfInBounds_self_of_lt (by simp;omega)]
 · rw [Array.getElem?_setIfInBounds_self_of_lt (by simp;omega)]
theorem add_at (g o i:Nat):(⟨g,o,none⟩:Addr).add i=⟨g,o+i,none⟩:=by unfold Addr.add;split <;> simp_all
theorem store_row (hg:w.heap[g]? = some (.cells cur t (0,0))) {i:Nat} (hi:i < cur.size) (hx:x.oneCell'=true) (es:Array Event) :
  (store ⟨g,i,none⟩ x).run P w=.ok () (w.setRow g (cur.setIfInBounds i x)) ∧ (store ⟨g,i,none⟩ x).events P w es=es.push ⟨.cell ⟨g,i,none⟩,true,false⟩:=by
 have hcell:w.cell? ⟨g,i,none⟩=some cur[i]:=by simp [World.cell?,hg,hi]
 have hfro:w.frozen? ⟨g,i,none⟩=false:=by simp [World.frozen?,hg]
 constructor
 ·
  rw [run_store P w _ x _ hx,hcell]
  simp [hfro,setCell_eq_setRow w g i cur t (0,0) x hg]
 ·
  rw [events_store P w es _ x _ hx,hcell]
  simp only [hfro,Bool.false_eq_true,if_false]
  rfl
theorem setRow_twice (hg:w.heap[g]? = some (.cells cur t (0,0))) (c c':Array Value):(w.setRow g c).setRow g c'=w.setRow g c':=by
 have hlt:=(Array.getElem?_eq_some_iff.1 hg).1
 simp only [World.setRow]
 congr 1
 apply Array.ext_getElem?
 intro j
 simp only [Array.getElem?_modify]
 by_cases e:g=j
 ·
  subst e
  simp [hg]
 · simp [e]
theorem ev_size (hz:(sizeOf T).run P w=.ok 3 w) (es:Array Event):(sizeOf T).events P w es=es:=by
 simp only [sizeOf,typeInfo,Sem.events_bind,Sem.run_bind] at hz ⊢
 simp only [events_program,Sem.events_pure] at hz ⊢
 revert hz
 simp only [run_program,Result.andThen_ok,Result.evThen_ok]
 split <;> simp
theorem store3 (hz:∀ w,(sizeOf T).run P w=.ok 3 w) (h1:x.oneCell'=true) (h2:y.oneCell'=true) (h3:z.oneCell'=true) (hg:w.heap[g]? = some (.cells cur t (0,0))) (hl:o+3 ≤ cur.size) :
  (Instr.storeAt T (.pointer (some ⟨g,o,none⟩)) (.agg #[x,y,z])).run P w=.ok () (w.setRow g (put3g cur o x y z)) ∧ ∀ es,(Instr.storeAt T (.pointer (some ⟨g,o,none⟩)) (.agg #[x,y,z])).events P w es=((es.push ⟨.cell ⟨g,o,none⟩,true,false⟩).push ⟨.cell ⟨g,o+1,none⟩,true,false⟩).push ⟨.cell ⟨g,o+2,none⟩,true,false⟩:=by
 have s1:=fun es=>store_row (P:=P) hg (i:=o) (by omega) h1 es
 have g1:=setRow_heap w g cur (cur.setIfInBounds o x) t _ hg
 have s2:=fun es=>store_row (P:=P) g1 (i:=o+1) (by simp;omega) h2 es
 have g2:=setRow_heap _ g _ ((cur.setIfInBounds o x).setIfInBounds (o+1) y) t _ g1
 have s3:=fun es=>store_row (P:=P) g2 (i:=o+2) (by simp;omega) h3 es
 have r1:=(s1 #[]).1
 have r2:=(s2 #[]).1
 have r3:=(s3 #[]).1
 rw [setRow_twice hg] at r2
 rw [setRow_twice hg,setRow_twice hg] at r3
 constructor
 · simp [Instr.storeAt,Instr.sureAddr,storeVar,hz,Value.cells,storeCells,add_at,r1,r2,r3,put3g,setRow_twice hg]
 ·
  intro es
  have e2:=fun es=>(s2 es).2
  have e3:=fun es=>(s3 es).2
  rw [setRow_twice hg] at e3
  simp [Instr.storeAt,Instr.sureAddr,storeVar,hz,ev_size (hz _),Value.cells,storeCells,add_at,r1,r2,r3,setRow_twice hg,(s1 _).2,e2,e3]
theorem load_row (hg:w.heap[g]? = some (.cells cur t (0,0))) {i:Nat} (hi:cur[i]? = some x) (es:Array Event) :
  (load ⟨g,i,none⟩).run P w=.ok x w ∧ (load ⟨g,i,none⟩).events P w es=es.push ⟨.cell ⟨g,i,none⟩,false,false⟩:=by
 have hcell:w.cell? ⟨g,i,none⟩=some x:=by simp [World.cell?,hg,hi]
 constructor
 · simp [hcell]
 ·
  rw [events_load,hcell]
  rfl
theorem ev_agg {v:Bool} (hz:(isAgg T).run P w=.ok v w) (es:Array Event):(isAgg T).events P w es=es:=by
 simp only [isAgg,underlying,typeInfo,Sem.events_bind,Sem.run_bind] at hz ⊢
 revert hz
 simp only [run_program,events_program,Result.andThen_ok,Result.evThen_ok]
 repeat' split
 all_goals (try simp)
 all_goals (repeat' split)
 all_goals (try simp)
theorem load3 (ha:∀ w,(isAgg T).run P w=.ok true w) (hz:∀ w,(sizeOf T).run P w=.ok 3 w) (hg:w.heap[g]? = some (.cells cur t (0,0))) (h1:cur[o]? = some x) (h2:cur[o+1]? = some y) (h3:cur[o+2]? = some z) :
  (Instr.loadAt T (.pointer (some ⟨g,o,none⟩))).run P w=.ok (.agg #[x,y,z]) w ∧ ∀ es,(Instr.loadAt T (.pointer (some ⟨g,o,none⟩))).events P w es=((es.push ⟨.cell ⟨g,o,none⟩,false,false⟩).push ⟨.cell ⟨g,o+1,none⟩,false,false⟩).push ⟨.cell ⟨g,o+2,none⟩,false,false⟩:=by
 have l1:=fun es=>load_row (P:=P) hg h1 es
 have l2:=fun es=>load_row (P:=P) hg h2 es
 have l3:=fun es=>load_row (P:=P) hg h3 es
 constructor
 ·
  simp only [Instr.loadAt,Instr.sureAddr,loadVar,loadCells,loadCellsFrom,ha,hz,add_at,Sem.run_bind,Sem.run_pure,Result.andThen_ok,if_true,Nat.add_zero,(l1 #[]).1,(l2 #[]).1,(l3 #[]).1,Nat.zero_add,Nat.reduceAdd]
  rfl
 ·
  intro es
  simp only [Instr.loadAt,Instr.sureAddr,loadVar,loadCells,loadCellsFrom,ha,hz,ev_agg (ha _),ev_size (hz _),add_at,Sem.run_bind,Sem.run_pure,Sem.events_bind,Sem.events_pure,Result.andThen_ok,Result.evThen_ok,if_true,Nat.add_zero,(l1 #[]).1,(l2 #[]).1,(l3 #[]).1,(l1 _).2,(l2 _).2,(l3 _).2,Nat.zero_add,Nat.reduceAdd]
theorem Goes0.store3 {Fx Sh K:Nat → Prop} {Stop:(Nat → Prop) → Goroutine → World → Prop} {n:Nat} {b:Frame} {a:Act} {k:List Item} {cs:List Frame} {ops:Array Oper} {i:Nat} {rest:List Nat} {op:Oper} {px pv:Operand} (T:TypeId) (g o:Nat) (x y z:Value)
  (ho:ops[i]? = some op) (hw:Region.wanted op (yielded ops a.tmps)=true) (hk:b.kind ≠ .early) (hop:op.op=.store T px pv) (hp:a.eval px=.pointer (some ⟨g,o,none⟩)) (hv:a.eval pv=.agg #[x,y,z])
  (hz:∀ w,(sizeOf T).run P w=.ok 3 w) (h1:x.oneCell'=true) (h2:y.oneCell'=true) (h3:z.oneCell'=true) (hb:∀ b,K b → b < w.heap.size) (hK:K g) (hf:¬ Fx g) (hs:¬ Sh g) (hg:w.heap[g]? = some (.cells cur t (0,0))) (hl:o+3 ≤ cur.size)
  (h:Goes0 P Fx Sh Stop n K (G (b.at (a.put op.dst undef) (.inRegion ops rest :: k)) cs) (w.setRow g (put3g cur o x y z))):Goes0 P Fx Sh Stop (n+1) K (G (b.at a (.inRegion ops (i :: rest) :: k)) cs) w:=by
 have e:execOp a.eval op=(do Instr.storeAt T (.pointer (some ⟨g,o,none⟩)) (.agg #[x,y,z]);pure Next.skip):=by unfold execOp;rw [hop];simp only [hp,hv]
 refine Goes0.store (bo:=g) (cur:=cur) (t:=t) ho hw hk hb hK hf hs hg (fun w1 h'=>?_) (fun w1 h' ev he=>?_) h
 ·
  rw [e]
  simp [(Go.Proofs.YtbokomeejmnnoaaDoor.store3 hz h1 h2 h3 h' hl).1]
 ·
  rw [e] at he
  simp only [Sem.events_bind,(Go.Proofs.YtbokomeejmnnoaaDoor.store3 hz h1 h2 h3 h' hl).1,(Go.Proofs.YtbokomeejmnnoaaDoor.store3 hz h1 h2 h3 h' hl).2,Result.evThen_ok,Sem.events_pure] at he
  simp only [Array.mem_push,Array.not_mem_empty,false_or] at he
  rcases he with (rfl | rfl) | rfl <;> exact ⟨_,rfl,rfl⟩
theorem Goes0.load3 {Fx Sh K:Nat → Prop} {Stop:(Nat → Prop) → Goroutine → World → Prop} {n:Nat} {b:Frame} {a:Act} {k:List Item} {cs:List Frame} {ops:Array Oper} {i:Nat} {rest:List Nat} {op:Oper} {px:Operand} (T:TypeId) (g o:Nat) (x y z:Value)
  (ho:ops[i]? = some op) (hw:Region.wanted op (yielded ops a.tmps)=true) (hk:b.kind ≠ .early) (hop:op.op=.load T px) (hp:a.eval px=.pointer (some ⟨g,o,none⟩))
  (ha:∀ w,(isAgg T).run P w=.ok true w) (hz:∀ w,(sizeOf T).run P w=.ok 3 w) (hb:∀ b,K b → b < w.heap.size) (hK:K g) (hs:¬ Sh g) (hg:w.heap[g]? = some (.cells cur t (0,0))) (h1:cur[o]? = some x) (h2:cur[o+1]? = some y) (h3:cur[o+2]? = some z)
  (h:Goes0 P Fx Sh Stop n K (G (b.at (a.put op.dst (.agg #[x,y,z])) (.inRegion ops rest :: k)) cs) w):Goes0 P Fx Sh Stop (n+1) K (G (b.at a (.inRegion ops (i :: rest) :: k)) cs) w:=by
 have e:execOp a.eval op=(do pure (Next.value (← Instr.loadAt T (.pointer (some ⟨g,o,none⟩))))):=by unfold execOp;rw [hop];simp only [hp]
 refine Goes0.load (.agg #[x,y,z]) ho hw hk hb (fun w1 h'=>?_) (fun w1 h' ev he=>?_) h
 ·
  rw [e]
  simp [(Go.Proofs.YtbokomeejmnnoaaDoor.load3 ha hz ((h'.1 g hK).trans hg) h1 h2 h3).1]
 ·
  rw [e] at he
  simp only [Sem.events_bind,(Go.Proofs.YtbokomeejmnnoaaDoor.load3 ha hz ((h'.1 g hK).trans hg) h1 h2 h3).1,(Go.Proofs.YtbokomeejmnnoaaDoor.load3 ha hz ((h'.1 g hK).trans hg) h1 h2 h3).2,Result.evThen_ok,Sem.events_pure] at he
  simp only [Array.mem_push,Array.not_mem_empty,false_or] at he
  rcases he with (rfl | rfl) | rfl <;> exact ⟨_,rfl,hK,hs⟩
theorem Goes0.load1 {Fx Sh K:Nat → Prop} {Stop:(Nat → Prop) → Goroutine → World → Prop} {n:Nat} {b:Frame} {a:Act} {k:List Item} {cs:List Frame} {ops:Array Oper} {i:Nat} {rest:List Nat} {op:Oper} {px:Operand} (T:TypeId) (g o:Nat) (x:Value)
  (ho:ops[i]? = some op) (hw:Region.wanted op (yielded ops a.tmps)=true) (hk:b.kind ≠ .early) (hop:op.op=.load T px) (hp:a.eval px=.pointer (some ⟨g,o,none⟩))
  (ha:∀ w,(isAgg T).run P w=.ok false w) (hb:∀ b,K b → b < w.heap.size) (hK:K g) (hs:¬ Sh g) (hc:w.cell? ⟨g,o,none⟩=some x)
  (h:Goes0 P Fx Sh Stop n K (G (b.at (a.put op.dst x) (.inRegion ops rest :: k)) cs) w):Goes0 P Fx Sh Stop (n+1) K (G (b.at a (.inRegion ops (i :: rest) :: k)) cs) w:=by
 have e:execOp a.eval op=(do pure (Next.value (← Instr.loadAt T (.pointer (some ⟨g,o,none⟩))))):=by unfold execOp;rw [hop];simp only [hp]
 have hc1:∀ w1,Sees K w w1 → w1.cell? ⟨g,o,none⟩=some x:=fun w1 h'=>(h'.cell (a:=⟨g,o,none⟩) hK).trans hc
 refine Goes0.load x ho hw hk hb (fun w1 h'=>?_) (fun w1 h' ev he=>?_) h
 ·
  rw [e]
  simp [Instr.loadAt,Instr.sureAddr,loadVar,ha,hc1 w1 h']
 ·
  rw [e] at he
  simp [Instr.loadAt,Instr.sureAddr,loadVar,ha,ev_agg (ha _),hc1 w1 h'] at he
  subst he
  exact ⟨_,rfl,hK,hs⟩
end
end Go.Proofs.YtbokomeejmnnoaaDoor
