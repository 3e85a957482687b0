/- Own facts, put together: no statement of its own. -/
import Derived.Test.YtbokomeejmnnoaaDoorProg
import Derived.BigQuiet
import Derived.Test.YtbokomeejmnnoaaDoorD31
import Derived.Test.YtbokomeejmnnoaaDoorD38
import Derived.Test.YtbokomeejmnnoaaDoorD18
import Derived.Test.YtbokomeejmnnoaaDoorD37

set_option maxRecDepth 100000
namespace Go.Proofs.YtbokomeejmnnoaaDoor
open Extern.Rtype Extern.ReflectliteValue
def sdTexts:List Nat:=[5,7,8,9,10,11,12,13,15,16,17,18,19,20,21,27,28,29,30,31,32,33,34,35,54,55,56,57,61,63,89]
def sdOuts:List Nat:=[58,59,60,62,69,70,84,85,91,94,96,97,95]
def sdPlan:Plan:=⟨fun f=>sdTexts.contains f || sdOuts.contains f,fun f=>if f == 29 then [2,17] else if f == 19 then [7] else []⟩
def textM (P:Program) (p:Plan) (f:Nat):Bool:=match P.funcs[f]? with
 | some fn=>(match fn.body with
  | some c=>!(fn.name == "runtime.NumGoroutine") && codeM P p (p.Kf f) c
  | none=>false)
 | none=>false
theorem textM_is {P:Program} {p:Plan} {f:Nat} (h:textM P p f=true):∃ fn,P.funcs[f]? = some fn ∧ (fn.name == "runtime.NumGoroutine")=false ∧ ∃ c,fn.body=some c ∧ codeM P p (p.Kf f) c=true:=by
 unfold textM at h
 split at h
 ·
  split at h
  ·
   rename_i fn h1 _ c h2
   rw [Bool.and_eq_true] at h
   exact ⟨fn,h1,by simpa using h.1,c,h2,h.2⟩
  · cases h
 · cases h
theorem sd_texts:sdTexts.all (textM Tryd.prog sdPlan)=true:=by decide +kernel
theorem outM_of {H:Nat → Prop} {f:Nat} {fn:Func} {x:Array Value → Sem Value} (h1:Tryd.prog.funcs[f]? = some fn) (h2:(fn.name == "runtime.NumGoroutine")=false) (h3:fn.body=none) (h4:Extern.find fn=some x ∧ Extern.findNext fn=none) (h6:ExtM Tryd.prog H x) :
  ∃ fn,Tryd.prog.funcs[f]? = some fn ∧ (fn.name == "runtime.NumGoroutine")=false ∧ ((∃ c,fn.body=some c ∧ codeM Tryd.prog sdPlan (sdPlan.Kf f) c=true) ∨ (fn.body=none ∧ Extern.findNext fn=none ∧ ∃ x,Extern.find fn=some x ∧ ExtM Tryd.prog H x) ∨ ∀ a,Dies Tryd.prog (callFunc f a)):=
 ⟨fn,h1,h2,.inr (.inl ⟨h3,h4.2,x,h4.1,h6⟩)⟩
theorem sd_abiElem (a:Array Value) (w:World):(callFunc 84 a).run Tryd.prog w=.halt (.unsupported (.extern Tryd.f84.name)) w:=by kernel_rfl
theorem sdOut_ReflectliteValueOf:Extern.find Tryd.f58=some (fun args=>unpack (args.getD 0 (.tuple #[]))) ∧ Extern.findNext Tryd.f58=none:=⟨by kernel_rfl,by kernel_rfl⟩
theorem sdOut_ReflectliteValueType:Extern.find Tryd.f59=some (methodAny (valueError "reflectlite.Value.Type" 0) (fun t _ _ _=>Extern.ReflectliteType.toType t)) ∧ Extern.findNext Tryd.f59=none:=⟨by kernel_rfl,by kernel_rfl⟩
theorem sdOut_ReflectliteValueIsNil:Extern.find Tryd.f60=some (Extern.ReflectliteValue.method (valueError "reflectlite.Value.IsNil" 0) isNil) ∧ Extern.findNext Tryd.f60=none:=⟨by kernel_rfl,by kernel_rfl⟩
theorem sdOut_ReflectliteTypeOf:Extern.find Tryd.f62=some Extern.ReflectliteType.typeOf ∧ Extern.findNext Tryd.f62=none:=⟨by kernel_rfl,by kernel_rfl⟩
theorem sdOut_ReflectliteValueElem:Extern.find Tryd.f69=some (Extern.ReflectliteValue.method (valueError "reflectlite.Value.Elem" 0) Extern.ReflectliteValue.elem) ∧ Extern.findNext Tryd.f69=none:=⟨by kernel_rfl,by kernel_rfl⟩
theorem sdOut_ReflectliteValueSet:Extern.find Tryd.f70=some Extern.ReflectliteValue.set ∧ Extern.findNext Tryd.f70=none:=⟨by kernel_rfl,by kernel_rfl⟩
theorem sdOut_AbiTypeKind:Extern.find Tryd.f85=some (Extern.ReflectliteType.abiMethod (fun t=>do pure (.int .u8 (← kind t)))) ∧ Extern.findNext Tryd.f85=none:=⟨by kernel_rfl,by kernel_rfl⟩
theorem sdOut_ReflectliteValueKind:Extern.find Tryd.f91=some (Extern.ReflectliteValue.method (pure (.int .u8 0)) (fun _ _ _ k=>pure (.int .u8 (Int.ofNat k)))) ∧ Extern.findNext Tryd.f91=none:=⟨by kernel_rfl,by kernel_rfl⟩
theorem sdOut_ReflectliteRtypeAssignableTo:Extern.find Tryd.f94=some (Extern.ReflectliteType.relation "AssignableTo" Extern.ReflectliteType.assignableTo) ∧ Extern.findNext Tryd.f94=none:=⟨by kernel_rfl,by kernel_rfl⟩
theorem sdOut_ReflectliteRtypeElem:Extern.find Tryd.f96=some (Extern.ReflectliteType.method Extern.ReflectliteType.elem) ∧ Extern.findNext Tryd.f96=none:=⟨by kernel_rfl,by kernel_rfl⟩
theorem sdOut_ReflectliteRtypeImplements:Extern.find Tryd.f97=some (Extern.ReflectliteType.relation "Implements" Extern.ReflectliteType.implements_) ∧ Extern.findNext Tryd.f97=none:=⟨by kernel_rfl,by kernel_rfl⟩
theorem sdOut_ReflectliteRtypeComparable:Extern.find Tryd.f95=some (Extern.ReflectliteType.method fun t=>do noPackHeld "Comparable" t;pure (.bool (← typeInfo t).comparable)) ∧ Extern.findNext Tryd.f95=none:=⟨by kernel_rfl,by kernel_rfl⟩
theorem sd_fns (H:Nat → Prop):FnsOkM Tryd.prog sdPlan H:=fun f hf=>by
 have hf:(sdTexts.contains f || sdOuts.contains f)=true:=hf
 rcases Bool.or_eq_true _ _ ▸ hf with h | h
 ·
  obtain ⟨fn,h1,h2,h3⟩:=textM_is (List.all_eq_true.1 sd_texts f (by simpa using h))
  exact ⟨fn,h1,h2,.inl h3⟩
 ·
  have h:f ∈ sdOuts:=by simpa using h
  simp only [sdOuts,List.mem_cons,List.not_mem_nil,or_false] at h
  rcases h with rfl | rfl | rfl | rfl | rfl | rfl | rfl | rfl | rfl | rfl | rfl | rfl | rfl
  · exact outM_of (fn:=Tryd.f58) (by kernel_rfl) (by decide +kernel) (by kernel_rfl) sdOut_ReflectliteValueOf extM_valueOf
  · exact outM_of (fn:=Tryd.f59) (by kernel_rfl) (by decide +kernel) (by kernel_rfl) sdOut_ReflectliteValueType extM_type
  · exact outM_of (fn:=Tryd.f60) (by kernel_rfl) (by decide +kernel) (by kernel_rfl) sdOut_ReflectliteValueIsNil extM_isNil
  · exact outM_of (fn:=Tryd.f62) (by kernel_rfl) (by decide +kernel) (by kernel_rfl) sdOut_ReflectliteTypeOf extM_typeOf
  · exact outM_of (fn:=Tryd.f69) (by kernel_rfl) (by decide +kernel) (by kernel_rfl) sdOut_ReflectliteValueElem extM_elem
  · exact outM_of (fn:=Tryd.f70) (by kernel_rfl) (by decide +kernel) (by kernel_rfl) sdOut_ReflectliteValueSet extM_set
  · exact ⟨Tryd.f84,by kernel_rfl,by decide +kernel,.inr (.inr fun a w=>⟨_,w,sd_abiElem a w,trivial⟩)⟩
  · exact outM_of (fn:=Tryd.f85) (by kernel_rfl) (by decide +kernel) (by kernel_rfl) sdOut_AbiTypeKind extM_abiKind
  · exact outM_of (fn:=Tryd.f91) (by kernel_rfl) (by decide +kernel) (by kernel_rfl) sdOut_ReflectliteValueKind extM_valueKind
  · exact outM_of (fn:=Tryd.f94) (by kernel_rfl) (by decide +kernel) (by kernel_rfl) sdOut_ReflectliteRtypeAssignableTo (extM_relation "AssignableTo" asks_assignableTo)
  · exact outM_of (fn:=Tryd.f96) (by kernel_rfl) (by decide +kernel) (by kernel_rfl) sdOut_ReflectliteRtypeElem extM_typeElem
  · exact outM_of (fn:=Tryd.f97) (by kernel_rfl) (by decide +kernel) (by kernel_rfl) sdOut_ReflectliteRtypeImplements (extM_relation "Implements" asks_implements_)
  · exact outM_of (fn:=Tryd.f95) (by kernel_rfl) (by decide +kernel) (by kernel_rfl) sdOut_ReflectliteRtypeComparable extM_comparable
end Go.Proofs.YtbokomeejmnnoaaDoor

set_option maxRecDepth 100000
set_option linter.unusedSimpArgs false
namespace Go.Proofs.YtbokomeejmnnoaaDoor
open Go.Conc Go.RowKit Go.Conc.Lib Go.ConcR.Gen
open Go.ConcR (KK WgAt stA smA rd wr mk)
structure LaterW (w w':World):Prop where
 size:w.heap.size ≤ w'.heap.size
 old:∀ b,b < w.heap.size → w'.heap[b]? = w.heap[b]?
 out:w'.os=w.os ∧ w'.output=w.output
def HidWg (H:Nat → Prop) (w:World):Prop:=∀ b,H b → ∃ st sm,WgAt 64 b w st sm
section
variable {H:Nat → Prop} {w w1 w2 v v':World}
theorem LaterW.refl (w:World):LaterW w w:=⟨Nat.le_refl _,fun _ _=>rfl,rfl,rfl⟩
theorem LaterW.trans (h:LaterW w w1) (k:LaterW w1 w2):LaterW w w2:=⟨Nat.le_trans h.size k.size,fun b hb=>(k.old b (Nat.lt_of_lt_of_le hb h.size)).trans (h.old b hb),k.out.1.trans h.out.1,k.out.2.trans h.out.2⟩
theorem LaterW.at (w:World) (d:Nat):LaterW w (w.at d):=⟨Nat.le_refl _,fun _ _=>rfl,rfl,rfl⟩
theorem LaterW.of (h:MaskT H v w) (h':MaskT H v' w1) (hp:Pend H w w1) (hb:Below v.heap.size v v'):LaterW w w1:=by
 refine ⟨by rw [h.size,h'.size];exact hb.size,fun b hl=>?_,hp.2.2⟩
 by_cases hh:H b
 · exact hp.2.1 b hh
 · exact h.below h' hp hb.block hl hh
theorem LaterW.cell (h:LaterW w w1) {a:Addr} {x:Value} (hc:w.cell? a=some x):w1.cell? a=some x:=by
 have hl:=cell_lt hc
 unfold World.cell? at hc ⊢
 rw [h.old _ hl]
 exact hc
theorem HidWg.ok (h:HidWg H w):HidOk H w:=fun b hb=>by
 obtain ⟨st,sm,h1⟩:=h b hb
 exact ⟨_,_,h1⟩
theorem HidWg.lt (h:HidWg H w) {b:Nat} (hb:H b):b < w.heap.size:=by
 obtain ⟨st,sm,h1⟩:=h b hb
 exact get_zero h1
theorem HidWg.later (h:HidWg H w) (hl:LaterW w w1):HidWg H w1:=fun b hb=>by
 obtain ⟨st,sm,h1⟩:=h b hb
 exact ⟨st,sm,(hl.old b (get_zero h1)).trans h1⟩
theorem HidWg.cell (h:HidWg H w) (hm:MaskT H v w) {a:Addr} {x:Value} (hc:w.cell? a=some x) (h1:∀ n,x ≠ .int .u64 n) (h2:∀ n,x ≠ .int .u32 n):v.cell? a=some x:=by
 refine hm.cellOf (fun hb=>?_) hc
 obtain ⟨st,sm,hw⟩:=h a.block hb
 have hw:w.heap[a.block]? = some (.cells #[.int .u64 st,.int .u32 sm] 64 (0,0)):=hw
 unfold World.cell? at hc
 rw [hw] at hc
 simp only at hc
 split at hc
 · cases hc
 ·
  cases ho:a.off with
  | zero=>rw [ho] at hc;simp at hc;exact h1 st hc.symm
  | succ n=>
   cases n with
   | zero=>rw [ho] at hc;simp at hc;exact h2 sm hc.symm
   | succ n=>rw [ho] at hc;simp at hc
theorem Errs9.mask {ad:Nat → Addr} (he:Errs9 w ad) (h:HidWg H w) (hm:MaskT H v w):Errs9 v ad:=by
 have hc:∀ {a:Addr} {t:TypeId} {x:Value},w.cell? a=some (.iface t x) → v.cell? a=some (.iface t x):=fun hx=>h.cell hm hx (by simp) (by simp)
 exact ⟨hc he.typ,hc he.c0,hc he.c1,hc he.c2,hc he.c3,hc he.c4,hc he.c5,hc he.c6,hc he.c7,hc he.c8⟩
theorem Errs9.unmask {ad:Nat → Addr} (he:Errs9 v ad) (hm:MaskT H v w):Errs9 w ad:=
 ⟨hm.cell he.typ,hm.cell he.c0,hm.cell he.c1,hm.cell he.c2,hm.cell he.c3,hm.cell he.c4,hm.cell he.c5,hm.cell he.c6,hm.cell he.c7,hm.cell he.c8⟩
theorem Errs9.laterW {ad:Nat → Addr} (he:Errs9 w ad) (h:LaterW w w1):Errs9 w1 ad:=
 ⟨h.cell he.typ,h.cell he.c0,h.cell he.c1,h.cell he.c2,h.cell he.c3,h.cell he.c4,h.cell he.c5,h.cell he.c6,h.cell he.c7,h.cell he.c8⟩
theorem CodeIs.mask {E:Value} {c a:Int} (hc:CodeIs w E c a) (h:HidWg H w) (hm:MaskT H v w):CodeIs v E c a:=by
 rcases hc with hc | ⟨ad,he,k,hk,e,hc | ⟨pb,h1,h2,h3⟩⟩
 · exact .inl hc
 · exact .inr ⟨ad,he.mask h hm,k,hk,e,.inl hc⟩
 · exact .inr ⟨ad,he.mask h hm,k,hk,e,.inr ⟨pb,h1,h.cell hm h2 (by simp) (by simp),h.cell hm h3 (by simp) (by simp)⟩⟩
theorem CodeIs.unmask {E:Value} {c a:Int} (hc:CodeIs v E c a) (hm:MaskT H v w):CodeIs w E c a:=by
 rcases hc with hc | ⟨ad,he,k,hk,e,hc | ⟨pb,h1,h2,h3⟩⟩
 · exact .inl hc
 · exact .inr ⟨ad,he.unmask hm,k,hk,e,.inl hc⟩
 · exact .inr ⟨ad,he.unmask hm,k,hk,e,.inr ⟨pb,h1,hm.cell h2,hm.cell h3⟩⟩
theorem ErrIs.mask {E:Value} {c p:Int} (hc:ErrIs w E c p) (h:HidWg H w) (hm:MaskT H v w):ErrIs v E c p:=⟨hc.code.mask h hm,hc.none_,hc.some_⟩
theorem ErrIs.unmask {E:Value} {c p:Int} (hc:ErrIs v E c p) (hm:MaskT H v w):ErrIs w E c p:=⟨hc.code.unmask hm,hc.none_,hc.some_⟩
theorem DelayEnd.mask {per:Int} {ls:List (Int × Int)} {ad:Nat → Addr} {e:Ending} (hd:DelayEnd per ls ad e w) (h:HidWg H w) (hm:MaskT H v w):DelayEnd per ls ad e v:=by
 refine ⟨hd.1.mask h hm,?_⟩
 rcases hd.2 with ⟨c,p,ty,x,h1,h2,h3⟩ | hd | hd
 · exact .inl ⟨c,p,ty,x,h1,h2,h3.mask h hm⟩
 · exact .inr (.inl hd)
 · exact .inr (.inr hd)
theorem LiesN.unmask {a:Option Addr} {xs:List Int} (hl:LiesN v a xs) (hm:MaskT H v w):LiesN w a xs:=by
 rcases hl with hl | ⟨b,off,h1,h2,h3⟩
 · exact .inl hl
 · exact .inr ⟨b,off,h1,by rw [hm.size];exact h2,fun i x hx=>hm.cell (h3 i x hx)⟩
theorem LiesN.mask {a:Option Addr} {xs:List Int} (hl:LiesN w a xs) (h:HidWg H w) (hm:MaskT H v w):LiesN v a xs:=by
 rcases hl with hl | ⟨b,off,h1,h2,h3⟩
 · exact .inl hl
 · exact .inr ⟨b,off,h1,by rw [← hm.size];exact h2,fun i x hx=>h.cell hm (h3 i x hx) (by simp) (by simp)⟩
end
structure OeArgs (H R:Nat → Prop) (T:Nat → Nat) (n bl bp:Nat) (l:OeL) (ad:Nat → Addr) (per:Int) (w:World):Prop where
 n100:n ≤ 100
 errs:Errs9 w ad
 hid:HidWg H w
 globs:∀ b,b < Tryd.prog.globals.size → b < w.heap.size ∧ ¬ H b
 call:∀ i,i < n → AnswerCall R T ad bl bp l.B l.off n l.cap i (l.a i) (l.capi i) (l.ls i) per w
 rs:∀ b,R b → b < w.heap.size ∧ ¬ H b
theorem OeArgs.later {H R:Nat → Prop} {T:Nat → Nat} {n bl bp:Nat} {l:OeL} {ad:Nat → Addr} {per:Int} {w w1:World} (h:OeArgs H R T n bl bp l ad per w) (hl:LaterW w w1):OeArgs H R T n bl bp l ad per w1:=
 ⟨h.n100,h.errs.laterW hl,h.hid.later hl,fun b hb=>⟨Nat.lt_of_lt_of_le (h.globs b hb).1 hl.size,(h.globs b hb).2⟩,fun i hi=>(h.call i hi).sees (K:=fun b=>b < w.heap.size) ⟨hl.old,hl.size,hl.out⟩ (fun b hb=>(h.rs b hb).1) fun b hb=>(h.globs b hb).1,fun b hb=>⟨Nat.lt_of_lt_of_le (h.rs b hb).1 hl.size,(h.rs b hb).2⟩⟩
def OfEnd (per:Int) (ls:Nat → List (Int × Int)) (n:Nat) (x y:Value) (w:World):Prop:=
 (∃ i c,i < n ∧ (∀ j,j < i → ∃ d,GoodD per (ls j) d) ∧ BadD per (ls i) c ∧ 0 < c ∧ x=.slice none 0 0 ∧ ErrIs w y c i) ∨
 (∃ (ds:List Int) (D:Nat),ds.length=n ∧ (∀ i d,ds[i]? = some d → GoodD per (ls i) d) ∧ x=.slice (some ⟨D,0,none⟩) n n ∧ y=.nilIface ∧ LiesN w (some ⟨D,0,none⟩) ds)
end Go.Proofs.YtbokomeejmnnoaaDoor

set_option maxRecDepth 100000
set_option linter.unusedSimpArgs false
namespace Go.Proofs.YtbokomeejmnnoaaDoor
open Go.Conc Go.RowKit Go.Conc.Lib Go.ConcR.Gen
open Go.ConcR (KK WgAt stA smA rd wr mk)
section
variable {H R:Nat → Prop} {T:Nat → Nat} {z:OeV} {l:OeL} {ad:Nat → Addr} {per:Int} {cs:List Frame} {w w0:World} {Post:Value → World → Prop} {n bl bp:Nat} {wks:Int}
def anV (bl bp:Nat):Value:=.func (.func 15) #[] #[.pointer (some ⟨bl,0,none⟩),.pointer (some ⟨bp,0,none⟩)]
def oeEnter (f:Func) (n wks:Int) (an:Value) (cs:List Frame):Goroutine:=G ((base 14).at ⟨#[.int .i64 n,.int .i64 wks,an,undef,undef,undef,undef,undef,undef,undef,undef,undef,undef,undef,undef,undef,undef,undef,undef,undef,undef,undef,undef,undef,undef,undef,undef,undef,undef,undef,undef],[]⟩ [.code (bodyC f)]) cs
theorem oe_ready {H R:Nat → Prop} {T:Nat → Nat} {l:OeL} {ad:Nat → Addr} {per:Int} {n bl bp cn cr bn br ba m:Nat} {wks:Int} {w w2:World} (h:OeArgs H R T n bl bp l ad per w) (hl:LaterW w w2) (hm:m ≤ 16) (hpos:0 < n → 0 < m)
  (hne:cn ≠ cr) (h1:w.heap.size ≤ cn) (h2:w.heap.size ≤ cr) (k1:w2.heap[cn]? = some (.chan 0 #[] false 0 0 false)) (k2:w2.heap[cr]? = some (.chan 0 #[] false 0 0 false)) (k3:w2.cell? ⟨bn,0,none⟩=some (.chan (some cn))) (k4:w2.cell? ⟨br,0,none⟩=some (.chan (some cr))) (k5:w2.cell? ⟨ba,0,none⟩=some (anV bl bp)) :
  OeOk H R T ⟨⟨w2.heap.size,bn,ba,br,cn,cr,bl,bp⟩,n,m,wks,anV bl bp⟩ l ad per w2:=by
 have h':=h.later hl
 have hH:∀ b,H b → b < w.heap.size:=fun b hb=>h.hid.lt hb
 have hcell:∀ {a:Addr} {x:Value},w2.cell? a=some x → (∀ n,x ≠ .int .u64 n) → (∀ n,x ≠ .int .u32 n) → OeS H ⟨w2.heap.size,bn,ba,br,cn,cr,bl,bp⟩ w2 a.block:=fun {a x} hc e1 e2=>by
  refine ⟨cell_lt hc,fun hb=>?_,fun e=>?_,fun e=>?_⟩
  ·
   obtain ⟨v,hv,-,-⟩:=mask_of h'.hid.ok
   have:=h'.hid.cell hv.some hc e1 e2
   obtain ⟨c,e,-,hx⟩:=hv.hid _ hb
   simp [World.cell?,hx] at this
  ·
   have e:a.block=cn:=e
   unfold World.cell? at hc
   rw [e,k1] at hc
   cases hc
  ·
   have e:a.block=cr:=e
   unfold World.cell? at hc
   rw [e,k2] at hc
   cases hc
 have hlow:∀ b,b < w.heap.size → ¬ H b → OeS H ⟨w2.heap.size,bn,ba,br,cn,cr,bl,bp⟩ w2 b:=fun b hb hn=>⟨Nat.lt_of_lt_of_le hb hl.size,hn,fun e=>by have e:b=cn:=e;omega,fun e=>by have e:b=cr:=e;omega⟩
 refine ⟨h.n100,hm,hpos,rfl,h'.call,h'.errs,fun b hb=>hlow b (h.rs b hb).1 (h.rs b hb).2,fun b hb=>hlow b (h.globs b hb).1 (h.globs b hb).2,⟨k3,k5,k4⟩,hcell k3 (by simp) (by simp),hcell k5 (by simp [anV]) (by simp [anV]),hcell k4 (by simp) (by simp),hne,⟨0,false,k1⟩,⟨0,false,k2⟩,h'.hid.ok,fun hb=>?_,fun hb=>?_⟩
 ·
  have:=hH _ hb
  have:cn < w.heap.size:=this
  omega
 ·
  have:=hH _ hb
  have:cr < w.heap.size:=this
  omega
theorem OeOk.at (h:OeOk H R T z l ad per w) (d:Nat):OeOk H R T z l ad per (w.at d):=
 ⟨h.n100,h.m16,h.pos,h.wg,fun i hi=>(h.call i hi).sees (K:=fun b=>b < w.heap.size) ⟨fun _ _=>rfl,Nat.le_refl _,rfl,rfl⟩ (fun b hb=>(h.rs b hb).1) fun b hb=>(h.globs b hb).1,h.errs.same fun _=>rfl,h.rs,h.globs,⟨h.f.bn,h.f.ba,h.f.br⟩,h.vn,h.va,h.vr,h.ne,h.chn,h.chr,h.hid,h.hc⟩
end
end Go.Proofs.YtbokomeejmnnoaaDoor

set_option maxRecDepth 100000
set_option linter.unusedSimpArgs false
namespace Go.Proofs.YtbokomeejmnnoaaDoor
open Go.Conc Go.RowKit Go.Conc.Lib Go.ConcR.Gen
open Go.ConcR (KK WgAt stA smA rd wr mk)
theorem LaterW.ofBelow {w w':World} (h:Below w.heap.size w w'):LaterW w w':=⟨h.size,h.block,h.os,h.output⟩
theorem LaterW.taped {w w':World} (h:LaterW w w') (t:Nat → Question → Nat):LaterW w (Go.Proofs.YtbokomeejmnnoaaDoor.taped w' t):=⟨h.size,h.old,h.out⟩
theorem LaterW.of' {H:Nat → Prop} {v v' w w1:World} (h:MaskT H v w) (h':MaskT H v' w1) (hp:Pend H w w1) (hb:LaterW v v'):LaterW w w1:=by
 refine ⟨by rw [h.size,h'.size];exact hb.size,fun b hl=>?_,hp.2.2⟩
 by_cases hh:H b
 · exact hp.2.1 b hh
 · exact h.below h' hp hb.old hl hh
theorem MaskT.chanBack {H:Nat → Prop} {v w:World} (h:MaskT H v w) {b cap s r:Nat} {buf:Array Value} {cl tm:Bool} (ho:v.heap[b]? = some (.chan cap buf cl s r tm)) (hb:¬ H b):w.heap[b]? = some (.chan cap buf cl s r tm):=by
 obtain ⟨t,t',hm⟩:=h
 rcases hm.seen b hb with ⟨h1,-⟩ | ⟨c,e,-,h1⟩
 · exact (show w.heap[b]? = v.heap[b]? from h1).trans ho
 ·
  have h1:v.heap[b]? = some (.coro none):=h1
  rw [h1] at ho
  cases ho
def oeAct1 (n wks:Int) (an:Value) (ba:Nat):Act:=⟨#[.int .i64 n,.int .i64 wks,an,undef,undef,.pointer (some ⟨ba,0,none⟩),.slice none 0 0,.nilIface,undef,undef,undef,undef,undef,undef,undef,undef,undef,undef,undef,undef,undef,undef,undef,undef,undef,undef,undef,undef,undef,undef,undef],[]⟩
def oeAct2 (n wks:Int) (an:Value) (ba bn br cn cr:Nat):Act:=⟨#[.int .i64 n,.int .i64 wks,an,undef,undef,.pointer (some ⟨ba,0,none⟩),.slice none 0 0,.nilIface,.pointer (some ⟨bn,0,none⟩),.pointer (some ⟨br,0,none⟩),undef,undef,.chan (some cn),.chan (some cr),undef,undef,undef,undef,undef,undef,undef,undef,undef,undef,undef,undef,undef,undef,undef,undef,undef],[]⟩
def ChanQ (H:Nat → Prop) (n wks:Int) (an:Value) (ba:Nat) (w:World) (e:Exit) (a:Act) (v':World):Prop:=e=.normal ∧ ∃ v,MaskT H v w ∧ LaterW v v' ∧ ∃ cn cr bn br:Nat,a=oeAct2 n wks an ba bn br cn cr ∧ cn ≠ cr ∧ w.heap.size ≤ cn ∧ w.heap.size ≤ cr ∧
 v'.heap[cn]? = some (.chan 0 #[] false 0 0 false) ∧ v'.heap[cr]? = some (.chan 0 #[] false 0 0 false) ∧ v'.cell? ⟨bn,0,none⟩=some (.chan (some cn)) ∧ v'.cell? ⟨br,0,none⟩=some (.chan (some cr))
theorem SdAnsEnd.of {per:Int} {ls:Nat → List (Int × Int)} {n:Nat} {v v':World} {e:Ending} (h:SdAnsEnd per ls n v e v'):∃ x y,e=.returned (.tuple #[x,y]) ∧ OfEnd per ls n x y v':=by
 rcases h.2 with ⟨i,c,E,h1,h2,h3,h4,rfl,h5⟩ | ⟨ds,D,h1,h2,rfl,h3,-⟩
 · exact ⟨_,_,rfl,.inl ⟨i,c,h1,h2,h3,h4,rfl,h5⟩⟩
 · exact ⟨_,_,rfl,.inr ⟨ds,D,h1,h2,rfl,rfl,h3⟩⟩
theorem OfEnd.unmask {H:Nat → Prop} {per:Int} {ls:Nat → List (Int × Int)} {n:Nat} {x y:Value} {v w:World} (h:OfEnd per ls n x y v) (hm:MaskT H v w):OfEnd per ls n x y w:=by
 rcases h with ⟨i,c,h1,h2,h3,h4,h5,h6⟩ | ⟨ds,D,h1,h2,h3,h4,h5⟩
 · exact .inl ⟨i,c,h1,h2,h3,h4,h5,h6.unmask hm⟩
 · exact .inr ⟨ds,D,h1,h2,h3,h4,h5.unmask hm⟩
theorem OfEnd.taped {per:Int} {ls:Nat → List (Int × Int)} {n:Nat} {x y:Value} {v:World} (h:OfEnd per ls n x y v) (t:Nat → Question → Nat):OfEnd per ls n x y (Go.Proofs.YtbokomeejmnnoaaDoor.taped v t):=by
 rcases h with ⟨i,c,h1,h2,h3,h4,h5,h6⟩ | ⟨ds,D,h1,h2,h3,h4,h5⟩
 · exact .inl ⟨i,c,h1,h2,h3,h4,h5,h6.code.same fun _=>rfl,h6.none_,h6.some_⟩
 ·
  refine .inr ⟨ds,D,h1,h2,h3,h4,?_⟩
  rcases h5 with h5 | ⟨b,off,k1,k2,k3⟩
  · exact .inl h5
  · exact .inr ⟨b,off,k1,k2,k3⟩
def LastQ (H:Nat → Prop) (per:Int) (ls:Nat → List (Int × Int)) (n:Nat) (w:World) (e:Exit) (a:Act) (v':World):Prop:=e=.ret ∧ a.defers=[] ∧ ∃ v,MaskT H v w ∧ LaterW v v' ∧ ∃ x y,a.tmps.getD 6 undef=x ∧ a.tmps.getD 7 undef=y ∧ OfEnd per ls n x y v'
section
variable {H R:Nat → Prop} {T:Nat → Nat} {l:OeL} {ad:Nat → Addr} {per:Int} {cs:List Frame} {w:World} {Post:Value → World → Prop} {n bl bp:Nat} {wks:Int}
theorem oe_last (z:OeV) (ob:Option Addr) (x:OeX) (v:World) {C:Ending → World → Prop} (hC:Calls Tryd.prog 27 #[.slice ob z.n z.n] v C) (hr:∀ e v',C e v' → ∃ x y,e=.returned (.tuple #[x,y])) :
  (oeEnd Tryd.f14).wp Tryd.prog (fun e a v'=>e=.ret ∧ a.defers=[] ∧ ∃ x y,a.tmps.getD 6 undef=x ∧ a.tmps.getD 7 undef=y ∧ C (.returned (.tuple #[x,y])) v') ⟨oeT8 z x (.slice ob z.n z.n) (.slice ob z.n z.n) (.tuple #[]),[]⟩ v:=by
 have HC:Hid (Calls Tryd.prog 27 #[.slice ob z.n z.n] v C):=hC
 have HR:Hid (∀ e v',C e v' → ∃ x y,e=.returned (.tuple #[x,y])):=hr
 clear hC hr
 simp only [oeEnd,oeAft,oeRest,oeMid,oeT8,bodyC,firstC,secondC,Tryd.f14,Option.getD_some]
 go_wp2_with (refine HC.out.mono ?_)
 rintro e v1 hc
 obtain ⟨x1,y1,rfl⟩:=HR.out e v1 hc
 have HC1:Hid (C (.returned (.tuple #[x1,y1])) v1):=hc
 clear hc
 go_wp2_with fail
 exact HC1.out
theorem kf_none {s:Nat} {f:Nat} (hf:(f == 29)=false) (hg:(f == 19)=false) (hs:s ∈ sdPlan.Kf f):False:=by
 have e:sdPlan.Kf f=[]:=by
  show (if f == 29 then [2,17] else if f == 19 then [7] else [])=[]
  rw [hf,hg]
  rfl
 rw [e] at hs
 cases hs
theorem ofEach_fin (h:OeArgs H R T n bl bp l ad per w) (hw:1 ≤ wks ∧ wks ≤ 16) {b₀:Frame} {a₀:Act} {ops:Array Oper} {i:Nat} {rest:List Nat} {k:List Item}
  (hend:∀ (H':Nat → Prop) x y w',LaterW w w' → HidWg H' w' → (∀ b,H' b → H b ∨ w.heap.size ≤ b) → OfEnd per l.ls n x y w' → FinA Tryd.prog Post H' (G (b₀.at (a₀.put ((ops[i]?).bind (·.dst)) (.tuple #[x,y])) (.inRegion ops rest :: k)) cs) w') :
  FinA Tryd.prog Post H (oeEnter Tryd.f14 n wks (anV bl bp) (b₀.at a₀ (.inRegion ops (i :: rest) :: k) :: cs)) w:=by
 have hn100:=h.n100
 unfold oeEnter
 have eb:bodyC Tryd.f14=.seq (firstC (bodyC Tryd.f14)) (.seq (oeChans Tryd.f14) (.seq (firstC (secondC (secondC (bodyC Tryd.f14)))) (oeMid Tryd.f14))):=rfl
 rw [eb]
 refine FinA.c rfl (fun _=>stepG_seq) ?_
 refine FinA.c rfl (fun _=>stepG_region) ?_
 refine FinA.op (p:=sdPlan) sd_fns (Q:=fun x v'=>∃ v,MaskT H v w ∧ x=.pointer (some ⟨w.heap.size,0,none⟩) ∧ ∃ t,v'=v.alloc (.cells #[anV bl bp] t (0,0))) rfl rfl (by decide) (fun s hs=>(kf_none rfl rfl hs).elim) rfl h.hid.ok (fun v hv=>?_) ?_
 ·
  refine ⟨.pointer (some ⟨w.heap.size,0,none⟩),?W,?hrun,v,hv,rfl,?t,?hW⟩
  case hrun=>
   rw [hv.size]
   unfold anV
   go_simp
   rfl
  case hW=>rfl
 rintro x v1 w1 ⟨v,hv,rfl,t,rfl⟩ hm1 hp1
 have hl1:LaterW w w1:=LaterW.of hv hm1 hp1 ((Below.refl _ _).alloc (Nat.le_refl _) _)
 have hba:w1.cell? ⟨w.heap.size,0,none⟩=some (anV bl bp):=hm1.cell (by rw [hv.size];unfold World.cell?;rw [alloc_at];rfl)
 clear hv hm1 hp1 v
 have h1:=h.later hl1
 refine FinA.value (.slice none 0 0) rfl rfl (by decide) (fun _=>by go_simp) (fun _=>by simp [go_sem]) ?_
 refine FinA.value .nilIface rfl rfl (by decide) (fun _=>by go_simp) (fun _=>by simp [go_sem]) ?_
 refine FinA.c rfl (fun _=>stepG_region_end) ?_
 refine FinA.c rfl (fun _=>stepG_seq) ?_
 refine FinA.wp (p:=sdPlan) (a:=oeAct1 n wks (anV bl bp) w.heap.size) sd_fns (Q:=ChanQ H n wks (anV bl bp) w.heap.size w1) ⟨⟨_,Tryd.func14⟩,fun s hs=>(kf_none rfl rfl hs).elim,rfl,rfl⟩ (by decide +kernel) h1.hid.ok (fun v hv=>?_) (fun e a v' hq=>.inl hq.1) (fun e a v' t ⟨q1,v,q2,q3,cn,cr,bn,br,q4⟩=>⟨q1,v,q2,q3.taped t,cn,cr,bn,br,q4⟩) ?_ (fun a' todo v' w' hq=>by cases hq.1)
 ·
  refine Go.Code.wp_mono ?_ (oe_chans n wks (anV bl bp) w.heap.size v)
  rintro e a v' ⟨q1,cn,cr,bn,br,q2,q3,q4,q5,q6,q7⟩
  exact ⟨q1,v,hv,LaterW.ofBelow q3,cn,cr,bn,br,q2,q4,by rw [hv.size];exact q5,by rw [hv.size];exact q6,q7⟩
 rintro a' v' w2 ⟨-,v,hv,hlv,cn,cr,bn,br,rfl,hne,hcn,hcr,k1,k2,k3,k4⟩ hm2 hp2
 have hl2:LaterW w1 w2:=LaterW.of' hv hm2 hp2 hlv
 have hlt:∀ b,w1.heap.size ≤ b → ¬ H b:=fun b hb hh=>by
  have:=h1.hid.lt hh
  omega
 have j1:=hm2.chanBack k1 (hlt _ hcn)
 have j2:=hm2.chanBack k2 (hlt _ hcr)
 have j3:=hm2.cell k3
 have j4:=hm2.cell k4
 clear hv hlv k1 k2 k3 k4 hm2 hp2 v v'
 have hba2:=hl2.cell hba
 obtain ⟨m,hm⟩:∃ m:Nat,(if (n:Int) < wks then (n:Int) else wks)=(m:Int):=⟨(if (n:Int) < wks then (n:Int) else wks).toNat,by split <;> omega⟩
 have hm16:m ≤ 16:=by split at hm <;> omega
 have hmp:0 < n → 0 < m:=fun hp=>by split at hm <;> omega
 have hl02:=hl1.trans hl2
 have hok:=oe_ready (wks:=wks) h1 hl2 hm16 hmp hne hcn hcr j1 j2 j3 j4 hba2
 refine FinA.c rfl (fun _=>stepG_seq) ?_
 refine FinA.c rfl (fun _=>stepG_region) ?_
 show FinA Tryd.prog Post H (oeNew Tryd.f14 ⟨⟨w2.heap.size,bn,w.heap.size,br,cn,cr,bl,bp⟩,n,m,wks,anV bl bp⟩ (b₀.at a₀ (.inRegion ops (i :: rest) :: k) :: cs)) w2
 intro d
 refine oe_crowd (hok.at d) hm fun x bo cur w' he=>?_
 have hl':LaterW w w':=by
  refine ⟨Nat.le_trans hl02.size (Nat.le_of_lt he.grown),fun b hb=>?_,he.out.1.trans hl02.out.1,he.out.2.trans hl02.out.2⟩
  have hs1:=hl1.size
  have hs2:=hl02.size
  have hcn':b ≠ cn:=by omega
  have hcr':b ≠ cr:=by omega
  exact (he.old b (show b < w2.heap.size by omega) hcn' hcr').trans (hl02.old b hb)
 have hH':HidWg (fun b=>H b ∨ b=w2.heap.size) w':=by
  rintro b (hb | rfl)
  · exact h.hid.later hl' b hb
  · exact ⟨0,0,he.wg⟩
 have hbo:¬ (H bo ∨ bo=w2.heap.size):=fun hb=>by
  obtain ⟨st,sm,hx⟩:=hH' bo hb
  have hx:w'.heap[bo]? = some (.cells #[.int .u64 st,.int .u32 sm] 64 (0,0)):=hx
  rw [he.row] at hx
  injection hx with hx
  injection hx with _ hx _
  exact absurd hx (by decide)
 have key:FinA Tryd.prog Post (fun b=>H b ∨ b=w2.heap.size) (oeBack Tryd.f14 ⟨⟨w2.heap.size,bn,w.heap.size,br,cn,cr,bl,bp⟩,n,m,wks,anV bl bp⟩ (some ⟨bo,0,none⟩) x (b₀.at a₀ (.inRegion ops (i :: rest) :: k) :: cs)) w':=by
  unfold oeBack
  refine FinA.c rfl (fun _=>stepG_region_end) ?_
  refine FinA.wp (p:=sdPlan) sd_fns (Q:=LastQ (fun b=>H b ∨ b=w2.heap.size) per l.ls n w') ⟨⟨_,Tryd.func14⟩,fun s hs=>(kf_none rfl rfl hs).elim,rfl,rfl⟩ (by decide +kernel) hH'.ok (fun v hv=>?_) (fun e a v' hq=>.inr hq.1) (fun e a v' t ⟨q1,q2,v,q3,q4,x,y,q5,q6,q7⟩=>⟨q1,q2,v,q3,q4.taped t,x,y,q5,q6,q7.taped t⟩) (fun a' v' w' hq=>by cases hq.1) ?_
  ·
   refine Go.Code.wp_mono ?_ (oe_last ⟨⟨w2.heap.size,bn,w.heap.size,br,cn,cr,bl,bp⟩,n,m,wks,anV bl bp⟩ (some ⟨bo,0,none⟩) x v (answers_is bo n cur v ad per l.ls hn100 ((h.errs.laterW hl').mask hH' hv) (hv.row hbo he.row (by simp)) fun j hj=>?_) fun e v' hx=>?_)
   ·
    rintro e a v' ⟨q1,q2,x1,y1,q3,q4,q5⟩
    obtain ⟨x2,y2,e1,q6⟩:=q5.of
    cases e1
    exact ⟨q1,q2,v,hv,LaterW.ofBelow q5.1,x1,y1,q3,q4,q6⟩
   ·
    obtain ⟨u,y,e0,e1,e2,hd⟩:=he.vals j hj
    exact ⟨u,y,e0,e1,e2,hd.mask hH' hv⟩
   ·
    obtain ⟨x2,y2,e1,-⟩:=hx.of
    exact ⟨x2,y2,e1⟩
  ·
   rintro a' todo v' w3 ⟨-,hdf,v,hv,hlv,x1,y1,e6,e7,hof⟩ hm3 hp3
   have hl3:=LaterW.of' hv hm3 hp3 hlv
   refine FinA.leave (fn:=Tryd.f14) (v:=.tuple #[x1,y1]) rfl hdf Tryd.func14 (fun w=>?_) (fun w=>?_) ?_
   ·
    simp only [Array.getD_eq_getD_getElem?] at e6 e7
    simp [results,Tryd.f14,e6,e7]
   · simp [results,Tryd.f14]
   · exact hend _ x1 y1 w3 (hl'.trans hl3) (hH'.later hl3) (fun b hb=>or_map id (fun e=>by rw [e];exact hl02.size) hb) (hof.unmask hm3)
 exact key.now
end
end Go.Proofs.YtbokomeejmnnoaaDoor
