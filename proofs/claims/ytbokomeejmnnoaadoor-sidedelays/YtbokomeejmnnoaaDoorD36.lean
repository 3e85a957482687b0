/- Own facts, put together: no statement of its own. -/
import Derived.Test.YtbokomeejmnnoaaDoorD35
import Derived.Conc.TokenWalk
import Derived.Test.YtbokomeejmnnoaaDoorD03

set_option maxRecDepth 100000
set_option linter.unusedSimpArgs false
namespace Go.Proofs.YtbokomeejmnnoaaDoor
open Go.Conc Go.RowKit Go.Conc.Lib Go.ConcR.Gen
section
variable {z:OeV} {bo:Nat} {a b i m:Nat} {x:HoX} {cs:List Frame} {K Fx Sh:Nat → Prop} {Stop:(Nat → Prop) → Goroutine → World → Prop} {w:World} {cur:Array Value} {xv y:Value}
theorem setRow_size (w:World) (b:Nat) (cs:Array Value):(w.setRow b cs).heap.size=w.heap.size:=by simp [World.setRow]
theorem setRow_ne (w:World) {b c:Nat} (h:c ≠ b) (cs:Array Value):(w.setRow b cs).heap[c]? = w.heap[c]?:=by simp [World.setRow,Array.getElem?_modify,Ne.symm h]
theorem alloc_size (w:World) (o:Obj):(w.alloc o).heap.size=w.heap.size+1:=by show (w.heap.push _).size=_;simp
theorem alloc_at (w:World) (o:Obj):(w.alloc o).heap[w.heap.size]? = some o:=by show (w.heap.push _)[_]? = _;simp
theorem alloc_old (w:World) (o:Obj) {c:Nat} (h:c < w.heap.size):(w.alloc o).heap[c]? = w.heap[c]?:=by show (w.heap.push _)[_]? = _;simp [Array.getElem?_push,Nat.ne_of_lt h]
theorem ho_took (hn:z.n ≤ 100000) (hb:b < z.n) (hi:i < z.n) (h1:xv.oneCell'=true) (h2:y.oneCell'=true)
  (hkb:∀ c,K c → c < w.heap.size) (hK:K bo) (hf:¬ Fx bo) (hs:¬ Sh bo) (hfk:∀ c,Fx c → K c) (hsk:∀ c,Sh c → K c) (hg:w.heap[bo]? = some (.cells cur 67 (0,0))) (hsz:cur.size=z.n * 3)
  (hk:∀ x' K' w',(∀ c,K c → K' c) → (∀ c,K' c → K c ∨ w.heap.size ≤ c) → (∀ c,K' c → c < w'.heap.size) → Sees (fun c=>K c ∧ c ≠ bo) w w' → w'.heap[bo]? = some (.cells (put3g cur (i * 3) (.int .i64 i) xv y) 67 (0,0)) → Goes0 Tryd.prog Fx Sh Stop m K' (hoHead Tryd.f25 z (some ⟨bo,0,none⟩) (opOf z a) a (b+1) x' cs) w') :
  ∃ M,Goes0 Tryd.prog Fx Sh Stop M K (hoTold Tryd.f25 z (some ⟨bo,0,none⟩) a b { x with t24:=.tuple #[.int .i64 1,.bool true,.agg #[.int .i64 i,xv,y]] } cs) w:=by
 have hw:IntKind.i64.wrap ((b:Int)+1)=((b+1:Nat):Int):=by rw [IntWalk.i64_in] <;> omega
 refine ⟨m+60,?_⟩
 simp only [hoTold,hoHead,hoAt,hoT,hoSelOps,hoGot,hoIn,hoLB,hoRest,hoMid,bodyC,innerC,secondC,firstC,opsC,Tryd.f25,Option.getD_some] at hk ⊢
 refine Goes0.value (.int .i64 1) rfl rfl (by decide) (fun _=>by go_simp) (fun _=>by simp [go_sem]) ?_;try walk_nrm
 refine Goes0.value (.bool false) rfl rfl (by decide) (fun _=>by go_simp) (fun _=>by simp [go_sem]) ?_;try walk_nrm
 refine Goes0.value (.bool true) rfl rfl (by decide) (fun _=>by go_simp) (fun _=>by simp [go_sem]) ?_;try walk_nrm
 refine Goes0.c rfl (fun _=>stepG_region_end) ?_
 refine Goes0.c rfl (fun _=>stepG_block) ?_
 refine Goes0.c rfl (fun _=>stepG_cond (t:=false) rfl) ?_
 simp only [Bool.false_eq_true,if_false]
 refine Goes0.c rfl (fun _=>stepG_cond (t:=true) rfl) ?_
 simp only [if_true]
 refine Goes0.c rfl (fun _=>stepG_seq) ?_
 refine Goes0.c rfl (fun _=>stepG_region) ?_
 try walk_nrm
 refine Goes0.value (.agg #[.int .i64 i,xv,y]) rfl rfl (by decide) (fun _=>by go_simp) (fun _=>by simp [go_sem]) ?_;try walk_nrm
 refine Goes0.alloc (c:=#[.int .i64 0,.int .i64 0,.nilIface]) (t:=67) (fun b=>.pointer (some ⟨b,0,none⟩)) rfl rfl (by decide) (fun w1=>by go_simp) (fun w1 e he=>by simp [go_sem] at he) fun w1 hw1=>?_
 try walk_nrm
 have hlt:bo < w1.heap.size:=Nat.lt_of_lt_of_le (hkb _ hK) hw1.2
 have hnx:w1.heap.size ≠ bo:=by omega
 have hkb1:∀ c,K c ∨ c=w1.heap.size → c < (w1.alloc (.cells #[.int .i64 0,.int .i64 0,.nilIface] 67 (0,0))).heap.size:=fun c hc=>by
  rw [alloc_size]
  rcases hc with hc | hc
  ·
   have:=hkb c hc
   have:=hw1.2
   omega
  · omega
 have hgx:=alloc_at w1 (.cells #[.int .i64 0,.int .i64 0,.nilIface] 67 (0,0))
 have hgo:(w1.alloc (.cells #[.int .i64 0,.int .i64 0,.nilIface] 67 (0,0))).heap[bo]? = some (.cells cur 67 (0,0)):=by rw [alloc_old _ _ hlt,hw1.1 bo hK,hg]
 have hfx:¬ Fx w1.heap.size:=fun hc=>by have:=hkb _ (hfk _ hc);have:=hw1.2;omega
 have hsx:¬ Sh w1.heap.size:=fun hc=>by have:=hkb _ (hsk _ hc);have:=hw1.2;omega
 refine Goes0.store3 (cur:=#[.int .i64 0,.int .i64 0,.nilIface]) (t:=67) 67 w1.heap.size 0 (.int .i64 i) xv y rfl rfl (by decide) rfl rfl rfl Tryd.sizeOf67 rfl h1 h2 hkb1 (.inr rfl) hfx hsx hgx (by decide) ?_
 try walk_nrm
 obtain ⟨W,hW⟩:∃ W,W=(w1.alloc (.cells #[.int .i64 0,.int .i64 0,.nilIface] 67 (0,0))).setRow w1.heap.size (put3g #[.int .i64 0,.int .i64 0,.nilIface] 0 (.int .i64 i) xv y):=⟨_,rfl⟩
 rw [← hW]
 have gx:W.heap[w1.heap.size]? = some (.cells (put3g #[.int .i64 0,.int .i64 0,.nilIface] 0 (.int .i64 i) xv y) 67 (0,0)):=by rw [hW];exact setRow_heap _ _ _ _ _ _ hgx
 have go:W.heap[bo]? = some (.cells cur 67 (0,0)):=by rw [hW,setRow_ne _ (Ne.symm hnx)];exact hgo
 have gz:W.heap.size=w1.heap.size+1:=by rw [hW,setRow_size,alloc_size]
 have go2:W.os=w.os ∧ W.output=w.output:=by rw [hW];exact hw1.out
 have gk:∀ c,K c ∨ c=w1.heap.size → c < W.heap.size:=fun c hc=>by rw [gz,← alloc_size w1 (.cells #[.int .i64 0,.int .i64 0,.nilIface] 67 (0,0))];exact hkb1 c hc
 have gs:∀ c,K c → W.heap[c]? = w.heap[c]?:=fun c hc=>by
  have:=hkb c hc
  have:=hw1.2
  rw [hW,setRow_ne _ (by omega),alloc_old _ _ (by omega)]
  exact hw1.1 c hc
 clear hW hgx hgo hkb1
 have p3:=put3_at (cur:=#[.int .i64 0,.int .i64 0,.nilIface]) (o:=0) (x:=.int .i64 i) (y:=xv) (z:=y) (by decide)
 refine Goes0.c rfl (fun _=>stepG_region_end) ?_
 refine Goes0.c rfl (fun _=>stepG_seq) ?_
 refine Goes0.c rfl (fun _=>stepG_region) ?_
 try walk_nrm
 refine Goes0.value (.slice (some ⟨bo,0,none⟩) z.n z.n) rfl rfl (by decide) (fun _=>by go_simp) (fun _=>by simp [go_sem]) ?_;try walk_nrm
 refine Goes0.value (.pointer (some ⟨w1.heap.size,0,none⟩)) rfl rfl (by decide) (fun _=>by go_simp) (fun _=>by simp [go_sem]) ?_;try walk_nrm
 refine Goes0.load1 3 w1.heap.size 0 (.int .i64 i) rfl rfl (by decide) rfl rfl Tryd.isAgg3 gk (.inr rfl) hsx (by simp [World.cell?,gx,p3.1]) ?_;try walk_nrm
 refine Goes0.load3 67 w1.heap.size 0 (.int .i64 i) xv y rfl rfl (by decide) rfl rfl Tryd.isAgg67 Tryd.sizeOf67 gk (.inr rfl) hsx gx p3.1 p3.2.1 p3.2.2 ?_;try walk_nrm
 have d0:decide ((i:Int) < 0)=false:=decide_eq_false (by omega)
 have d1:decide ((i:Int) < (z.n:Int))=true:=decide_eq_true (by omega)
 refine Goes0.value (.pointer (some ⟨bo,i * 3,none⟩)) rfl rfl (by decide) (fun _=>by go_simp) (fun _=>by simp [go_sem, *]) ?_;try walk_nrm
 refine Goes0.store3 (cur:=cur) (t:=67) 67 bo (i * 3) (.int .i64 i) xv y rfl rfl (by decide) rfl rfl rfl Tryd.sizeOf67 rfl h1 h2 gk (.inl hK) hf hs go (by omega) ?_
 try walk_nrm
 refine Goes0.c rfl (fun _=>stepG_region_end) ?_
 refine Goes0.c rfl (fun _=>stepG_region) ?_
 try walk_nrm
 refine Goes0.value (.int .i64 b) rfl rfl (by decide) (fun _=>by go_simp) (fun _=>by simp [go_sem]) ?_;try walk_nrm
 refine Goes0.value (.int .i64 ((b+1:Nat):Int)) rfl rfl (by decide) (fun _=>by go_simp) (fun _=>by simp [go_sem, *]) ?_;try walk_nrm
 refine Goes0.value (.int .i64 ((b+1:Nat):Int)) rfl rfl (by decide) (fun _=>by go_simp) (fun _=>by simp [go_sem]) ?_;try walk_nrm
 refine Goes0.c rfl (fun _=>stepG_region_end) ?_
 refine Goes0.c rfl (fun _=>stepG_inBlock) ?_
 refine Goes0.c rfl (fun _=>stepG_inBlock) ?_
 refine Goes0.c rfl (fun _=>stepG_inLoop) ?_
 refine Goes0.mono (n:=m) (by omega) ?_
 refine hk { x with t11:=.pointer (some ⟨w1.heap.size,0,none⟩),t24:=.tuple #[.int .i64 1,.bool true,.agg #[.int .i64 i,xv,y]],t25:=.int .i64 1,t26:=.bool false,t27:=.bool true,t30:=.agg #[.int .i64 i,xv,y],t31:=.slice (some ⟨bo,0,none⟩) z.n z.n,t32:=.pointer (some ⟨w1.heap.size,0,none⟩),t33:=.int .i64 i,t34:=.agg #[.int .i64 i,xv,y],t35:=.pointer (some ⟨bo,i * 3,none⟩),t36:=.int .i64 b,t37:=.int .i64 ((b+1:Nat):Int) } _ _ (fun c hc=>.inl hc) (fun c hc=>?_) (fun c hc=>?_) ⟨fun c hc=>?_,?_,?_⟩ ?_
 ·
  rcases hc with hc | hc
  · exact .inl hc
  ·
   have:=hw1.2
   exact .inr (by omega)
 ·
  rw [setRow_size]
  exact gk c hc
 ·
  rw [setRow_ne _ hc.2]
  exact gs c hc.1
 ·
  rw [setRow_size,gz]
  have:=hw1.2
  omega
 · exact go2
 · exact setRow_heap _ _ _ _ _ _ go
end
end Go.Proofs.YtbokomeejmnnoaaDoor

set_option maxRecDepth 100000
set_option linter.unusedSimpArgs false
namespace Go.Proofs
theorem Tryd.infoMade:(Tryd.prog.info? 67).map (fun i=>(i.zero,i.size,i.bytes))=some (some (.agg #[.int .i64 0,.int .i64 0,.nilIface]),3,32):=by kernel_rfl
theorem Tryd.madesSlice:Tryd.prog.underlying 68=some (.slice 67):=by kernel_rfl
end Go.Proofs
namespace Go.Proofs.YtbokomeejmnnoaaDoor
open Go.Conc Go.RowKit Go.Conc.Lib Go.ConcR.Gen
open Go.ConcN (WgLive)
open Go.ConcR (KK WgAt stA smA rd wr mk)
theorem events_make {P:Program} (w:World) (t e:TypeId) (i:TypeInfo) (z:Value) (ht:P.underlying t=some (.slice e)) (hi:P.info? e=some i) (hz:i.zero=some z)
  (kl kc:IntKind) (l c:Int) (h0:0 ≤ l) (hlc:l ≤ c) (hbytes:(i.bytes:Int) * c ≤ 281474976710656) (h63:c ≤ 9223372036854775807) (hroom:¬ c.toNat * i.bytes > roomBytes) (es:Array Event) :
  (Instr.makeSlice t (.int kl l) (.int kc c)).events P w es=es:=by
 have wl:IntKind.i64.wrap l=l:=by rw [IntKind.wrap_i64];omega
 have wc:IntKind.i64.wrap c=c:=by rw [IntKind.wrap_i64];omega
 have n1:¬ c < 0:=by omega
 have n2:¬ (281474976710656 < (i.bytes:Int) * c):=by omega
 have n3:¬ l < 0:=by omega
 have n4:¬ c < l:=by omega
 by_cases hn:c.toNat * i.size=0
 · simp [Instr.makeSlice,run_underlying ht,underlying,asInt,asIntOf,typeInfo,hi,sizeOf,wl,wc,n1,n2,n3,n4,hn,newRow,askRoom,hroom,ht]
 · simp [Instr.makeSlice,run_underlying ht,underlying,asInt,asIntOf,typeInfo,hi,sizeOf,zeroValue,hz,wl,wc,n1,n2,n3,n4,hn,newRow,askRoom,hroom,ht]
def zeros3 (n:Nat):Array Value:=madeCells #[.int .i64 0,.int .i64 0,.nilIface] (n * 3)
theorem make_made (n:Nat) (hn:n ≤ 100000) (w:World):(Instr.makeSlice 68 (.int .i64 n) (.int .i64 n)).run Tryd.prog w=.ok (.slice (some ⟨w.heap.size,0,none⟩) n n) (w.alloc (.cells (zeros3 n) 67 (0,0))) ∧ (Instr.makeSlice 68 (.int .i64 n) (.int .i64 n)).events Tryd.prog w #[] = #[]:=by
 obtain ⟨i0,hi,hz0,hz1,hz2⟩:=info_parts Tryd.infoMade
 constructor
 ·
  have:=run_make (P:=Tryd.prog) w 68 67 i0 _ Tryd.madesSlice hi hz0 .i64 .i64 n n (by omega) (by omega) (by rw [hz2];omega) (by omega)
  simpa [hz1,Value.cells,zeros3] using this
 · exact events_make w 68 67 i0 _ Tryd.madesSlice hi hz0 .i64 .i64 n n (by omega) (by omega) (by rw [hz2];omega) (by omega) (by rw [hz2];unfold roomBytes;omega) #[]
def oeOps8 (f:Func):Array Oper:=opsC (firstC (oeRest f))
def oeAft (f:Func):Code:=secondC (oeRest f)
def oeT8 (z:OeV) (x:OeX) (t11 t25 t26:Value):Array Value:=#[.int .i64 z.n,.int .i64 z.wks,z.an,undef,undef,.pointer (some ⟨z.v.ba,0,none⟩),.slice none 0 0,.nilIface,.pointer (some ⟨z.v.bn,0,none⟩),.pointer (some ⟨z.v.br,0,none⟩),.pointer (some ⟨z.v.wg,0,none⟩),t11,.chan (some z.v.cn),.chan (some z.v.cr),.int .i64 z.wks,.int .i64 z.n,.int .i64 z.m,.int .i64 z.m,x.t18,x.t19,x.t20,x.t21,.int .i64 z.n,.chan (some z.v.cn),.chan (some z.v.cr),t25,t26,undef,undef,undef,undef]
def oeCall (f:Func) (z:OeV) (x:OeX):Frame:=(base 14).at ⟨oeT8 z x undef undef undef,[]⟩ [.inRegion (oeOps8 f) [3,4],.code (oeAft f)]
section
variable {z:OeV} {bo:Nat} {a b i m:Nat} {x:OeX} {y:HoX} {cs:List Frame} {K Fx Sh:Nat → Prop} {Stop:(Nat → Prop) → Goroutine → World → Prop} {w:World}
theorem ho_begin (hn:z.n ≤ 100000) (hkb:∀ c,K c → c < w.heap.size) (kn:K z.v.bn ∧ ¬ Sh z.v.bn) (kr:K z.v.br ∧ ¬ Sh z.v.br) (cn:w.cell? ⟨z.v.bn,0,none⟩=some (.chan (some z.v.cn))) (cr:w.cell? ⟨z.v.br,0,none⟩=some (.chan (some z.v.cr)))
  (hk:∀ x' y' w1,Sees K w w1 → Goes0 Tryd.prog Fx Sh Stop m (fun b=>K b ∨ b=w1.heap.size) (hoHead Tryd.f25 z (some ⟨w1.heap.size,0,none⟩) (.chan (some z.v.cn)) 0 0 y' (oeCall Tryd.f14 z x' :: cs)) (w1.alloc (.cells (zeros3 z.n) 67 (0,0)))) :
  Goes0 Tryd.prog Fx Sh Stop (m+60) K (oeHead Tryd.f14 z z.m x cs) w:=by
 have d1:decide ((z.m:Int) < (z.m:Int))=false:=decide_eq_false (by omega)
 simp only [hoHead,hoAt,hoT,hoSelOps,hoGot,hoIn,hoLB,hoRest,hoMid,oeCall,oeHead,oeT,oeT8,oeOps8,oeAft,oeLB,oeRest,oeMid,bodyC,innerC,secondC,firstC,opsC,Tryd.f25,Tryd.f14,Option.getD_some] at hk ⊢
 refine Goes0.c rfl (fun _=>stepG_seq) ?_
 refine Goes0.c rfl (fun _=>stepG_region) ?_
 try walk_nrm
 refine Goes0.value (.bool false) rfl rfl (by decide) (fun _=>by go_simp) (fun _=>by simp [go_sem, *]) ?_;try walk_nrm
 refine Goes0.c rfl (fun _=>stepG_region_end) ?_
 refine Goes0.c rfl (fun _=>stepG_seq) ?_
 refine Goes0.c rfl (fun _=>stepG_cond (t:=false) rfl) ?_
 simp only [Bool.false_eq_true,if_false]
 refine Goes0.c rfl (fun _=>stepG_exit rfl) ?_
 refine Goes0.c rfl (fun _=>stepG_seq) ?_
 refine Goes0.c rfl (fun _=>stepG_region) ?_
 try walk_nrm
 refine Goes0.value (.int .i64 z.n) rfl rfl (by decide) (fun _=>by go_simp) (fun _=>by simp [go_sem]) ?_;try walk_nrm
 refine Goes0.load1 53 z.v.bn 0 (.chan (some z.v.cn)) rfl rfl (by decide) rfl rfl Tryd.isAgg53 hkb kn.1 kn.2 cn ?_;try walk_nrm
 refine Goes0.load1 54 z.v.br 0 (.chan (some z.v.cr)) rfl rfl (by decide) rfl rfl Tryd.isAgg54 hkb kr.1 kr.2 cr ?_;try walk_nrm
 refine Goes0.call rfl rfl (by decide) rfl Tryd.func25 (by decide) rfl ?_
 walk_nrmf Tryd.ntmps25
 refine Goes0.c rfl (fun _=>stepG_seq) ?_
 refine Goes0.c rfl (fun _=>stepG_region) ?_
 try walk_nrm
 refine Goes0.value (.slice none 0 0) rfl rfl (by decide) (fun _=>by go_simp) (fun _=>by simp [go_sem]) ?_;try walk_nrm
 refine Goes0.c rfl (fun _=>stepG_region_end) ?_
 refine Goes0.c rfl (fun _=>stepG_seq) ?_
 refine Goes0.c rfl (fun _=>stepG_region) ?_
 try walk_nrm
 refine Goes0.value (.int .i64 z.n) rfl rfl (by decide) (fun _=>by go_simp) (fun _=>by simp [go_sem]) ?_;try walk_nrm
 refine Goes0.alloc (c:=zeros3 z.n) (t:=67) (fun b=>.slice (some ⟨b,0,none⟩) z.n z.n) rfl rfl (by decide) (fun w1=>?_) (fun w1 e he=>?_) fun w1 hw1=>?_
 ·
  have:=(make_made z.n hn w1).1
  simp [execOp,Act.eval,this]
 ·
  have h1:=(make_made z.n hn w1).1
  have h2:=(make_made z.n hn w1).2
  simp [execOp,Act.eval,h1,h2] at he
 try walk_nrm
 refine Goes0.value (.slice (some ⟨w1.heap.size,0,none⟩) z.n z.n) rfl rfl (by decide) (fun _=>by go_simp) (fun _=>by simp [go_sem]) ?_;try walk_nrm
 refine Goes0.c rfl (fun _=>stepG_region_end) ?_
 refine Goes0.c rfl (fun _=>stepG_seq) ?_
 refine Goes0.c rfl (fun _=>stepG_region) ?_
 try walk_nrm
 refine Goes0.value (.chan (some z.v.cn)) rfl rfl (by decide) (fun _=>by go_simp) (fun _=>by simp [go_sem]) ?_;try walk_nrm
 refine Goes0.value (.chan (some z.v.cn)) rfl rfl (by decide) (fun _=>by go_simp) (fun _=>by simp [go_sem]) ?_;try walk_nrm
 refine Goes0.c rfl (fun _=>stepG_region_end) ?_
 refine Goes0.c rfl (fun _=>stepG_seq) ?_
 refine Goes0.c rfl (fun _=>stepG_seq) ?_
 refine Goes0.c rfl (fun _=>stepG_region) ?_
 try walk_nrm
 refine Goes0.value (.int .i64 0) rfl rfl (by decide) (fun _=>by go_simp) (fun _=>by simp [go_sem]) ?_;try walk_nrm
 refine Goes0.value (.int .i64 0) rfl rfl (by decide) (fun _=>by go_simp) (fun _=>by simp [go_sem]) ?_;try walk_nrm
 refine Goes0.c rfl (fun _=>stepG_region_end) ?_
 refine Goes0.c rfl (fun _=>stepG_block) ?_
 refine Goes0.c rfl (fun _=>stepG_loop) ?_
 refine Goes0.mono (n:=m) (by omega) ?_
 exact hk { x with t18:=.bool false } ⟨undef,undef,undef,undef,undef,undef,undef,undef,undef,undef,undef,undef,undef,undef,undef,undef,undef,undef,undef,undef,undef,undef,undef,undef⟩ w1 hw1
def hoOps15 (f:Func):Array Oper:=opsC (firstC (hoRest f))
def hoEnd (f:Func):Code:=secondC (hoRest f)
def hoTs (z:OeV) (ob:Option Addr) (op8:Value) (a b:Nat) (x:HoX):Array Value:=#[.int .i64 z.n,.chan (some z.v.cn),.chan (some z.v.cr),undef,undef,undef,.slice none 0 0,.slice ob z.n z.n,op8,.int .i64 a,.int .i64 b,x.t11,.int .i64 z.n,.slice ob z.n z.n,.chan (some z.v.cn),x.t15,x.t16,x.t17,x.t18,x.t19,x.t20,x.t21,x.t22,x.t23,x.t24,x.t25,x.t26,x.t27,x.t28,x.t29,x.t30,x.t31,x.t32,x.t33,x.t34,x.t35,x.t36,x.t37,.chan (some z.v.cn),undef]
def hoShut (f:Func) (z:OeV) (ob:Option Addr) (op8:Value) (a b:Nat) (x:HoX) (cs:List Frame):Goroutine:=hoAt (hoTs z ob op8 a b x) [.inRegion (hoOps15 f) [1],.code (hoEnd f)] cs
theorem ho_over {ob:Option Addr} {op8:Value} {y:HoX} (h:∀ y',Goes0 Tryd.prog Fx Sh Stop m K (hoShut Tryd.f25 z ob op8 a z.n y' cs) w):Goes0 Tryd.prog Fx Sh Stop (m+60) K (hoHead Tryd.f25 z ob op8 a z.n y cs) w:=by
 have d1:decide ((z.n:Int) < (z.n:Int))=false:=decide_eq_false (by omega)
 have h':=h { y with t15:=.int .i64 z.n,t16:=.int .i64 z.n,t17:=.bool false }
 revert h'
 simp only [hoHead,hoShut,hoTs,hoOps15,hoEnd,hoAt,hoT,hoLB,hoRest,hoMid,bodyC,innerC,secondC,firstC,opsC,Tryd.f25,Option.getD_some]
 intro h'
 refine Goes0.c rfl (fun _=>stepG_seq) ?_
 refine Goes0.c rfl (fun _=>stepG_seq) ?_
 refine Goes0.c rfl (fun _=>stepG_region) ?_
 try walk_nrm
 refine Goes0.value (.int .i64 z.n) rfl rfl (by decide) (fun _=>by go_simp) (fun _=>by simp [go_sem]) ?_;try walk_nrm
 refine Goes0.value (.int .i64 z.n) rfl rfl (by decide) (fun _=>by go_simp) (fun _=>by simp [go_sem]) ?_;try walk_nrm
 refine Goes0.value (.bool false) rfl rfl (by decide) (fun _=>by go_simp) (fun _=>by simp [go_sem, *]) ?_;try walk_nrm
 refine Goes0.c rfl (fun _=>stepG_region_end) ?_
 refine Goes0.c rfl (fun _=>stepG_cond (t:=false) rfl) ?_
 simp only [Bool.false_eq_true,if_false]
 refine Goes0.c rfl (fun _=>stepG_exit rfl) ?_
 refine Goes0.c rfl (fun _=>stepG_seq) ?_
 refine Goes0.c rfl (fun _=>stepG_region) ?_
 try walk_nrm
 refine Goes0.value (.chan (some z.v.cn)) rfl rfl (by decide) (fun _=>by go_simp) (fun _=>by simp [go_sem]) ?_;try walk_nrm
 exact Goes0.mono (n:=m) (by omega) h'
def hoClosed (f:Func) (z:OeV) (ob:Option Addr) (op8:Value) (a b:Nat) (x:HoX) (cs:List Frame):Goroutine:=hoAt (hoTs z ob op8 a b x) [.inRegion (hoOps15 f) [],.code (hoEnd f)] cs
theorem ho_close {ob:Option Addr} {op8:Value} {y:HoX} {s:Nat} {tm:Bool} {w:World} (hc:w.heap[z.v.cn]? = some (.chan 0 #[] false s s tm)) :
  ∃ es,(∀ e ∈ es,∃ wr,e=⟨.obj z.v.cn,wr,true⟩) ∧ stepG Tryd.prog true (hoShut Tryd.f25 z ob op8 a b y cs) w=.go (hoClosed Tryd.f25 z ob op8 a b y cs) (w.setChan z.v.cn 0 #[] true s s tm) es:=by
 refine ⟨closeEvents z.v.cn,fun e he=>?_,?_⟩
 ·
  simp only [closeEvents,List.mem_toArray,List.mem_cons,List.not_mem_nil,or_false] at he
  rcases he with rfl | rfl <;> exact ⟨_,rfl⟩
 ·
  have key:=stepG_close (P:=Tryd.prog) (main:=true) (b:=base 25) (a:=⟨hoTs z ob op8 a b y,[]⟩) (kk:=[.code (hoEnd Tryd.f25)]) (cs:=cs) (w:=w) (ops:=hoOps15 Tryd.f25) (i:=1) (rest:=[]) (x:=.tmp 38)  rfl rfl (by decide) rfl (c:=z.v.cn) rfl hc (by
   show (Tryd.prog.funcs[25]?).any Func.norace=false
   rw [Tryd.func25]
   rfl)
  exact key
theorem ho_wakes {ob:Option Addr} {op8:Value} {y:HoX}:mayWake Tryd.prog (hoShut Tryd.f25 z ob op8 a b y cs)=true:=rfl
def oeOps9 (f:Func):Array Oper:=opsC (firstC (oeAft f))
def oeEnd (f:Func):Code:=secondC (oeAft f)
def oeWaitA (z:OeV) (ob:Option Addr) (x:OeX):Act:=⟨oeT8 z x (.slice ob z.n z.n) (.slice ob z.n z.n) undef,[]⟩
def oeWait (f:Func) (z:OeV) (ob:Option Addr) (x:OeX):Frame:=(base 14).at (oeWaitA z ob x) (.inRegion (oeOps9 f) (0 :: []) :: [.code (oeEnd f)])
def oeBack (f:Func) (z:OeV) (ob:Option Addr) (x:OeX) (cs:List Frame):Goroutine:=G ((base 14).at ⟨oeT8 z x (.slice ob z.n z.n) (.slice ob z.n z.n) (.tuple #[]),[]⟩ (.inRegion (oeOps9 f) [] :: [.code (oeEnd f)])) cs
theorem ho_out {ob:Option Addr} {op8:Value} {y:HoX} :
  WTo Tryd.prog true (WgLive Tryd.link.tWg z.v.wg) (EvS z.v.wg) (AtKd0 Tryd.prog Tryd.link.tWg z.v.wg (AnchW Tryd.link z.v.wg (oeWait Tryd.f14 z ob x) cs)) (hoClosed Tryd.f25 z ob op8 a b y (oeCall Tryd.f14 z x :: cs)):=by
 have hW:=@wait_start Tryd.prog Tryd.link z.v.wg Tryd.wgLib (oeWait Tryd.f14 z ob x) cs
 simp only [body_wait,waitFn,Option.getD_some] at hW
 revert hW
 simp only [hoClosed,hoTs,hoOps15,hoEnd,hoAt,hoRest,hoMid,oeCall,oeT8,oeWait,oeWaitA,oeOps8,oeOps9,oeEnd,oeAft,oeRest,oeMid,bodyC,innerC,secondC,firstC,opsC,Tryd.f25,Tryd.f14,Option.getD_some]
 intro hW
 refine WTo.c rfl (fun _=>stepG_region_end) ?_
 refine WTo.c rfl (fun _=>stepG_seq) ?_
 refine WTo.c rfl (fun _=>stepG_region) ?_
 try walk_nrm
 refine WTo.value (.slice ob z.n z.n) rfl rfl (by decide) (fun _=>by go_simp) (fun _=>by simp [go_sem]) ?_;try walk_nrm
 refine WTo.value (.slice ob z.n z.n) rfl rfl (by decide) (fun _=>by go_simp) (fun _=>by simp [go_sem]) ?_;try walk_nrm
 refine WTo.c rfl (fun _=>stepG_region_end) ?_
 refine WTo.c rfl (fun _=>stepG_ret') ?_
 refine WTo.leave1 (t:=6) rfl rfl Tryd.func25 rfl ?_
 walk_nrm
 refine WTo.value (.slice ob z.n z.n) rfl rfl (by decide) (fun _=>by go_simp) (fun _=>by simp [go_sem]) ?_;try walk_nrm
 refine WTo.c rfl (fun _=>stepG_region_end) ?_
 refine WTo.c rfl (fun _=>stepG_seq) ?_
 refine WTo.c rfl (fun _=>stepG_region) ?_
 try walk_nrm
 refine WTo.call rfl rfl (by decide) rfl Tryd.wgLib.f_wait (nm_wait Tryd.link) rfl ?_
 walk_nrmf waitFn
 exact hW
end
end Go.Proofs.YtbokomeejmnnoaaDoor

set_option maxRecDepth 100000
set_option linter.unusedSimpArgs false
namespace Go.Proofs.YtbokomeejmnnoaaDoor
open Go.Conc Go.RowKit Go.Conc.Lib Go.ConcR.Gen
open Go.ConcN (WgLive upd upd_same upd_ne)
open Go.ConcR (KK WgAt stA smA rd wr mk)
theorem Walk.mono {P:Program} {main:Bool} {F F':World → Prop} {Ev Ev':Event → Prop} (hF:∀ w,F' w → F w) (hE:∀ e,Ev e → Ev' e):∀ {n:Nat} {g g':Goroutine},Walk P main F Ev n g g' → Walk P main F' Ev' n g g'
 | 0,_,_,h=>h
 | _+1,_,_,⟨hs,x,es,he,hst,h⟩=>⟨hs,x,es,fun e hx=>hE e (he e hx),fun w hw=>hst w (hF w hw),h.mono hF hE⟩
theorem WTo.mono {P:Program} {main:Bool} {F F':World → Prop} {Ev Ev':Event → Prop} {K:Goroutine → Prop} (hF:∀ w,F' w → F w) (hE:∀ e,Ev e → Ev' e) {g:Goroutine}:WTo P main F Ev K g → WTo P main F' Ev' K g
 | ⟨n,g',h1,h2⟩=>⟨n,g',h1.mono hF hE,h2⟩
/-! ### what a call wants of the world,later on -/
section
variable {R:Nat → Prop} {T:Nat → Nat} {ad:Nat → Addr} {bl bp B off n cap i:Nat} {a:Option Addr} {capi:Nat} {ls:List (Int × Int)} {per:Int} {w w1:World}
theorem AnswerCall.rB (h:AnswerCall R T ad bl bp B off n cap i a capi ls per w):R B:=by
 obtain ⟨c,t,fz,h1,h3⟩:=h.shared bl h.sl
 have hb:=h.box
 simp only [World.cell?,h1] at hb
 have:=h3 0 _ h.tl (by simpa using hb)
 obtain ⟨x,hx,hy⟩:=this.out
 cases hx
 exact hy.1.2
theorem AnswerCall.rA (h:AnswerCall R T ad bl bp B off n cap i a capi ls per w) {b:Addr} (ha:a=some b):R b.block:=by
 subst ha
 obtain ⟨c,t,fz,h1,h3⟩:=h.shared B h.rB
 have hb:=h.item
 simp only [World.cell?,h1] at hb
 have:=h3 (off+i) _ h.tb (by simpa using hb)
 obtain ⟨x,hx,hy⟩:=this.out
 cases hx
 exact hy.1.2
theorem Errs9.sees {K:Nat → Prop} (h:Errs9 w ad) (hs:Sees K w w1) (hg:∀ b,b < Tryd.prog.globals.size → K b):Errs9 w1 ad:=by
 have hc:∀ g,g < Tryd.prog.globals.size → w1.cell? ⟨g,0,none⟩=w.cell? ⟨g,0,none⟩:=fun g hgl=>hs.cell (hg g hgl)
 exact ⟨(hc _ (by decide)).trans h.typ,(hc _ (by decide)).trans h.c0,(hc _ (by decide)).trans h.c1,(hc _ (by decide)).trans h.c2,(hc _ (by decide)).trans h.c3,(hc _ (by decide)).trans h.c4,(hc _ (by decide)).trans h.c5,(hc _ (by decide)).trans h.c6,(hc _ (by decide)).trans h.c7,(hc _ (by decide)).trans h.c8⟩
theorem AnswerCall.sees {K:Nat → Prop} (h:AnswerCall R T ad bl bp B off n cap i a capi ls per w) (hs:Sees K w w1) (hR:∀ b,R b → K b) (hg:∀ b,b < Tryd.prog.globals.size → K b):AnswerCall R T ad bl bp B off n cap i a capi ls per w1:=by
 have hc:∀ (b o:Nat),R b → w1.cell? ⟨b,o,none⟩=w.cell? ⟨b,o,none⟩:=fun b o hb=>hs.cell (hR b hb)
 refine ⟨fun x hx=>?_,h.vars,h.sl,h.sp,h.errs.sees hs hg,(hc _ _ h.sl).trans h.box,(hc _ _ h.sp).trans h.pbox,h.num,(hc _ _ h.rB).trans h.item,?_,h.cap1,h.cap2,h.link,Nat.le_trans h.glob hs.2,h.tg,h.tl,h.tp,h.tb,h.ta⟩
 ·
  obtain ⟨c,t,fz,h1,h2⟩:=h.shared x hx
  exact ⟨c,t,fz,(hs.1 x (hR x hx)).trans h1,h2⟩
 ·
  rcases h.lies with h1 | ⟨b,o,h1,h2,h3⟩
  · exact .inl h1
  ·
   have hb:R b:=h.rA h1
   exact .inr ⟨b,o,h1,Nat.lt_of_lt_of_le h2 hs.2,fun k x y hk=>by rw [hc _ _ hb,hc _ _ hb];exact h3 k x y hk⟩
end
/-! ### where the pool begins -/
def OeS (H:Nat → Prop) (v:WkV) (w:World) (b:Nat):Prop:=b < w.heap.size ∧ ¬ H b ∧ b ≠ v.cn ∧ b ≠ v.cr
structure OeL where
 (B off cap:Nat)
 a:Nat → Option Addr
 capi:Nat → Nat
 ls:Nat → List (Int × Int)
structure OeOk (H R:Nat → Prop) (T:Nat → Nat) (z:OeV) (l:OeL) (ad:Nat → Addr) (per:Int) (w:World):Prop where
 n100:z.n ≤ 100
 m16:z.m ≤ 16
 pos:0 < z.n → 0 < z.m
 wg:z.v.wg=w.heap.size
 call:∀ i,i < z.n → AnswerCall R T ad z.v.bl z.v.bp l.B l.off z.n l.cap i (l.a i) (l.capi i) (l.ls i) per w
 errs:Errs9 w ad
 rs:∀ b,R b → OeS H z.v w b
 globs:∀ b,b < Tryd.prog.globals.size → OeS H z.v w b
 f:WkF z.v w
 vn:OeS H z.v w z.v.bn
 va:OeS H z.v w z.v.ba
 vr:OeS H z.v w z.v.br
 ne:z.v.cn ≠ z.v.cr
 chn:∃ s tm,w.heap[z.v.cn]? = some (.chan 0 #[] false s s tm)
 chr:∃ s tm,w.heap[z.v.cr]? = some (.chan 0 #[] false s s tm)
 hid:HidOk H w
 hc:¬ H z.v.cn ∧ ¬ H z.v.cr
def oeVal (i:Nat):Value → Value
 | .tuple a=>.agg #[.int .i64 i,a.getD 0 undef,a.getD 1 undef]
 | _=>undef
structure OutRow (H:Nat → Prop) (z:OeV) (w0:World) (dn:Nat → Option Value) (Fx K:Nat → Prop) (bo:Nat) (cur:Array Value) (w:World):Prop where
 k:K bo
 fx:¬ Fx bo
 big:w0.heap.size ≤ bo
 row:w.heap[bo]? = some (.cells cur 67 (0,0))
 size:cur.size=z.n * 3
 vals:∀ i v,dn i=some v → i < z.n → ∃ x y,v=.tuple #[x,y] ∧ cur[i * 3]? = some (.int .i64 i) ∧ cur[i * 3+1]? = some x ∧ cur[i * 3+2]? = some y
 sh:∀ b,H b ∨ b=z.v.wg → K b
 hid:∀ b,H b → w.heap[b]? = w0.heap[b]?
 wg:WgAt 64 z.v.wg w ((z.m:Int) * KK) 0
def oeSelP (fo fh:Func) (H:Nat → Prop) (z:OeV) (cs:List Frame) (w0:World) (a b:Nat) (dn:Nat → Option Value) (Fx K:Nat → Prop) (g:Goroutine) (w:World):Prop:=
 a ≤ z.n ∧ ∃ bo x y cur,g=hoSel fh z (some ⟨bo,0,none⟩) a b y (oeCall fo z x :: cs) ∧ OutRow H z w0 dn Fx K bo cur w
def oeShutP (fo fh:Func) (H:Nat → Prop) (z:OeV) (cs:List Frame) (w0:World) (dn:Nat → Option Value) (Fx K:Nat → Prop) (g:Goroutine) (w:World):Prop:=
 ∃ bo a op8 x y cur,g=hoShut fh z (some ⟨bo,0,none⟩) op8 a z.n y (oeCall fo z x :: cs) ∧ OutRow H z w0 dn Fx K bo cur w
def oePool (P:Program) (fw fo fh:Func) (H R:Nat → Prop) (T:Nat → Nat) (z:OeV) (l:OeL) (ad:Nat → Addr) (per:Int) (cs:List Frame) (w w0:World) (base top:Nat):Pool P where
 cn:=z.v.cn
 cr:=z.v.cr
 zn:=.int .i64 0
 zr:=undef
 z0:=.int .i64 0
 z1:=z67
 n:=z.n
 base:=base
 top:=top
 S:=OeS H z.v w
 R:=R
 T:=T
 Sh:=fun b=>H b ∨ b=z.v.wg
 wg:=z.v.wg
 f:=15
 args:=fun i=>answerArgs z.v.bl z.v.bp i
 Fb:=answerFns
 Gb:=delayVars
 Post:=fun i=>DelayEnd per (l.ls i) ad
 val:=oeVal
 Recv:=fun g=>∃ t,g=wkRecv fw P z.v t
 Caller:=fun i c=>∃ t,c=wkCaller fw z.v t i
 bot:=[wkBot P]
 Send:=fun x g=>∃ t,g=wkSend fw P z.v t x
 w0:=w0
 Sel:=oeSelP fo fh H z cs w0
 Shut:=oeShutP fo fh H z cs w0
end Go.Proofs.YtbokomeejmnnoaaDoor
