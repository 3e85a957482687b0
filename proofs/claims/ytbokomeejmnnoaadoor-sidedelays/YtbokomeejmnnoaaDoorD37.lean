/- Own facts, put together: no statement of its own. -/
import Derived.Test.YtbokomeejmnnoaaDoorD36
import Derived.Test.YtbokomeejmnnoaaDoorD18
set_option maxHeartbeats 4000000

set_option maxRecDepth 100000
set_option linter.unusedSimpArgs false
namespace Go.Proofs.YtbokomeejmnnoaaDoor
open Go.Conc Go.RowKit Go.Conc.Lib Go.ConcR.Gen
open Go.ConcN (WgLive upd upd_same upd_ne)
open Go.ConcR (KK WgAt stA smA rd wr mk)
theorem OutRow.sees {H:Nat → Prop} {z:OeV} {w0:World} {dn:Nat → Option Value} {Fx K:Nat → Prop} {bo:Nat} {cur:Array Value} {w w1:World} (h:OutRow H z w0 dn Fx K bo cur w) (hs:Sees K w w1):OutRow H z w0 dn Fx K bo cur w1:=
 ⟨h.k,h.fx,h.big,(hs.1 bo h.k).trans h.row,h.size,h.vals,h.sh,fun b hb=>(hs.1 b (h.sh b (.inl hb))).trans (h.hid b hb),(hs.1 _ (h.sh _ (.inr rfl))).trans h.wg⟩
theorem DelayEnd.parts {F:Nat → Prop} {r:Ren} {per:Int} {ls:List (Int × Int)} {ad:Nat → Addr} {v0 v:Value} {w:World} (h:DelayEnd per ls ad (.returned v0) w) (hv:VR F r v0 v):∃ d y,v=.tuple #[.int .i64 d,y] ∧ (y=.nilIface ∨ ∃ t u,y=.iface t u):=by
 rcases h.2 with ⟨c,p,ty,u,-,e,-⟩ | ⟨-,-,e⟩ | ⟨-,-,d,e,-⟩
 ·
  cases e
  obtain ⟨a,b,rfl,ha,hb⟩:=hv.twoOf
  obtain rfl:a=.int .i64 0:=ha.out
  obtain ⟨u',rfl,-⟩:=hb.out
  exact ⟨_,_,rfl,.inr ⟨_,_,rfl⟩⟩
 ·
  cases e
  obtain ⟨a,b,rfl,ha,hb⟩:=hv.twoOf
  obtain rfl:a=.int .i64 0:=ha.out
  obtain ⟨u',rfl,-⟩:=hb.out
  exact ⟨_,_,rfl,.inr ⟨_,_,rfl⟩⟩
 ·
  cases e
  obtain ⟨a,b,rfl,ha,hb⟩:=hv.twoOf
  obtain rfl:a=.int .i64 d:=ha.out
  obtain rfl:b=.nilIface:=hb.out
  exact ⟨_,_,rfl,.inl rfl⟩
theorem one_iface {y:Value} (h:y=.nilIface ∨ ∃ t u,y=.iface t u):y.oneCell'=true:=by
 rcases h with rfl | ⟨t,u,rfl⟩ <;> rfl
section
variable {H R:Nat → Prop} {T:Nat → Nat} {z:OeV} {l:OeL} {ad:Nat → Addr} {per:Int} {cs:List Frame} {w w0:World} {base top:Nat}
structure NewWg (v:WkV) (w w0:World):Prop where
 size:w0.heap.size=w.heap.size+1
 old:∀ b,b < w.heap.size → w0.heap[b]? = w.heap[b]?
 at_:WgAt 64 v.wg w0 0 0
 out:w0.os=w.os ∧ w0.output=w.output
theorem ho_met0 {bo a b:Nat} {y:HoX} {x:OeX}:(hoSel Tryd.f25 z (some ⟨bo,0,none⟩) a b y (oeCall Tryd.f14 z x :: cs)).finishComm Tryd.prog (hoCases z a) .select (0:Nat) undef false =
  hoTold Tryd.f25 z (some ⟨bo,0,none⟩) a b { y with t21:=opOf z a,t22:=.int .i64 a,t23:=.chan (some z.v.cr),t24:=.tuple #[.int .i64 0,.bool false,z67] } (oeCall Tryd.f14 z x :: cs):=by
 have e:commResult (hoCases z a) .select (0:Nat) undef false=.tuple #[.int .i64 0,.bool false,z67]:=by simp [commResult,hoCases,rcase,goInt]
 unfold Goroutine.finishComm
 rw [e]
 rfl
theorem ho_met1 {bo a b:Nat} {y:HoX} {x:OeX} {v:Value}:(hoSel Tryd.f25 z (some ⟨bo,0,none⟩) a b y (oeCall Tryd.f14 z x :: cs)).finishComm Tryd.prog (hoCases z a) .select (1:Nat) v true =
  hoTold Tryd.f25 z (some ⟨bo,0,none⟩) a b { y with t21:=opOf z a,t22:=.int .i64 a,t23:=.chan (some z.v.cr),t24:=.tuple #[.int .i64 1,.bool true,v] } (oeCall Tryd.f14 z x :: cs):=by
 have e:commResult (hoCases z a) .select (1:Nat) v true=.tuple #[.int .i64 1,.bool true,v]:=by simp [commResult,hoCases,rcase,goInt]
 unfold Goroutine.finishComm
 rw [e]
 rfl
theorem oe_ok (h:OeOk H R T z l ad per w) (hw:NewWg z.v w w0) (hb:0 < base) (ht:base ≤ top):(oePool Tryd.prog Tryd.f23 Tryd.f14 Tryd.f25 H R T z l ad per cs w w0 base top).Ok:=by
 have hlow:∀ b,H b → b < w.heap.size:=fun b hb=>by
  obtain ⟨c,e,h1⟩:=h.hid b hb
  exact get_zero h1
 have hS:∀ w1,(oePool Tryd.prog Tryd.f23 Tryd.f14 Tryd.f25 H R T z l ad per cs w w0 base top).Still w1 → Sees (OeS H z.v w) w w1:=fun w1 h1=>⟨fun b hb=>(h1.1 b hb).trans (hw.old b hb.1),by have:w0.heap.size ≤ w1.heap.size:=h1.2;have:=hw.size;omega,h1.out.1.trans hw.out.1,h1.out.2.trans hw.out.2⟩
 have hcell:∀ w1,(oePool Tryd.prog Tryd.f23 Tryd.f14 Tryd.f25 H R T z l ad per cs w w0 base top).Still w1 → WkF z.v w1:=fun w1 h1=>
  ⟨((hS w1 h1).cell (a:=⟨z.v.bn,0,none⟩) h.vn).trans h.f.bn,((hS w1 h1).cell (a:=⟨z.v.ba,0,none⟩) h.va).trans h.f.ba,((hS w1 h1).cell (a:=⟨z.v.br,0,none⟩) h.vr).trans h.f.br⟩
 have hE:∀ e,WkE z.v e → (oePool Tryd.prog Tryd.f23 Tryd.f14 Tryd.f25 H R T z l ad per cs w w0 base top).Ev e:=by
  rintro e ⟨b,hb,rfl⟩
  refine ⟨⟨b,0,none⟩,rfl,?_⟩
  rcases hb with rfl | rfl | rfl
  · exact h.vn
  · exact h.va
  · exact h.vr
 have hcall:∀ i w1,i < z.n → (oePool Tryd.prog Tryd.f23 Tryd.f14 Tryd.f25 H R T z l ad per cs w w0 base top).Still w1 → AnswerCall R T ad z.v.bl z.v.bp l.B l.off z.n l.cap i (l.a i) (l.capi i) (l.ls i) per w1:=fun i w1 hi h1=>(h.call i hi).sees (hS w1 h1) h.rs h.globs
 obtain ⟨s1,tm1,hcn⟩:=h.chn
 obtain ⟨s2,tm2,hcr⟩:=h.chr
 have lcn:=get_zero hcn
 have lcr:=get_zero hcr
 have ewg:=h.wg
 refine { ne:=h.ne,pos:=hb,top:=ht,slow:=fun b hb=>?_,rs:=h.rs,shlow:=fun b hb=>?_,parted:=fun b h1 h2=>?_,shwg:=.inr rfl,clow:=?_,cw:=?_,fns:=answer_fns,glob:=?_,begins:=fun i w1 bs hi h1=>(hcall i w1 hi h1).begin bs,ends:=fun i w1 hi h1=>answer_ends (hcall i w1 hi h1),recv:=?_,got:=?_,made:=?_,send:=?_,sent:=?_,sel:=?_,shut:=?_,sees:=?_,more:=?_,handed:=?_,took:=?_ }
 ·
  have hb:OeS H z.v w b:=hb
  have:=hb.1
  have:=hw.size
  show b < w0.heap.size
  omega
 ·
  have:=hw.size
  show b < w0.heap.size
  rcases hb with hb | rfl
  ·
   have:=hlow b hb
   omega
  · omega
 ·
  have h1:OeS H z.v w b:=h1
  rcases h2 with h2 | rfl
  · exact h1.2.1 h2
  ·
   have:=h1.1
   omega
 ·
  have:=hw.size
  exact ⟨show z.v.cn < w0.heap.size by omega,show z.v.cr < w0.heap.size by omega⟩
 · exact ⟨show z.v.cn ≠ z.v.wg by omega,show z.v.cr ≠ z.v.wg by omega⟩
 ·
  have h1:Tryd.prog.globals.size ≤ w.heap.size:=Nat.le_of_not_lt fun hh=>by
   have:=(h.globs w.heap.size hh).1
   omega
  have:=hw.size
  show _ ≤ w0.heap.size
  omega
 ·
  rintro g ⟨t,rfl⟩
  exact ⟨rfl,wk_asks⟩
 ·
  rintro g i ⟨t,rfl⟩ hi
  obtain ⟨t',hk⟩:=wk_calls (v:=z.v) (t:=t) i
  refine ⟨15,wkCaller Tryd.f23 z.v t' i,⟨t',rfl⟩,?_⟩
  have e:(wkRecv Tryd.f23 Tryd.prog z.v t).finishComm Tryd.prog #[rcase z.v.cn (.int .i64 0)] (.recv true) 0 (.int .i64 i) true=wkGot Tryd.f23 Tryd.prog z.v t (.int .i64 i) true:=wk_takes _ rfl
  show Walk Tryd.prog false _ _ 16 ((wkRecv Tryd.f23 Tryd.prog z.v t).finishComm Tryd.prog #[rcase z.v.cn (.int .i64 0)] (.recv true) 0 (.int .i64 i) true) _
  rw [e]
  exact hk.mono hcell hE
 ·
  rintro i c v ⟨t,rfl⟩ hi ⟨v0,w1,r,h1,h2⟩
  obtain ⟨d,y,rfl,hy⟩:=DelayEnd.parts h1 h2
  obtain ⟨t',hk⟩:=wk_sends (v:=z.v) (t:=t) (i:=i) (d:=d) hy
  exact ⟨12,_,by omega,hk.mono hcell hE,t',rfl⟩
 ·
  rintro x g ⟨t,rfl⟩
  exact ⟨rfl,wk_offers⟩
 ·
  rintro x g ⟨t,rfl⟩
  obtain ⟨t',e⟩:=wk_gives (v:=z.v) (t:=t) (wkSend Tryd.f23 Tryd.prog z.v t x) (cs:=#[scase z.v.cr x undef]) (k:=0) (x:=x) (y:=undef) (ok:=false) rfl
  refine ⟨5,wkRecv Tryd.f23 Tryd.prog z.v t',?_,t',rfl⟩
  show Walk Tryd.prog false _ _ 5 ((wkSend Tryd.f23 Tryd.prog z.v t x).finishComm Tryd.prog #[scase z.v.cr x undef] .send 0 undef false) _
  rw [e]
  exact wk_back.mono hcell hE
 ·
  rintro a b dn Fx K g w1 ⟨ha,bo,x,y,cur,rfl,ho⟩
  exact ⟨rfl,ho_asks⟩
 ·
  rintro dn Fx K g w1 ⟨bo,a,op8,x,y,cur,rfl,ho⟩
  rfl
 ·
  rintro a b dn Fx K g w1 w2 ⟨ha,bo,x,y,cur,rfl,ho⟩ hs
  exact ⟨ha,bo,x,y,cur,rfl,ho.sees hs⟩
 ·
  rintro a b dn Fx K N g w1 ⟨ha,bo,x,y,cur,rfl,ho⟩ hN
  exact ⟨ha,bo,x,y,cur,rfl,.inl ho.k,fun hx=>hx.elim ho.fx fun hx=>hN bo hx ho.k,ho.big,ho.row,ho.size,ho.vals,fun b hb=>.inl (ho.sh b hb),ho.hid,ho.wg⟩
 ·
  rintro a b dn Fx K g w1 ⟨-,bo,x,y,cur,rfl,ho⟩ hk ha hb
  have ha:a < z.n:=ha
  have hb:b < z.n:=hb
  have hn:=h.n100
  refine ⟨0+60+60,?_⟩
  show Goes0 Tryd.prog Fx _ _ _ K ((hoSel Tryd.f25 z (some ⟨bo,0,none⟩) a b y (oeCall Tryd.f14 z x :: cs)).finishComm Tryd.prog (hoCases z a) .select (0:Nat) undef false) w1
  rw [ho_met0]
  refine ho_sent (x:={ y with t21:=opOf z a,t22:=.int .i64 a,t23:=.chan (some z.v.cr) }) ha (by omega) fun y'=>?_
  refine ho_round hb (by omega) (fun _=>by simp [opOf,ha]) fun y''=>?_
  refine Goes0.stop fun w2 h2=>?_
  exact Or.inl ⟨hb,by show a+1 ≤ z.n;omega,bo,x,y'',cur,rfl,ho.sees h2⟩
 ·
  rintro a b dn Fx K g w1 i v ⟨ha,bo,x,y,cur,rfl,ho⟩ hk hb hi ⟨v0,w2,r,h1,h2⟩
  have hb:b < z.n:=hb
  have hi:i < z.n:=hi
  have hn:=h.n100
  obtain ⟨d,e,rfl,he⟩:=DelayEnd.parts h1 h2
  show ∃ m,Goes0 Tryd.prog Fx _ _ m K ((hoSel Tryd.f25 z (some ⟨bo,0,none⟩) a b y (oeCall Tryd.f14 z x :: cs)).finishComm Tryd.prog (hoCases z a) .select (1:Nat) (.agg #[.int .i64 i,.int .i64 d,e]) true) w1
  rw [ho_met1]
  have hsz:=ho.size
  refine ho_took (m:=0+60) (x:={ y with t21:=opOf z a,t22:=.int .i64 a,t23:=.chan (some z.v.cr) }) (xv:=.int .i64 d) (y:=e) (cur:=cur) (by omega) hb hi rfl (one_iface he) hk.kl ho.k ho.fx (fun hx=>ho.fx (hk.sf bo (.inr hx))) hk.fk (fun c hc=>hk.fk c (hk.sf c (.inr hc))) ho.row ho.size fun y' K' w' g1 g2 g3 g4 g5=>?_
  have hout:OutRow H z w0 (upd dn i (some (.tuple #[.int .i64 d,e]))) Fx K' bo (put3g cur (i * 3) (.int .i64 i) (.int .i64 d) e) w':=by
   have p3:=put3_at (cur:=cur) (o:=i * 3) (x:=.int .i64 i) (y:=.int .i64 d) (z:=e) (by omega)
   have hne:∀ b,H b ∨ b=z.v.wg → b ≠ bo:=fun b hb eb=>by
    subst eb
    exact ho.fx (hk.sf b (.inr hb))
   refine ⟨g1 bo ho.k,ho.fx,ho.big,g5,by rw [put3g_size];exact ho.size,fun j v hv hj=>?_,fun b hb=>g1 b (ho.sh b hb),fun b hb=>(g4.1 b ⟨ho.sh b (.inl hb),hne b (.inl hb)⟩).trans (ho.hid b hb),(g4.1 _ ⟨ho.sh _ (.inr rfl),hne _ (.inr rfl)⟩).trans ho.wg⟩
   by_cases ej:j=i
   ·
    subst ej
    rw [upd_same] at hv
    cases hv
    exact ⟨_,_,rfl,p3.1,p3.2.1,p3.2.2⟩
   ·
    rw [upd_ne dn _ ej] at hv
    obtain ⟨x1,y1,e1,e0,e2,e3⟩:=ho.vals j v hv hj
    exact ⟨x1,y1,e1,by rw [put3_other (by omega)];exact e0,by rw [put3_other (by omega)];exact e2,by rw [put3_other (by omega)];exact e3⟩
  by_cases hbn:b+1 < z.n
  ·
   refine ho_round hbn ha (fun hlt=>by simp [opOf,hlt]) fun y''=>?_
   refine Goes0.stop fun w3 h3=>?_
   exact Or.inl ⟨hbn,ha,bo,x,y'',_,rfl,hout.sees h3⟩
  ·
   obtain ebn:b+1=z.n:=by omega
   rw [ebn]
   refine ho_over fun y''=>?_
   refine Goes0.stop fun w3 h3=>?_
   exact Or.inr ⟨rfl,bo,a,_,x,y'',_,rfl,hout.sees h3⟩
end
end Go.Proofs.YtbokomeejmnnoaaDoor

set_option maxRecDepth 100000
set_option linter.unusedSimpArgs false
namespace Go.Proofs.YtbokomeejmnnoaaDoor
open Go.Conc Go.RowKit Go.Conc.Lib Go.ConcR.Gen
open Go.ConcN (WgLive upd upd_same upd_ne)
open Go.ConcR (KK WgAt stA smA rd wr mk)
theorem Walk.then {P:Program} {main:Bool} {F:World → Prop} {Ev:Event → Prop} {K:Goroutine → Prop} {n:Nat} {g g':Goroutine} (h:Walk P main F Ev n g g'):WTo P main F Ev K g' → WTo P main F Ev K g
 | ⟨m,g'',h1,h2⟩=>⟨n+m,g'',h.app h1,h2⟩
theorem WTo.then {P:Program} {main:Bool} {F:World → Prop} {Ev:Event → Prop} {K K':Goroutine → Prop} {g:Goroutine} (h:WTo P main F Ev K g) (hk:∀ g',K g' → WTo P main F Ev K' g'):WTo P main F Ev K' g:=by
 obtain ⟨n,g',h1,h2⟩:=h
 exact h1.then (hk g' h2)
def oeOps2 (f:Func):Array Oper:=opsC (firstC (secondC (secondC (bodyC f))))
def oeT0 (z:OeV) (t10:Value):Array Value:=#[.int .i64 z.n,.int .i64 z.wks,z.an,undef,undef,.pointer (some ⟨z.v.ba,0,none⟩),.slice none 0 0,.nilIface,.pointer (some ⟨z.v.bn,0,none⟩),.pointer (some ⟨z.v.br,0,none⟩),t10,undef,.chan (some z.v.cn),.chan (some z.v.cr),undef,undef,undef,undef,undef,undef,undef,undef,undef,undef,undef,undef,undef,undef,undef,undef,undef]
def oeNew (f:Func) (z:OeV) (cs:List Frame):Goroutine:=G ((base 14).at ⟨oeT0 z undef,[]⟩ [.inRegion (oeOps2 f) [0],.code (oeMid f)]) cs
def oeBorn (f:Func) (z:OeV) (cs:List Frame):Goroutine:=G ((base 14).at ⟨oeT0 z (.pointer (some ⟨z.v.wg,0,none⟩)),[]⟩ [.inRegion (oeOps2 f) [],.code (oeMid f)]) cs
def wgNew:Obj:=.cells #[.int .u64 0,.int .u32 0] 64 (0,0)
section
variable {z:OeV} {cs:List Frame} {F:World → Prop} {Ev:Event → Prop} {K:Goroutine → Prop}
theorem oe_alloc {w:World} (hz:z.v.wg=w.heap.size):stepG Tryd.prog true (oeNew Tryd.f14 z cs) w=.go (oeBorn Tryd.f14 z cs) (w.alloc wgNew) #[]:=by
 have key:=stepG_value (P:=Tryd.prog) (main:=true) (b:=base 14) (a:=⟨oeT0 z undef,[]⟩) (k:=[.code (oeMid Tryd.f14)]) (cs:=cs) (w:=w) (ops:=oeOps2 Tryd.f14) (i:=0) (rest:=[]) (v:=.pointer (some ⟨w.heap.size,0,none⟩)) (w':=w.alloc wgNew) rfl rfl (by decide) (by
  simp only [oeOps2,oeT0,bodyC,innerC,secondC,firstC,opsC,Tryd.f14,Option.getD_some]
  go_simp
  rfl)
 rw [← hz] at key
 unfold oeNew oeBorn
 rw [key]
 congr 1
theorem ev_min (w:World) (x y:Int):(Builtin.min_ #[3,3] 3 #[.int .i64 x,.int .i64 y]).events Tryd.prog w #[] = #[]:=rfl
theorem oe_in (hm:(if (z.n:Int) < z.wks then (z.n:Int) else z.wks)=(z.m:Int)) (h:∀ x',WTo Tryd.prog true F Ev K (oeHead Tryd.f14 z 0 x' cs)):WTo Tryd.prog true F Ev K (oeBorn Tryd.f14 z cs):=by
 have h':=h ⟨undef,undef,undef,undef⟩
 revert h'
 simp only [oeBorn,oeT0,oeOps2,oeHead,oeT,oeLB,oeRest,oeMid,bodyC,innerC,secondC,firstC,opsC,Tryd.f14,Option.getD_some]
 intro h'
 refine WTo.c rfl (fun _=>stepG_region_end) ?_
 refine WTo.c rfl (fun _=>stepG_seq) ?_
 refine WTo.c rfl (fun _=>stepG_seq) ?_
 refine WTo.c rfl (fun _=>stepG_region) ?_
 try walk_nrm
 refine WTo.value (.int .i64 z.wks) rfl rfl (by decide) (fun _=>by go_simp) (fun _=>by simp [go_sem]) ?_;try walk_nrm
 refine WTo.value (.int .i64 z.n) rfl rfl (by decide) (fun _=>by go_simp) (fun _=>by simp [go_sem]) ?_;try walk_nrm
 refine WTo.value (.int .i64 z.m) rfl rfl (by decide) (fun _=>by go_simp <;> exact hm) (fun _=>by simp [go_sem,ev_min]) ?_;try walk_nrm
 refine WTo.value (.int .i64 0) rfl rfl (by decide) (fun _=>by go_simp) (fun _=>by simp [go_sem]) ?_;try walk_nrm
 refine WTo.c rfl (fun _=>stepG_region_end) ?_
 refine WTo.c rfl (fun _=>stepG_block) ?_
 refine WTo.c rfl (fun _=>stepG_loop) ?_
 exact h'
def OeFin (P:Program) (f:Func) (z:OeV) (cs:List Frame) (j:Nat) (g:Goroutine):Prop:=WTo P true (fun _=>True) (fun _=>False) (fun g'=>∃ x,g'=oeHead f z j x cs) g
theorem oe_spawns (hm:z.m ≤ 16):∀ {r j:Nat} {g:Goroutine},j+r=z.m → OeFin Tryd.prog Tryd.f14 z cs j g → Spawns0 Tryd.prog Tryd.link.tWg z.v.wg (born Tryd.prog (wkCall z.v.wg z.v.bn z.v.ba z.v.br)) (OeFin Tryd.prog Tryd.f14 z cs z.m) r g
 | 0,j,g,hj,h=>by
  have e:j=z.m:=hj
  subst e
  exact h
 | r+1,j,g,hj,h=>by
  have hw:WTo Tryd.prog true (WgLive Tryd.link.tWg z.v.wg) (EvS z.v.wg) (AtKd1 Tryd.prog Tryd.link.tWg z.v.wg (born Tryd.prog (wkCall z.v.wg z.v.bn z.v.ba z.v.br)) (Spawns0 Tryd.prog Tryd.link.tWg z.v.wg (born Tryd.prog (wkCall z.v.wg z.v.bn z.v.ba z.v.br)) (OeFin Tryd.prog Tryd.f14 z cs z.m) r)) g:=by
   refine (h.mono (fun _ _=>trivial) fun _ hf=>hf.elim).then ?_
   rintro g' ⟨x,rfl⟩
   exact oe_one (by omega) rfl fun x'=>oe_spawns hm (j:=j+1) (by omega) (oe_next (by omega) fun x''=>WTo.stop ⟨x'',rfl⟩)
  obtain ⟨n,g',h1,h2⟩:=hw
  exact ⟨n,g',h1,h2⟩
end
end Go.Proofs.YtbokomeejmnnoaaDoor

set_option maxRecDepth 100000
set_option linter.unusedSimpArgs false
namespace Go.Proofs.YtbokomeejmnnoaaDoor
open Go.RowKit
def oeChans (f:Func):Code:=firstC (secondC (bodyC f))
def ChanEnd (n wks:Int) (an:Value) (ba:Nat) (w:World) (e:Exit) (a:Act) (w':World):Prop:=e=.normal ∧ ∃ cn cr bn br:Nat,
 a=⟨#[.int .i64 n,.int .i64 wks,an,undef,undef,.pointer (some ⟨ba,0,none⟩),.slice none 0 0,.nilIface,.pointer (some ⟨bn,0,none⟩),.pointer (some ⟨br,0,none⟩),undef,undef,.chan (some cn),.chan (some cr),undef,undef,undef,undef,undef,undef,undef,undef,undef,undef,undef,undef,undef,undef,undef,undef,undef],[]⟩ ∧ Below w.heap.size w w' ∧ cn ≠ cr ∧ w.heap.size ≤ cn ∧ w.heap.size ≤ cr ∧
 w'.heap[cn]? = some (.chan 0 #[] false 0 0 false) ∧ w'.heap[cr]? = some (.chan 0 #[] false 0 0 false) ∧ w'.cell? ⟨bn,0,none⟩=some (.chan (some cn)) ∧ w'.cell? ⟨br,0,none⟩=some (.chan (some cr))
theorem four_at (w:World) (a b c d:Obj):((((w.alloc a).alloc b).alloc c).alloc d).drew.heap[w.heap.size]? = some a ∧ ((((w.alloc a).alloc b).alloc c).alloc d).drew.heap[w.heap.size+1]? = some b ∧ ((((w.alloc a).alloc b).alloc c).alloc d).drew.heap[w.heap.size+1+1]? = some c ∧ ((((w.alloc a).alloc b).alloc c).alloc d).drew.heap[w.heap.size+1+1+1]? = some d:=by
 have h1:(w.alloc a).heap.size=w.heap.size+1:=alloc_size w a
 have h2:((w.alloc a).alloc b).heap.size=w.heap.size+1+1:=by rw [alloc_size,h1]
 have h3:(((w.alloc a).alloc b).alloc c).heap.size=w.heap.size+1+1+1:=by rw [alloc_size,h2]
 have e:((((w.alloc a).alloc b).alloc c).alloc d).drew.heap=((((w.alloc a).alloc b).alloc c).alloc d).heap:=rfl
 rw [e]
 refine ⟨?_,?_,?_,?_⟩
 · rw [alloc_old _ _ (by omega),alloc_old _ _ (by omega),alloc_old _ _ (by omega),alloc_at]
 · rw [alloc_old _ _ (by omega),alloc_old _ _ (by omega),← h1,alloc_at]
 · rw [alloc_old _ _ (by omega),← h2,alloc_at]
 · rw [← h3,alloc_at]
theorem four_below (w:World) (a b c d:Obj):Below w.heap.size w ((((w.alloc a).alloc b).alloc c).alloc d).drew:=by
 have h1:(w.alloc a).heap.size=w.heap.size+1:=alloc_size w a
 have h2:((w.alloc a).alloc b).heap.size=w.heap.size+1+1:=by rw [alloc_size,h1]
 have h3:(((w.alloc a).alloc b).alloc c).heap.size=w.heap.size+1+1+1:=by rw [alloc_size,h2]
 exact (((((Below.refl _ _).alloc (Nat.le_refl _) _).alloc (by omega) _).alloc (by omega) _).alloc (by omega) _).drew
theorem chan_end_of {n wks:Int} {an:Value} {ba:Nat} {w W:World} {a b c d:Obj} {t1 t2:TypeId} (cn cr bn br:Nat) (hW:W=((((w.alloc a).alloc b).alloc c).alloc d).drew) (hne:cn ≠ cr) (h1:w.heap.size ≤ cn) (h2:w.heap.size ≤ cr)
  (h:∀ f:Nat → Option Obj,f w.heap.size=some a → f (w.heap.size+1)=some b → f (w.heap.size+1+1)=some c → f (w.heap.size+1+1+1)=some d → f cn=some (.chan 0 #[] false 0 0 false) ∧ f cr=some (.chan 0 #[] false 0 0 false) ∧ f bn=some (.cells #[.chan (some cn)] t1 (0,0)) ∧ f br=some (.cells #[.chan (some cr)] t2 (0,0))) :
  ChanEnd n wks an ba w .normal ⟨#[.int .i64 n,.int .i64 wks,an,undef,undef,.pointer (some ⟨ba,0,none⟩),.slice none 0 0,.nilIface,.pointer (some ⟨bn,0,none⟩),.pointer (some ⟨br,0,none⟩),undef,undef,.chan (some cn),.chan (some cr),undef,undef,undef,undef,undef,undef,undef,undef,undef,undef,undef,undef,undef,undef,undef,undef,undef],[]⟩ W:=by
 obtain ⟨k1,k2,k3,k4⟩:=four_at w a b c d
 have hb:=four_below w a b c d
 rw [← hW] at k1 k2 k3 k4 hb
 obtain ⟨q1,q2,q3,q4⟩:=h (fun x=>W.heap[x]?) k1 k2 k3 k4
 exact ⟨rfl,cn,cr,bn,br,rfl,hb,hne,h1,h2,q1,q2,by simp [World.cell?,q3],by simp [World.cell?,q4]⟩
theorem oe_chans (n wks:Int) (an:Value) (ba:Nat) (w:World):(oeChans Tryd.f14).wp Tryd.prog (ChanEnd n wks an ba w) ⟨#[.int .i64 n,.int .i64 wks,an,undef,undef,.pointer (some ⟨ba,0,none⟩),.slice none 0 0,.nilIface,undef,undef,undef,undef,undef,undef,undef,undef,undef,undef,undef,undef,undef,undef,undef,undef,undef,undef,undef,undef,undef,undef,undef],[]⟩ w:=by
 obtain ⟨i1,hi1,-⟩:=info_parts Tryd.infoInt
 obtain ⟨i2,hi2,-⟩:=info_parts Tryd.infoMade
 have m1:∀ w':World,(Instr.makeChan 53 (.int .i64 0)).run Tryd.prog w'=.ok (.chan (some w'.heap.size)) (w'.alloc (.chan 0 #[] false 0 0 false)):=fun w'=>by
  simp [Instr.makeChan,asInt,asIntOf,run_underlying Tryd.underlying53,typeInfo,hi1]
 have m2:∀ w':World,(Instr.makeChan 54 (.int .i64 0)).run Tryd.prog w'=.ok (.chan (some w'.heap.size)) (w'.alloc (.chan 0 #[] false 0 0 false)):=fun w'=>by
  simp [Instr.makeChan,asInt,asIntOf,run_underlying Tryd.underlying54,typeInfo,hi2]
 simp only [oeChans,bodyC,firstC,secondC,Tryd.f14,Option.getD_some]
 clear hi1 hi2
 go_region
 all_goals exact chan_end_of _ _ _ _ rfl (by omega) (by omega) (by omega) (fun f h1 h2 h3 h4=>⟨by assumption,by assumption,by assumption,by assumption⟩)
end Go.Proofs.YtbokomeejmnnoaaDoor

set_option maxRecDepth 100000
set_option linter.unusedSimpArgs false
namespace Go.Proofs.YtbokomeejmnnoaaDoor
open Go.Conc Go.RowKit Go.Conc.Lib Go.ConcR.Gen
open Go.ConcN (WgLive upd upd_same upd_ne Has)
open Go.ConcR (KK WgAt stA smA rd wr mk Payload)
section
variable {v:WkV} {t:WkT}
theorem wk_quits (T:Array Value):QuitsD Tryd.prog 2 0 (G { wkB.at ⟨T,[]⟩ [] with mode:=.returning } [wkBot Tryd.prog]):=by
 refine QuitsD.ctl (g':=G (wkBot Tryd.prog) []) rfl (fun w=>?_) ?_
 · simp [G,stepG,unwind,doReturn,Frame.at,wkB,baseD,wkBot,Tryd.func23,Tryd.f23,results,seen,GStep.after,goexitEntry]
 ·
  refine QuitsD.ctl (g':={ G (wkBot Tryd.prog) [] with status:=.finished }) rfl (fun w=>?_) ⟨rfl,rfl⟩
  simp [G,stepG,unwind,wkBot,goexitEntry,Frame.catches]
  rfl
theorem wk_done [Payload] {F:World → Prop} {Ev:Event → Prop} {C:Nat} {val:Value} (hF:∀ w,F w → WgLive Tryd.link.tWg v.wg w) (hC:∀ w,F w → Has C 0 val w) :
  WTo Tryd.prog false F Ev (fun g=>∀ w,F w → Go.ConcN.AtR0 Tryd.prog Tryd.link.tWg v.wg C 1 0 1 val g w) (wkOut Tryd.prog v t):=by
 have hA:=fun T=>done_r0 (P:=Tryd.prog) (L:=Tryd.link) (Wg:=v.wg) Tryd.wgLib hF hC (c:={ wkB.at ⟨T,[]⟩ [] with mode:=.returning }) (cs:=[wkBot Tryd.prog]) (qt:=2) rfl (wk_quits T)
 unfold wkOut
 refine WTo.c rfl (fun _=>stepG_unwind_enter (f:=24) (args:=#[.pointer (some ⟨v.wg,0,none⟩)]) (ds:=[]) rfl Tryd.wgLib.f_done (nm_done Tryd.link) rfl) ?_
 walk_nrmf doneFn
 exact (hA _).mono (fun _ h=>h) fun _ h=>h.elim
end
section
variable {H R:Nat → Prop} {T:Nat → Nat} {z:OeV} {l:OeL} {ad:Nat → Addr} {per:Int} {cs:List Frame} {w w0:World} {base top:Nat}
theorem made_end {i:Nat} {v:Value} {Z:Nat → Prop} {w1 w2:World} (h:(oePool Tryd.prog Tryd.f23 Tryd.f14 Tryd.f25 H R T z l ad per cs w w0 base top).Made i v Z w1) (hs:Sees Z w1 w2) (he:Errs9 w2 ad):DelayEnd per (l.ls i) ad (.returned v) w2:=by
 obtain ⟨x,r,L,v0,T1,t,t',h0,h1,h2,h3,h4⟩:=h.stay (fun _ hc=>hc) hs
 have h1:DelayEnd per (l.ls i) ad (.returned v0) (taped x T1):=h1
 have hg:ErrVars r:=fun g hg=>h4 g (by
  show delayVars g=true
  simpa [delayVars] using hg)
 have k0:DelayEnd per (l.ls i) ad (.returned v0) (taped x t):=h1.same fun _=>rfl
 exact (DelayEnd.carry (w':=taped w2 t') h3 hg (he.same fun _=>rfl) k0 h2).same fun _=>rfl
theorem past_more {S:Sets} {B B' d:Nat} {t:Trace} (h:PastP S B d t) (hB:B ≤ B'):PastP S B' d t:=⟨h.clean,h.known,h.wrote,h.mine,h.shunned,h.over,h.hears,fun op hop=>MemAct.low_mono hB (h.seen op hop)⟩
theorem norel_of {B:Nat} {t:Trace} {a:Addr} (h:∀ op ∈ t,op.act.low B) (ha:B ≤ a.block):NoRelease a t:=fun i hi=>by
 unfold Trace.act? at hi
 cases ht:t[i]? with
 | none=>simp [ht] at hi
 | some op=>
  simp [ht] at hi
  have:=h op (Array.mem_of_getElem? ht)
  rw [hi] at this
  have:a.block < B:=this
  omega
end
end Go.Proofs.YtbokomeejmnnoaaDoor
