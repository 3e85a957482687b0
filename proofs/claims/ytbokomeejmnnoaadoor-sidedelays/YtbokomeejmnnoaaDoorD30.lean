/- Own facts, put together: no statement of its own. -/
import Derived.Test.YtbokomeejmnnoaaDoorD29
set_option maxHeartbeats 1600000

namespace Go.Proofs.YtbokomeejmnnoaaDoor
open Go.Conc
open Go.ConcN (sumTo upd sumTo_upd upd_ne upd_same sumTo_congr get_map_set get_map_set_same deafBehind_idle le_sumTo WD cnt Vc phi isOpen isW3 isFin OpenSt AllQuit CTag WSit RW AtR0 AtK1 RelBy WgLive PayAt Has phi_mono phi_retag pend Vc_upd Vc_le others_uncounted bk_cell)
open Go.ConcR (KK WgAt stA smA rd wr mk Payload Bk DC0 ofEvent_loc_mark)
theorem bk_touch {wg:Nat} {e:Event} {b:Touch} (h:Go.ConcR.Bk wg e) (hb:(MemAct.ofEvent e).touch? = some b):(∃ a,b.loc=.cell a ∧ a.block=wg) ∧ b.kind=.atomic:=by
 rcases h with h1 | h1 | ⟨a,wr,rfl,h2⟩
 · rw [ofEvent_loc_mark h1] at hb;cases hb
 · rw [ofEvent_loc_mark h1] at hb;cases hb
 ·
  simp [MemAct.ofEvent,MemAct.touch?] at hb
  subst hb
  exact ⟨⟨a,rfl,h2⟩,rfl⟩
theorem bk_low {wg B:Nat} {e:Event} (h:Go.ConcR.Bk wg e) (hB:wg < B):(MemAct.ofEvent e).low B:=by
 rcases h with h1 | h1 | ⟨a,wr,rfl,h2⟩
 · rw [ofEvent_loc_mark h1];exact trivial
 · rw [ofEvent_loc_mark h1];exact trivial
 ·
  show a.block < B
  omega
theorem bk_norel {wg:Nat} {e:Event} (h:Go.ConcR.Bk wg e) (a:Addr):MemAct.ofEvent e ≠ .mark (.release a):=by
 rcases h with h1 | h1 | ⟨a,wr,rfl,h2⟩
 · rw [ofEvent_loc_mark h1];simp
 · rw [ofEvent_loc_mark h1];simp
 · simp [MemAct.ofEvent]
theorem sum_from (base:Nat) (hb:0 < base):∀ J,Go.ConcN.sumTo J (fun i=>if i+1 < base then 0 else 1)=J+1 - base
 | 0=>by
  show 0=_
  omega
 | J+1=>by
  have:=sum_from base hb J
  simp only [Go.ConcN.sumTo]
  split <;> omega
theorem sum_most {f g:Nat → Nat}:∀ {J:Nat},(∀ i,i < J → f i ≤ g i) → Go.ConcN.sumTo J f ≤ Go.ConcN.sumTo J g
 | 0,_=>Nat.le_refl _
 | J+1,h=>by
  have:=sum_most (J:=J) fun i hi=>h i (by omega)
  have:=h J (Nat.lt_succ_self _)
  simp only [Go.ConcN.sumTo]
  omega
section
variable {P:Program} {p:Pool P} {ty:TypeId} {An Nx:Goroutine → Prop}
def S2 (J:Nat) (D:Nat → WD) (pre:Nat → Nat):Nat:=Go.ConcN.sumTo J fun i=>2 * (D i).stage+pre i
def F2 (J:Nat) (D:Nat → WD):Nat:=Go.ConcN.sumTo J fun i=>(D i).fuel
theorem s2_upd {J i:Nat} {D:Nat → WD} {pre:Nat → Nat} (hi:i < J) (x:WD) (q:Nat):S2 J (upd D i x) (upd pre i q)+(2 * (D i).stage+pre i)=S2 J D pre+(2 * x.stage+q):=by
 have:=sumTo_upd (fun i=>((D i),pre i)) (x,q) (fun y:WD × Nat=>2 * y.1.stage+y.2) hi
 have e:∀ a,upd (fun i=>((D i),pre i)) i (x,q) a=(upd D i x a,upd pre i q a):=fun a=>by
  by_cases h:a=i
  · subst h;rw [upd_same,upd_same,upd_same]
  · rw [upd_ne _ _ h,upd_ne _ _ h,upd_ne _ _ h]
 simp only [e] at this
 exact this
theorem f2_upd {J i:Nat} {D:Nat → WD} (hi:i < J) (x:WD):F2 J (upd D i x)+(D i).fuel=F2 J D+x.fuel:=sumTo_upd D x WD.fuel hi
abbrev Lt2:Nat × Nat → Nat × Nat → Prop:=Prod.Lex (· < ·) (· < ·)
theorem Z0.pend {wg:Nat} {tag:CTag} {f d:Nat} {g:Goroutine} (h:Z0 P ty wg An Nx tag f d g):pend tag=0:=by
 cases tag <;> simp only [Z0] at h <;> first | rfl | exact h.elim
theorem lt_worker {D:Nat → WD} {pre:Nat → Nat} {f0:Nat} {tag:CTag} {J i:Nat} (hi:i < J) {s' m' dd' q f':Nat} {tag':CTag} (htag:tag'=tag ∨ (tag=.blk ∧ tag'=.w3)) (hf:f' ≤ f0+1)
  (hlt:(2 * s' + q < 2 * (D i).stage+pre i ∧ Go.ConcN.cnt ⟨s',m',dd'⟩ ≤ Go.ConcN.cnt (D i)) ∨ (s'=(D i).stage ∧ q=pre i ∧ m' + 1=(D i).fuel)) :
  Lt2 (phi J (Vc J (upd D i ⟨s',m',dd'⟩)) tag' + S2 J (upd D i ⟨s',m',dd'⟩) (upd pre i q),f' + 2 * F2 J (upd D i ⟨s',m',dd'⟩)) (phi J (Vc J D) tag+S2 J D pre,f0+2 * F2 J D):=by
 have e1:=Vc_upd D (⟨s',m',dd'⟩:WD) hi
 have e2:=s2_upd (D:=D) (pre:=pre) hi ⟨s',m',dd'⟩ q
 have e3:=f2_upd (D:=D) hi ⟨s',m',dd'⟩
 rw [phi_retag J _ htag]
 dsimp only at e2 e3
 rcases hlt with ⟨h1,h2⟩ | ⟨h1,h2,h3⟩
 ·
  refine Prod.Lex.left _ _ ?_
  have:=phi_mono J (v':=Vc J (upd D i ⟨s',m',dd'⟩)) (v:=Vc J D) (by omega) tag
  omega
 ·
  have ec:Go.ConcN.cnt (⟨s',m',dd'⟩:WD)=Go.ConcN.cnt (D i):=by simp only [Go.ConcN.cnt,h1]
  have ev:Vc J (upd D i ⟨s',m',dd'⟩)=Vc J D:=by omega
  have es:S2 J (upd D i ⟨s',m',dd'⟩) (upd pre i q)=S2 J D pre:=by omega
  rw [ev,es]
  refine Prod.Lex.right _ ?_
  omega
variable [Payload] {C:Nat} {val:Value} {wc:World} {gs:Array Goroutine} {w w':World} {t:Trace} {D:Nat → WD} {pre:Nat → Nat} {d0 f0:Nat} {tag:CTag} {a:Goroutine} {st sm:Int}
def Pool.Inv3 (p:Pool P) (ty:TypeId) (An Nx:Goroutine → Prop) (C:Nat) (val:Value) (wc:World) (μ:Nat × Nat) (gs:Array Goroutine) (w:World) (t:Trace):Prop:=
 ∃ (D:Nat → WD) (pre:Nat → Nat) (tag:CTag) (f0 d0:Nat) (a:Goroutine) (st sm:Int),gs[0]? = some a ∧ Z0 P ty p.wg An Nx tag f0 d0 a ∧ p.Join ty C val wc gs w t D pre d0 ∧ WgAt ty p.wg w st sm ∧ Go.ConcN.Mode (p.top - 1) D tag st sm ∧
  μ=(phi (p.top - 1) (Vc (p.top - 1) D) tag+S2 (p.top - 1) D pre,f0+2 * F2 (p.top - 1) D)
abbrev Pool.Goal3 (p:Pool P) (ty:TypeId) (An Nx:Goroutine → Prop) (C:Nat) (val:Value) (wc:World) (gs:Array Goroutine) (w:World) (t:Trace) (sl:Option (Nat × Nat)) (i:Nat) (D:Nat → WD) (pre:Nat → Nat) (tag:CTag) (f0:Nat):Prop:=
 ∃ gs' w' ops,runT P (crowd gs w sl) i=(.next (crowd gs' w' sl),ops) ∧ ∃ μ',Lt2 μ' (phi (p.top - 1) (Vc (p.top - 1) D) tag+S2 (p.top - 1) D pre,f0+2 * F2 (p.top - 1) D) ∧ p.Inv3 ty An Nx C val wc μ' gs' w' (t ++ ops)
theorem Pool.Join.goW (hp:p.Ok) (hC:C ≠ p.wg) (ha:gs[0]? = some a) (hz:Z0 P ty p.wg An Nx tag f0 d0 a) (h:p.Join ty C val wc gs w t D pre d0) {sl:Option (Nat × Nat)} {i:Nat} (hi:i+1 < p.top) {g g':Goroutine} (hg:gs[i+1]? = some g) {es:Array Event} (hgo:stepG P false g w=.go g' w' es) {s' m' dd' pre':Nat} {st' sm':Int}
  (hs:∀ b,b ≠ p.wg → w'.heap[b]? = w.heap[b]?) (hsz:w'.heap.size=w.heap.size) (ho:w'.os=w.os ∧ w'.output=w.output) (hwg:WgAt ty p.wg w' st' sm') (hs':p.Sit3 ty C val s' m' dd' pre' g' w')
  (hpast:PastP (p.sets p.top (noW P)) w'.heap.size d0 (t ++ MemOp.ofEvents (i+1) g.frame.fn g.frame.place es)) (hnr:∀ e ∈ es,∀ a,MemAct.ofEvent e ≠ .mark (.release a)) (hdeaf:deafBehind (D i).deaf es=dd')
  (hrel:p.base ≤ i+1 → s' ≤ 6 → ∃ r,RelBy (stA p.wg) (t ++ MemOp.ofEvents (i+1) g.frame.fn g.frame.place es) (i+1) r) (hold:i+1 < p.base → s'=1)
  (hmode:∀ tag',(tag'=tag ∨ (tag=.blk ∧ tag'=.w3)) → (mayWake P g=true → g'.status=.running → tag' ≠ .blk) → Go.ConcN.Mode (p.top - 1) (upd D i ⟨s',m',dd'⟩) tag' st' sm')
  (hlt:(2 * s' + pre' < 2 * (D i).stage+pre i ∧ Go.ConcN.cnt ⟨s',m',dd'⟩ ≤ Go.ConcN.cnt (D i)) ∨ (s'=(D i).stage ∧ pre'=pre i ∧ m' + 1=(D i).fuel)):p.Goal3 ty An Nx C val wc gs w t sl (i+1) D pre tag f0:=by
 obtain ⟨tag',f',hz',hf',htag,hwk⟩:=hz.woken g g' w'
 refine ⟨_,w',_,runT_crowd_go (P:=P) (sl:=sl) (i:=i+1) hg (by simpa using hgo),_,lt_worker (by omega) htag hf' hlt,
  upd D i ⟨s',m',dd'⟩,upd pre i pre',tag',f',d0,woken P g g' w' a,st',sm',by rw [get_map_set _ _ _ _ (by omega),ha];rfl,hz',h.stepW hp hC hi hs hsz ho ⟨_,_,hwg⟩ hs' hpast (h.norel.app fun op hop=>?_) hdeaf hrel hold,hwg,hmode tag' htag hwk,rfl⟩
 obtain ⟨e,he,rfl⟩:=Go.Conc.mem_ofEvents hop
 exact hnr e he _
theorem Pool.Join.vc (hp:p.Ok) (h:p.Join ty C val wc gs w t D pre d0):Vc (p.top - 1) D ≤ p.top - p.base:=by
 have h1:Vc (p.top - 1) D ≤ Go.ConcN.sumTo (p.top - 1) (fun i=>if i+1 < p.base then 0 else 1):=sum_most fun i hi=>by
  by_cases hb:i+1 < p.base
  ·
   have:=h.old i hb
   simp [Go.ConcN.cnt,this]
  ·
   simp only [Go.ConcN.cnt,if_neg hb]
   split <;> omega
 rw [sum_from p.base hp.pos] at h1
 have:=hp.top
 have:=hp.pos
 omega
theorem Pool.Join.wlt (hp:p.Ok) (h:p.Join ty C val wc gs w t D pre d0):p.wg < w.heap.size:=Nat.lt_of_lt_of_le (hp.shlow _ hp.shwg) h.live.1.2
theorem Pool.Join.booked (hp:p.Ok) (h:p.Join ty C val wc gs w t D pre d0) {i:Nat} (hb:p.base ≤ i+1) (hi:i+1 < p.top) {es:Array Event} (hes:∀ e ∈ es,Go.ConcR.Bk p.wg e) (fn:FuncId) (pos:String):PastP (p.sets p.top (noW P)) w.heap.size d0 (t ++ MemOp.ofEvents (i+1) fn pos es):=by
 refine h.past.atomic (Pool.sets_ok hp (fun _ _ hc=>hc.elim) fun _ _ _ hc=>hc.elim) (.inr ⟨hb,hi⟩) (g_ofE _ _ _ _) (fun op hop b hb=>?_) ?_ (fun op hop=>?_)
 ·
  obtain ⟨e,he,rfl⟩:=Go.Conc.mem_ofEvents hop
  obtain ⟨⟨a,h1,h2⟩,h3⟩:=bk_touch (hes e he) hb
  exact ⟨⟨a,h1,h2⟩,h3⟩
 ·
  rw [Deaf_other t (by omega) _ (g_ofE _ _ _ _)]
  exact h.past.hears
 ·
  obtain ⟨e,he,rfl⟩:=Go.Conc.mem_ofEvents hop
  exact bk_low (hes e he) (h.wlt hp)
theorem Pool.Join.looked (hp:p.Ok) (h:p.Join ty C val wc gs w t D pre d0) {i:Nat} (hb:p.base ≤ i+1) (hi:i+1 < p.top) {es:Array Event} (hes:∀ e ∈ es,p.Ev e) (fn:FuncId) (pos:String):PastP (p.sets p.top (noW P)) w.heap.size d0 (t ++ MemOp.ofEvents (i+1) fn pos es):=by
 have hev:∀ e ∈ es,evW p.S (fun _=>False) e:=fun e he=>by
  obtain ⟨ad,h1,h2⟩:=hes e he
  exact .inl ⟨ad,h1,.inl h2⟩
 refine h.past.ownW (Pool.sets_ok hp (fun _ _ hc=>hc.elim) fun _ _ _ hc=>hc.elim) ⟨hb,hi⟩ (g_ofE _ _ _ _) (fun op hop y hy=>?_) (fun op hop=>?_)
 ·
  obtain ⟨e,he,rfl⟩:=Go.Conc.mem_ofEvents hop
  exact (hev e he).touch hy
 ·
  obtain ⟨e,he,rfl⟩:=Go.Conc.mem_ofEvents hop
  refine (hev e he).low fun c hc=>?_
  rcases hc with hc | hc
  · exact Nat.lt_of_lt_of_le (hp.slow c hc) h.live.1.2
  · exact hc.elim
end
end Go.Proofs.YtbokomeejmnnoaaDoor

namespace Go.Proofs.YtbokomeejmnnoaaDoor
open Go.Conc
open Go.ConcN (sumTo upd sumTo_upd upd_ne upd_same sumTo_congr get_map_set get_map_set_same deafBehind_idle le_sumTo WD cnt Vc phi isOpen isW3 isFin OpenSt AllQuit CTag WSit RW AtR0 AtK1 RelBy WgLive PayAt Has phi_mono phi_retag pend Vc_upd Vc_le others_uncounted bk_cell)
open Go.ConcR (KK WgAt stA smA rd wr mk Payload Bk DC0 ofEvent_loc_mark bk_of_mute)
section
variable {P:Program} {p:Pool P} {ty:TypeId} {An Nx:Goroutine → Prop} [Payload] {C:Nat} {val:Value} {wc:World} {gs:Array Goroutine} {w w':World} {t:Trace} {D:Nat → WD} {pre:Nat → Nat} {d0 f0:Nat} {tag:CTag} {a:Goroutine} {st sm:Int}
theorem Pool.Join.shut (hp:p.Ok) (ha:gs[0]? = some a) (hz:Z0 P ty p.wg An Nx tag f0 d0 a) (h:p.Join ty C val wc gs w t D pre d0) (hwg:WgAt ty p.wg w st sm) (hmode:Go.ConcN.Mode (p.top - 1) D tag st sm)
  (hcl:∀ g,p.Recv g → ∃ m g',Walk P false (p.Live ty) p.Ev m (g.finishComm P #[rcase p.cn p.zn] (.recv true) 0 p.zn false) g' ∧ p.R0 ty C val g') {sl:Option (Nat × Nat)} {i:Nat} (hb:p.base ≤ i+1) (hi:i+1 < p.top) {g:Goroutine} (hg:gs[i+1]? = some g) (hst:(D i).stage=7) (hpre:pre i=1) (hde:(D i).deaf=0) (hask:p.Asks g) :
  p.Goal3 ty An Nx C val wc gs w t sl (i+1) D pre tag f0:=by
 obtain ⟨hrun,g2,hr,hcomm⟩:=hask
 obtain ⟨m,g',hwk,hR⟩:=hcl g2 hr
 obtain ⟨s,tm,hc⟩:=h.chn
 have hcw:p.cn ≠ p.wg:=hp.cw.1
 have hc':w.heap[p.cn]? = some (.chan 0 #[] true s s tm):=by rw [h.world _ hcw];exact hc
 have hnone:partners (gs.setIfInBounds (i+1) ph) p.cn true=[]:=partners_stand fun j x hj hx=>by
  cases j with
  | zero=>
   rw [ha] at hx
   cases hx
   rcases hz.status with ⟨hr,-⟩ | ⟨rfl,-⟩
   · exact offersAt_of_not_blocked (by rw [hr];simp) _ _
   ·
    obtain ⟨-,-,g3,h3,rfl⟩:=hz
    simp [offersAt,h3.2.1]
  | succ j=>
   have hj:j+1 < p.top:=by rw [← h.size];exact get_zero hx
   obtain ⟨y,hy,hsy⟩:=h.wk j hj
   rw [hx] at hy
   cases hy
   refine offersAt_of_not_blocked ?_ _ _
   rcases hsy.status h.live with e | e <;> rw [e] <;> simp
 have hrunT:=crowd_recv_closed (P:=P) (sl:=sl) (i:=i+1) hg (by simpa using hcomm w) hc' hnone
 have hlt:i+1 < gs.size:=by rw [h.size];exact hi
 refine ⟨_,w,_,hrunT,_,lt_worker (s':=7) (m':=m) (dd':=0) (q:=0) (i:=i) (by omega) (.inl rfl) (Nat.le_succ f0) (.inl ⟨by rw [hst,hpre];omega,by simp [Go.ConcN.cnt,hst]⟩),
  upd D i ⟨7,m,0⟩,upd pre i 0,tag,f0,d0,a,st,sm,by rw [Array.getElem?_setIfInBounds_ne (by omega)];exact ha,hz,?_,hwg,?_,rfl⟩
 ·
  rw [ofEvents_nil,Array.empty_append]
  have hgu:∀ op ∈ (#[{ g:=i+1,fn:=g2.frame.fn,pos:=g2.frame.place,act:=.recvClosed p.cn }]:Trace),op.g=i+1:=fun op hop=>by
   simp only [List.mem_toArray,List.mem_cons,List.not_mem_nil,or_false] at hop
   subst hop;rfl
  have hdq:∀ k,Deaf (t ++ #[{ g:=i+1,fn:=g2.frame.fn,pos:=g2.frame.place,act:=.recvClosed p.cn }]) k=Deaf t k:=fun k=>Deaf_quiet fun op hop d=>by
   simp only [List.mem_toArray,List.mem_cons,List.not_mem_nil,or_false] at hop
   subst hop;rfl
  refine ⟨by simp [h.size],h.live,h.world,h.wsize,h.chn,fun k hk=>?_,?_,h.norel.app fun op hop=>?_,fun k hk=>?_,fun j hj=>by rw [hdq];exact h.above j hj,fun k hk1 hk2 hst'=>?_,fun k hk=>?_⟩
  ·
   by_cases e:k=i
   ·
    subst e
    exact ⟨_,Array.getElem?_setIfInBounds_self_of_lt hlt,by rw [upd_same,upd_same];exact .inl ⟨rfl,rfl,.inr ⟨rfl,g',hwk,hR⟩⟩⟩
   ·
    obtain ⟨x,hx,hsx⟩:=h.wk k hk
    exact ⟨x,by rw [Array.getElem?_setIfInBounds_ne (by omega)];exact hx,by rw [upd_ne D _ e,upd_ne pre _ e];exact hsx⟩
  ·
   refine h.past.mute (fun op hop=>?_) ((hdq 0).trans h.past.hears) fun op hop=>?_
   ·
    simp only [List.mem_toArray,List.mem_cons,List.not_mem_nil,or_false] at hop
    subst hop;rfl
   ·
    simp only [List.mem_toArray,List.mem_cons,List.not_mem_nil,or_false] at hop
    subst hop
    exact get_zero hc'
  ·
   simp only [List.mem_toArray,List.mem_cons,List.not_mem_nil,or_false] at hop
   subst hop;simp
  ·
   rw [hdq,h.deaf k hk]
   by_cases e:k=i
   · subst e;rw [upd_same,hde]
   · rw [upd_ne D _ e]
  ·
   by_cases e:k=i
   ·
    subst e
    rw [upd_same] at hst'
    dsimp only at hst'
    omega
   ·
    rw [upd_ne D _ e] at hst'
    obtain ⟨r,hr⟩:=h.rel k hk1 hk2 hst'
    exact ⟨r,hr.appOther hgu (by omega)⟩
  ·
   by_cases e:k=i
   · subst e;omega
   · rw [upd_ne D _ e];exact h.old k hk
 ·
  have:=hmode.same (i:=i) m 0
  rwa [hst] at this
theorem Pool.Join.worker (hp:p.Ok) (hC:C ≠ p.wg) (hJ:p.top - p.base < 2147483648) (ha:gs[0]? = some a) (hz:Z0 P ty p.wg An Nx tag f0 d0 a) (h:p.Join ty C val wc gs w t D pre d0) (hwg:WgAt ty p.wg w st sm) (hmode:Go.ConcN.Mode (p.top - 1) D tag st sm)
  (hcl:∀ g,p.Recv g → ∃ m g',Walk P false (p.Live ty) p.Ev m (g.finishComm P #[rcase p.cn p.zn] (.recv true) 0 p.zn false) g' ∧ p.R0 ty C val g') {sl:Option (Nat × Nat)} {i:Nat} (hi:i+1 < p.top) {g:Goroutine} (hg:gs[i+1]? = some g) (hrun:g.status=.running):p.Goal3 ty An Nx C val wc gs w t sl (i+1) D pre tag f0:=by
 obtain ⟨g₁,hg₁,hs⟩:=h.wk i hi
 obtain rfl:g=g₁:=by rw [hg] at hg₁;exact Option.some.inj hg₁
 have hij:i < p.top - 1:=by omega
 have hVj:=Vc_le (p.top - 1) D
 have hVb:=h.vc hp
 have hdk:=h.deaf i hi
 have hb:(D i).stage ≠ 1 → p.base ≤ i+1:=fun hne=>Nat.not_lt.1 fun hlt=>hne (h.old i hlt)
 have hpd:=hz.pend
 have hself:=rw_of (C:=C) (fun _ _=>rfl) h.live.2 hC
 have hevn:∀ {es:Array Event},(∀ e ∈ es,p.Ev e) → ∀ e ∈ es,∀ a,MemAct.ofEvent e ≠ .mark (.release a):=fun he e hx a=>by
  obtain ⟨ad,rfl,-⟩:=he e hx
  simp [MemAct.ofEvent]
 have hevd:∀ {es:Array Event},(∀ e ∈ es,p.Ev e) → ∀ d,deafBehind d es=d:=fun he d=>deafBehind_idle (fun e hx=>by
  obtain ⟨ad,rfl,-⟩:=he e hx
  simp) d
 rcases hs with ⟨hst,hde,hs⟩ | ⟨hpre,hle,hs⟩
 ·
  have hbb:=hb (by omega)
  rcases hs with ⟨hpre,n,g',hfu,hwk,hask⟩ | ⟨hpre,g',hwk,hR⟩
  ·
   cases n with
   | zero=>
    cases hwk
    exact h.shut hp ha hz hwg hmode hcl hbb hi hg hst hpre hde hask
   | succ n=>
    obtain ⟨-,g1,es,he,hstp,hwk⟩:=hwk
    refine h.goW hp hC ha hz hi hg (hstp w h.live.1) (s':=7) (m':=n+1) (dd':=0) (pre':=1) (fun _ _=>rfl) rfl ⟨rfl,rfl⟩ hwg (.inl ⟨rfl,rfl,.inl ⟨rfl,n,g',rfl,hwk,hask⟩⟩) (h.looked hp hbb hi he _ _) (hevn he) (by rw [hevd he,hde]) (fun _ hx=>by omega) (fun hx=>by omega) (fun tag' ht _=>?_) (.inr ⟨hst.symm,hpre.symm,by rw [hfu]⟩)
    have:=hmode.same (i:=i) (n+1) 0
    rw [hst] at this
    exact this.retag ht
  ·
   cases hfu:(D i).fuel with
   | zero=>
    rw [hfu] at hwk
    cases hwk
    obtain ⟨_,-,g',hgo,m₂,hk⟩:=hR w h.live
    refine h.goW hp hC ha hz hi hg hgo (s':=6) (m':=m₂) (dd':=0) (pre':=0) (fun _ _=>rfl) rfl ⟨rfl,rfl⟩ hwg (.inr ⟨rfl,by omega,.k1 hk⟩) ?_ (fun e he a=>?_) (by rw [hde];rfl) (fun _ _=>⟨t.size,RelBy.new (by rw [hdk,hde]) _ _⟩) (fun hx=>by omega) (fun tag' ht _=>(hmode.counted hij (by omega) (.inl rfl) _ _).retag ht) (.inl ⟨by rw [hst,hpre];omega,by simp [Go.ConcN.cnt,hst]⟩)
    ·
     refine h.past.mute (fun op hop=>?_) ?_ (fun op hop=>?_)
     ·
      obtain ⟨e,he,rfl⟩:=Go.Conc.mem_ofEvents hop
      simp at he
      subst he;rfl
     ·
      rw [Deaf_other t (by omega) _ (g_ofE _ _ _ _)]
      exact h.past.hears
     ·
      obtain ⟨e,he,rfl⟩:=Go.Conc.mem_ofEvents hop
      simp at he
      subst he
      exact h.wlt hp
    ·
     simp at he
     subst he
     show (MemAct.mark (.releaseMerge _)) ≠ _
     simp
   | succ n=>
    rw [hfu] at hwk
    obtain ⟨-,g1,es,he,hstp,hwk⟩:=hwk
    refine h.goW hp hC ha hz hi hg (hstp w h.live) (s':=7) (m':=n) (dd':=0) (pre':=0) (fun _ _=>rfl) rfl ⟨rfl,rfl⟩ hwg (.inl ⟨rfl,rfl,.inr ⟨rfl,g',hwk,hR⟩⟩) (h.looked hp hbb hi he _ _) (hevn he) (by rw [hevd he,hde]) (fun _ hx=>by omega) (fun hx=>by omega) (fun tag' ht _=>?_) (.inr ⟨hst.symm,hpre.symm,by rw [hfu]⟩)
    have:=hmode.same (i:=i) n 0
    rw [hst] at this
    exact this.retag ht
 ·
  generalize hst:(D i).stage=s at hs hle
  generalize hfu:(D i).fuel=m at hs
  generalize hde:(D i).deaf=dd at hs
  -- the library's bookkeeping
  have bookG:∀ {g':Goroutine} {w':World} {es:Array Event} {s' m' dd':Nat} {st' sm':Int},s ≠ 1 → stepG P false g w=.go g' w' es → Go.Conc.Aside p.wg w w' → WgAt ty p.wg w' st' sm' → (∀ e ∈ es,Go.ConcR.Bk p.wg e) →
    (∀ jx e,es[jx]? = some e → (MemAct.ofEvent e).touch? = none ∨ 0 < deafBehind dd (es.extract 0 jx)) → s' ≤ 6 → WSit P ty p.wg C 1 noL noL 0 1 val s' m' dd' g' w' → deafBehind dd es=dd' →
    (∀ tag',(tag'=tag ∨ (tag=.blk ∧ tag'=.w3)) → (mayWake P g=true → g'.status=.running → tag' ≠ .blk) → Go.ConcN.Mode (p.top - 1) (upd D i ⟨s',m',dd'⟩) tag' st' sm') → ((s' < s ∧ Go.ConcN.cnt ⟨s',m',dd'⟩ ≤ Go.ConcN.cnt (D i)) ∨ (s'=s ∧ m' + 1=m)) → p.Goal3 ty An Nx C val wc gs w t sl (i+1) D pre tag f0:=by
   intro g' w' es s' m' dd' st' sm' hne hgo hAs hwg' hbk hd hle' hs' hdd hmode' hlt
   have hbb:=hb (by omega)
   refine h.goW hp hC ha hz hi hg hgo (s':=s') (m':=m') (dd':=dd') (pre':=0) hAs.block hAs.size ⟨hAs.os,hAs.output⟩ hwg' (.inr ⟨rfl,hle',hs'⟩) ?_ (fun e he a=>bk_norel (hbk e he) a) (by rw [hde];exact hdd) (fun hb1 _=>?_) (fun hx=>by omega) hmode' ?_
   ·
    rw [hAs.size]
    exact h.booked hp hbb hi hbk _ _
   ·
    obtain ⟨r,hr⟩:=h.rel i hb1 hi (by omega)
    exact ⟨r,hr.book (hdk.trans hde) _ _ hbk hd⟩
   ·
    rw [hst,hpre,hfu]
    rcases hlt with ⟨h1,h2⟩ | ⟨h1,h2⟩
    · exact .inl ⟨by omega,h2⟩
    · exact .inr ⟨h1,rfl,h2⟩
  have idle:∀ {g':Goroutine} {m':Nat},s ≠ 1 → stepG P false g w=.go g' w #[] → WSit P ty p.wg C 1 noL noL 0 1 val s m' dd g' w → m' + 1=m → p.Goal3 ty An Nx C val wc gs w t sl (i+1) D pre tag f0:=by
   intro g' m' hne hgo hs' hm
   refine bookG hne hgo (.refl p.wg w) hwg (by simp) (by simp) hle hs' rfl (fun tag' ht _=>?_) (.inr ⟨rfl,hm⟩)
   have:=hmode.same (i:=i) m' dd
   rw [hst] at this
   exact this.retag ht
  cases hs with
  | r0 _=>omega
  | k1 hk=>
   rcases Goes.cases hk with hstop | ⟨m',rfl,hstep⟩
   ·
    obtain ⟨_,g',hgo,m₂,hk⟩:=hstop w hself
    exact bookG (by omega) hgo (.refl p.wg w) hwg (by intro e he;simp at he;subst he;exact .inl rfl) (by intro jx e he;exact .inl (by have:=Array.mem_of_getElem? he;simp at this;subst this;rfl)) (by omega) (.d1 hk) rfl
     (fun tag' ht _=>(hmode.counted hij (by omega) (.inr rfl) _ _).retag ht) (.inl ⟨by omega,by simp [Go.ConcN.cnt,hst]⟩)
   ·
    obtain ⟨g',w',es,hgo,⟨rfl,rfl⟩,hg'⟩:=hstep w hself
    exact idle (by omega) hgo (.k1 hg') rfl
  | d1 hk=>
   rcases Goes.cases hk with hstop | ⟨m',rfl,hstep⟩
   ·
    obtain ⟨_,hall⟩:=hstop w hself
    have hc1:Go.ConcN.cnt (D i)=1:=by simp [Go.ConcN.cnt,hst]
    have hV1:1 ≤ Vc (p.top - 1) D:=by have:=le_sumTo (f:=fun x=>Go.ConcN.cnt (D x)) hij;simp only [Vc];omega
    have plk2:∀ e ∈ #[rd (stA p.wg),wr (stA p.wg)],Go.ConcR.Bk p.wg e:=by intro e he;simp at he;rcases he with rfl | rfl <;> exact bk_cell _ _ rfl
    have df2:∀ jx e,(#[rd (stA p.wg),wr (stA p.wg)]:Array Event)[jx]? = some e → (MemAct.ofEvent e).touch? = none ∨ 0 < deafBehind 1 ((#[rd (stA p.wg),wr (stA p.wg)]:Array Event).extract 0 jx):=by
     intro jx e he
     match jx,he with
     | 0,_=>exact .inr (by simp [deafBehind])
     | 1,_=>exact .inr (by simp [deafBehind,rd])
     | jx+2,he=>simp at he
    have opq:∀ q,OpenSt (p.top - 1) D → OpenSt (p.top - 1) (upd D i ⟨1,q,1⟩):=fun q h a ha=>by
     by_cases e:a=i
     · subst e;rw [upd_same];simp
     · rw [upd_ne D _ e];exact h a ha
    have quit:∀ {v wt:Nat} {g':Goroutine} {q:Nat},stepG P false g w=.go g' (w.setCell (stA p.wg) (.int .u64 (v * KK+wt))) #[rd (stA p.wg),wr (stA p.wg)] → QuitsD P q 1 g' → (∀ tag',(tag'=tag ∨ (tag=.blk ∧ tag'=.w3)) → Go.ConcN.Mode (p.top - 1) (upd D i ⟨1,q,1⟩) tag' (v * KK+wt) sm) → p.Goal3 ty An Nx C val wc gs w t sl (i+1) D pre tag f0:=
     fun hgo hq hm=>bookG (by omega) hgo (aside_setCell w (stA p.wg) _) (hwg.setSt _) plk2 df2 (by omega) (.quit hq) rfl (fun tag' ht _=>hm tag' ht) (.inl ⟨by omega,by simp [Go.ConcN.cnt]⟩)
    have hup:∀ q,Vc (p.top - 1) (upd D i ⟨1,q,1⟩)+1=Vc (p.top - 1) D:=fun q=>by
     have:=Vc_upd D (⟨1,q,1⟩:WD) hij
     have h0:Go.ConcN.cnt (⟨1,q,1⟩:WD)=0:=rfl
     omega
    cases hmode with
    | opn h1 h2 h3=>
     obtain ⟨v,hv⟩:∃ v,Vc (p.top - 1) D=v+1:=⟨Vc (p.top - 1) D - 1,by omega⟩
     have hw1:WgAt ty p.wg w (((v:Nat)+1) * KK+((0:Nat):Int)) 0:=by
      rw [hpd,hv] at hwg
      simpa using hwg
     obtain ⟨g',hgo,_,hq⟩:=hall v 0 (by omega) (by omega) hw1
     obtain ⟨q,hq⟩:=hq (by omega)
     refine quit hgo hq fun tag' ht=>?_
     have hv':Vc (p.top - 1) (upd D i ⟨1,q,1⟩)+pend tag=v:=by have:=hup q;omega
     have e:((v:Nat):Int) * KK+((0:Nat):Int)=((Vc (p.top - 1) (upd D i ⟨1,q,1⟩)+pend tag:Nat):Int) * KK:=by rw [hv'];simp
     rw [e]
     exact Go.ConcN.Mode.retag (.opn h1 (opq q h2) (fun vs ev=>by have:=h3 vs ev;have:=hup q;omega)) ht
    | reg h1 h2 h3=>
     obtain ⟨v,hv⟩:∃ v,Vc (p.top - 1) D=v+1:=⟨Vc (p.top - 1) D - 1,by omega⟩
     rw [hv] at hwg
     have hw1:WgAt ty p.wg w (((v:Nat)+1) * KK+((1:Nat):Int)) 0:=by simpa using hwg
     obtain ⟨g',hgo,hl,hq⟩:=hall v 1 (by omega) (by omega) hw1
     by_cases hv0:v=0
     ·
      subst hv0
      obtain ⟨m₂,hk⟩:=hl ⟨rfl,rfl⟩
      refine bookG (by omega) hgo (aside_setCell w (stA p.wg) _) (hwg.setSt _) plk2 df2 (by omega) (.d2 hk) rfl (fun tag' ht _=>?_) (.inl ⟨by omega,by simp [Go.ConcN.cnt]⟩)
      have hoth:∀ a,a < p.top - 1 → a ≠ i → (D a).stage=1:=fun a ha e=>by
       have c0:=others_uncounted hij hv hc1 a ha e
       have:=h2 a ha
       simp only [Go.ConcN.cnt] at c0
       split at c0 <;> omega
      have:=Go.ConcN.Mode.last (j:=p.top - 1) (D:=upd D i ⟨4,m₂,1⟩) (tag:=tag) i h1 hij (by rw [upd_same];simp) (fun a ha e=>by rw [upd_ne D _ e];exact hoth a ha e)
      rw [upd_same] at this
      exact Go.ConcN.Mode.retag (by simpa using this) ht
     ·
      obtain ⟨q,hq⟩:=hq (by omega)
      refine quit hgo hq fun tag' ht=>?_
      have hv':Vc (p.top - 1) (upd D i ⟨1,q,1⟩)=v:=by have:=hup q;omega
      have e:((v:Nat):Int) * KK+((1:Nat):Int)=((Vc (p.top - 1) (upd D i ⟨1,q,1⟩):Nat):Int) * KK+1:=by rw [hv'];simp
      rw [e]
      exact Go.ConcN.Mode.retag (.reg h1 (opq q h2) (by omega)) ht
    | last L _ h2 h3 h4=>
     by_cases e:i=L
     · subst e;omega
     · have:=h4 i hij e;omega
    | sema h2=>have:=h2 i hij;omega
    | fin _ h2=>have:=h2 i hij;omega
   ·
    obtain ⟨g',w',es,hgo,⟨rfl,rfl⟩,hg'⟩:=hstep w hself
    exact idle (by omega) hgo (.d1 hg') rfl
  | d2 hk=>
   rcases Goes.cases hk with hstop | ⟨m',rfl,hstep⟩
   ·
    obtain ⟨_,hx⟩:=hstop w hself
    obtain ⟨hW3,hoth,rfl,rfl⟩:=hmode.isLast hij (by omega)
    simp only [hst] at hwg
    obtain ⟨g',hgo,m₂,hk⟩:=hx (by simpa using hwg)
    refine bookG (by omega) hgo (.refl p.wg w) hwg (by intro e he;simp at he;subst he;exact bk_cell _ _ rfl) (by intro jx e he;match jx,he with | 0,_=>exact .inr (by simp [deafBehind]) | jx+1,he=>simp at he) (by omega) (.d3 hk) rfl (fun tag' ht _=>?_) (.inl ⟨by omega,by simp [Go.ConcN.cnt]⟩)
    have:=Go.ConcN.Mode.last (j:=p.top - 1) (D:=upd D i ⟨3,m₂,1⟩) (tag:=tag) i hW3 hij (by rw [upd_same];simp) (fun a ha e=>by rw [upd_ne D _ e];exact hoth a ha e)
    rw [upd_same] at this
    exact Go.ConcN.Mode.retag (by simpa using this) ht
   ·
    obtain ⟨g',w',es,hgo,⟨rfl,rfl⟩,hg'⟩:=hstep w hself
    exact idle (by omega) hgo (.d2 hg') rfl
  | d3 hk=>
   rcases Goes.cases hk with hstop | ⟨m',rfl,hstep⟩
   ·
    obtain ⟨_,hx⟩:=hstop w hself
    obtain ⟨hW3,hoth,rfl,rfl⟩:=hmode.isLast hij (by omega)
    simp only [hst] at hwg
    obtain ⟨g',hgo,m₂,hk⟩:=hx (by simpa using hwg)
    refine bookG (by omega) hgo (aside_setCell w (stA p.wg) _) (hwg.setSt 0) (by intro e he;simp at he;subst he;exact bk_cell _ _ rfl) (by intro jx e he;match jx,he with | 0,_=>exact .inr (by simp [deafBehind]) | jx+1,he=>simp at he) (by omega) (.d4 hk) rfl (fun tag' ht _=>?_) (.inl ⟨by omega,by simp [Go.ConcN.cnt]⟩)
    have:=Go.ConcN.Mode.last (j:=p.top - 1) (D:=upd D i ⟨2,m₂,1⟩) (tag:=tag) i hW3 hij (by rw [upd_same];simp) (fun a ha e=>by rw [upd_ne D _ e];exact hoth a ha e)
    rw [upd_same] at this
    exact Go.ConcN.Mode.retag (by simpa using this) ht
   ·
    obtain ⟨g',w',es,hgo,⟨rfl,rfl⟩,hg'⟩:=hstep w hself
    exact idle (by omega) hgo (.d3 hg') rfl
  | d4 hk=>
   rcases Goes.cases hk with hstop | ⟨m',rfl,hstep⟩
   ·
    obtain ⟨_,hmw,hx⟩:=hstop w hself
    obtain ⟨hW3,hoth,rfl,rfl⟩:=hmode.isLast hij (by omega)
    simp only [hst] at hwg
    obtain ⟨g',hgo,q,hq⟩:=hx (by simpa using hwg)
    have hrun':g'.status=.running:=by
     cases q with
     | zero=>exact absurd hq.2 (by decide)
     | succ q=>exact hq.elim (fun x=>absurd x.2 (by decide)) (fun x=>x.1)
    refine bookG (by omega) hgo (aside_setCell w (smA p.wg) _) (hwg.setSm 1) (es:=semEvents (smA p.wg)) ?_ ?_ (by omega) (.quit hq) (by simp [deafBehind,semEvents]) ?_ (.inl ⟨by omega,by simp [Go.ConcN.cnt]⟩)
    ·
     intro e he
     simp [semEvents] at he
     rcases he with rfl | rfl | rfl | rfl
     · exact .inl rfl
     · exact bk_cell _ _ rfl
     · exact bk_cell _ _ rfl
     · exact .inr (.inl rfl)
    ·
     intro jx e he
     match jx,he with
     | 0,he=>simp [semEvents] at he;subst he;exact .inl rfl
     | 1,_=>exact .inr (by simp [deafBehind,semEvents])
     | 2,_=>exact .inr (by simp [deafBehind,semEvents])
     | 3,he=>simp [semEvents] at he;subst he;exact .inl rfl
     | jx+4,he=>simp [semEvents] at he
    ·
     intro tag' ht hw
     have hnb:=hw hmw hrun'
     have e3:tag'=.w3:=by
      rcases ht with rfl | ⟨_,rfl⟩
      · cases tag' <;> first | rfl | exact hW3.elim | exact absurd rfl hnb
      · rfl
     subst e3
     simp only [if_true]
     exact .sema fun a ha=>by
      by_cases e:a=i
      · subst e;rw [upd_same]
      · rw [upd_ne D _ e];exact hoth a ha e
   ·
    obtain ⟨g',w',es,hgo,⟨rfl,rfl⟩,hg'⟩:=hstep w hself
    exact idle (by omega) hgo (.d4 hg') rfl
  | quit hq=>
   cases m with
   | zero=>rw [hq.1] at hrun;cases hrun
   | succ q=>
    rcases hq with ⟨hf,_⟩ | ⟨_,g',es,hmute,hstep,hq⟩
    · rw [hf] at hrun;cases hrun
    refine h.goW hp hC ha hz hi hg (hstep w) (s':=1) (m':=q) (dd':=deafBehind dd es) (pre':=0) (fun _ _=>rfl) rfl ⟨rfl,rfl⟩ hwg (.inr ⟨rfl,by omega,.quit hq⟩) ?_ (fun e he a=>mute_norel (hmute e he) a) (by rw [hde]) (fun hb1 _=>?_) (fun _=>rfl) (fun tag' ht _=>?_) (.inr ⟨hst.symm,hpre.symm,hfu.symm⟩)
    ·
     refine h.past.mute (fun op hop=>?_) ?_ (fun op hop=>?_)
     ·
      obtain ⟨e,he,rfl⟩:=Go.Conc.mem_ofEvents hop
      exact touch_mute (hmute e he)
     ·
      rw [Deaf_other t (by omega) _ (g_ofE _ _ _ _)]
      exact h.past.hears
     ·
      obtain ⟨e,he,rfl⟩:=Go.Conc.mem_ofEvents hop
      exact low_mute (hmute e he) _
    ·
     obtain ⟨r,hr⟩:=h.rel i hb1 hi (by omega)
     exact ⟨r,hr.book (Wg:=p.wg) (hdk.trans hde) _ _ (fun e he=>bk_of_mute (hmute e he)) fun jx e he=>.inl (touch_mute (hmute e (Array.mem_of_getElem? he)))⟩
    ·
     have:=hmode.same (i:=i) q (deafBehind dd es)
     rw [hst] at this
     exact this.retag ht
end
end Go.Proofs.YtbokomeejmnnoaaDoor
