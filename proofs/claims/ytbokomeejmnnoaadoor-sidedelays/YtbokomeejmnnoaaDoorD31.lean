/- Own facts, put together: no statement of its own. -/
import Derived.Test.YtbokomeejmnnoaaDoorD29
import Derived.Test.YtbokomeejmnnoaaDoorD30

namespace Go.Proofs.YtbokomeejmnnoaaDoor
open Go.Conc
section
variable {P:Program} {Post:Value → World → Prop} {H:Nat → Prop} {p:Plan}
def HidOk (H:Nat → Prop) (w:World):Prop:=∀ b,H b → ∃ c e,w.heap[b]? = some (.cells c e (0,0))
open Classical in
theorem mask_of {w:World} (h:HidOk H w):∃ v,Mask H v w ∧ v.tape=w.tape ∧ v.drawn=w.drawn:=by
 refine ⟨{ w with heap:=w.heap.mapIdx fun i o=>if H i then (match o with | .cells _ e _=>.cells #[] e (0,0) | o=>o) else (match o with | .pending _ _=>.coro none | o=>o) },⟨by simp,fun b hb=>?_,fun b hb=>?_,fun _ _=>rfl,rfl,rfl⟩,rfl,rfl⟩
 ·
  dsimp only
  rw [Array.getElem?_mapIdx]
  cases hh:w.heap[b]? with
  | none=>exact .inl ⟨rfl,fun _ _ he=>by cases he⟩
  | some o=>
   simp only [Option.map_some,if_neg hb]
   cases o <;> first | exact .inr ⟨_,_,rfl,rfl⟩ | exact .inl ⟨rfl,fun _ _ he=>by cases he⟩
 ·
  obtain ⟨c,e,h1⟩:=h b hb
  refine ⟨c,e,h1,?_⟩
  dsimp only
  rw [Array.getElem?_mapIdx,h1]
  simp only [Option.map_some,if_pos hb]
theorem MaskT.calm {v w:World} (h:MaskT H v w):Calm v:=by
 obtain ⟨t,t',hm⟩:=h
 exact hm.calm
theorem MaskT.cell {v w:World} (h:MaskT H v w) {a:Addr} {x:Value} (hc:v.cell? a=some x):w.cell? a=some x:=by
 obtain ⟨t,t',hm⟩:=h
 exact (hm.cell (a:=a) (x:=x) hc).1
def PieceEnd (b:Frame) (Q:Exit → Act → World → Prop) (y:LnSt):Prop:=y.1.2=[pit] ∧ ∃ a',(y.1.1=b.at a' [pitK] ∧ Q .normal a' y.2) ∨ ∃ todo,y.1.1={ b.at a' todo with mode:=.returning } ∧ Q .ret a' y.2
theorem ends_wp {c:Code} {b:Frame} {a:Act} {v:World} {Q:Exit → Act → World → Prop} (h:∀ t,c.wp P Q a (taped v t)) (hq:∀ e a w,Q e a w → e=.normal ∨ e=.ret) (hqt:∀ e a w t,Q e a w → Q e a (taped w t)):EndsAt P ((b.at a [.code c,pitK],[pit]),v) (PieceEnd b Q):=by
 refine ⟨fun t=>?_,fun y hy=>?_,fun y hy=>hy.1,fun y t hy=>?_⟩
 ·
  obtain ⟨e,a',w',hQ,hA⟩:=h t b [pitK] [pit]
  rcases hq _ _ _ hQ with rfl | rfl
  ·
   obtain ⟨n,hn⟩:=hA
   exact ⟨n,((b.at a' [pitK],[pit]),w'),hn,rfl,a',.inl ⟨rfl,hQ⟩⟩
  ·
   obtain ⟨todo,n,hn⟩:=hA
   exact ⟨n,(({ b.at a' todo with mode:=.returning },[pit]),w'),hn,rfl,a',.inr ⟨todo,rfl,hQ⟩⟩
 ·
  obtain ⟨h1,a',⟨h2,-⟩ | ⟨todo,h2,-⟩⟩:=hy
  · exact .inr ⟨by rw [h2];rfl,by rw [h2];rfl⟩
  · exact .inl ⟨by rw [h2],h1⟩
 ·
  obtain ⟨h1,a',⟨h2,h3⟩ | ⟨todo,h2,h3⟩⟩:=hy
  · exact ⟨h1,a',.inl ⟨h2,hqt _ _ _ _ h3⟩⟩
  · exact ⟨h1,a',.inr ⟨todo,h2,hqt _ _ _ _ h3⟩⟩
structure BaseM (P:Program) (p:Plan) (b:Frame) (a:Act):Prop where
 isIn:∃ f0,P.funcs[b.fn]? = some f0
 flow:∀ s ∈ p.Kf b.fn,GoodF p (a.tmps.getD s undef)
 defers:a.defers=[]
 kind:b.kind=.normal
theorem fin_wp (hF:∀ H,FnsOkM P p H) {c:Code} {b:Frame} {a:Act} {k:List Item} {cs:List Frame} {w:World} {Q:Exit → Act → World → Prop} (hb:BaseM P p b a) (hc:codeM P p (p.Kf b.fn) c=true) (hh:HidOk H w)
  (hwp:∀ v,MaskT H v w → c.wp P Q a v) (hq:∀ e a w,Q e a w → e=.normal ∨ e=.ret) (hqt:∀ e a w t,Q e a w → Q e a (taped w t))
  (hn:∀ a' v' w',Q .normal a' v' → MaskT H v' w' → Pend H w w' → FinW P Post H (G (b.at a' k) cs) w') (hr:∀ a' todo v' w',Q .ret a' v' → MaskT H v' w' → Pend H w w' → FinW P Post H (G { b.at a' todo with mode:=.returning } cs) w'):FinW P Post H (G (b.at a (.code c :: k)) cs) w:=by
 obtain ⟨v,hm,-,-⟩:=mask_of hh
 have hT:MaskT H v w:=hm.some
 have he:=ends_wp (b:=b) (fun t=>hwp (taped v t) (hT.retape t w.tape)) hq hqt
 have h0:InvSt P p ((b.at a [.code c,pitK],[pit]),v):=by
  refine ⟨⟨⟨hb.isIn,⟨[.code c],[pitK],rfl,.inr rfl,fun x hx=>?_⟩,hb.flow,hb.defers,.inl rfl,hb.kind,rfl⟩,[],rfl,fun g hg=>by cases hg⟩,hT.calm⟩
  rw [List.mem_singleton.1 hx]
  exact hc
 have key:=fin_piece (Post:=Post) hF he h0 k cs (fun y w1 hy hm1 hp1=>?_) hT
 ·
  have e1:swF k (b.at a [.code c,pitK])=b.at a (.code c :: k):=by
   show ({ b.at a [.code c,pitK] with todo:=swK k ([.code c] ++ [pitK]) }:Frame)=_
   rw [swK_pit]
   rfl
  have e2:swS k cs [pit]=cs:=by simp [swS,pit]
  dsimp only at key
  rw [e1,e2] at key
  exact key
 ·
  obtain ⟨⟨yf,yc⟩,yw⟩:=y
  obtain ⟨h1,a',⟨h2,h3⟩ | ⟨todo,h2,h3⟩⟩:=hy
  ·
   dsimp only at h1 h2 h3 hm1 ⊢
   subst h1 h2
   have e1:swF k (b.at a' [pitK])=b.at a' k:=by
    show ({ b.at a' [pitK] with todo:=swK k ([] ++ [pitK]) }:Frame)=_
    rw [swK_pit]
    rfl
   have e2:swS k cs [pit]=cs:=by simp [swS,pit]
   rw [e1,e2]
   exact hn a' yw w1 h3 hm1 hp1
  ·
   dsimp only at h1 h2 h3 hm1 ⊢
   subst h1 h2
   have e2:swS k cs [pit]=cs:=by simp [swS,pit]
   rw [e2]
   exact hr a' (swK k todo) yw w1 h3 hm1 hp1
theorem fin_ctl {g g':Goroutine} {w:World} (hrun:g.status=.running) (h:∀ d,stepG P true g (w.at d)=.go g' (w.at d)) (hf:∀ d,FinW P Post H g' (w.at d)):FinW P Post H g w:=fun gs sl t q B hg hL hP hB=>
 beside_one (P:=P) (Shun:=shunOf H) (a:=g) hrun (fun a' w' B'=>B' ≤ w'.heap.size ∧ a'=g' ∧ ∃ d,w'=w.at d) (fun gs' a' w' sl' t' q' B' hk hg' hL' hP'=>by
  obtain ⟨hB',rfl,d,rfl⟩:=hk
  exact hf d gs' sl' t' q' B' hg' hL' hP' hB') _ gs w sl t q B rfl hg hL hP fun d=>⟨g',w.at d,#[],B,h d,by simp,Nat.le_refl _,hB,rfl,d,rfl⟩
end
end Go.Proofs.YtbokomeejmnnoaaDoor

namespace Go.Proofs.YtbokomeejmnnoaaDoor
open Go.Conc
open Go.ConcN (sumTo upd sumTo_upd upd_ne upd_same sumTo_congr get_map_set get_map_set_same deafBehind_idle le_sumTo WD cnt Vc phi isOpen isW3 isFin OpenSt AllQuit CTag WSit RW AtR0 AtK1 RelBy WgLive PayAt Has phi_mono phi_retag pend Vc_upd Vc_le others_uncounted bk_cell)
open Go.ConcR (KK WgAt stA smA rd wr mk Payload Bk DC0 ofEvent_loc_mark bk_of_mute)
def Ev3 (wg:Nat) (e:Event):Prop:=(∀ b,(MemAct.ofEvent e).touch? = some b → (∃ a,b.loc=.cell a ∧ a.block=wg) ∧ b.kind ≠ .plain) ∧ (∀ B,wg < B → (MemAct.ofEvent e).low B) ∧ ∀ a,MemAct.ofEvent e ≠ .mark (.release a)
theorem ev3_bk {wg:Nat} {e:Event} (h:Go.ConcR.Bk wg e):Ev3 wg e:=⟨fun b hb=>⟨(bk_touch h hb).1,by rw [(bk_touch h hb).2];simp⟩,fun B hB=>bk_low h hB,fun a=>bk_norel h a⟩
theorem ev3_said {wg:Nat} {e:Event} (h:EvS wg e):Ev3 wg e ∧ e.loc ≠ .mark .disable ∧ e.loc ≠ .mark .enable:=by
 rcases h with rfl | rfl
 ·
  refine ⟨⟨fun b hb=>?_,fun B hB=>hB,fun a=>?_⟩,by simp,by simp⟩
  ·
   simp [MemAct.ofEvent,MemAct.touch?] at hb
   subst hb
   exact ⟨⟨_,rfl,rfl⟩,by simp⟩
  ·
   show (MemAct.mark _) ≠ _
   simp
 ·
  refine ⟨⟨fun b hb=>?_,fun B hB=>hB,fun a=>?_⟩,by simp,by simp⟩
  ·
   simp [MemAct.ofEvent,MemAct.touch?] at hb
   subst hb
   exact ⟨⟨_,rfl,rfl⟩,by simp⟩
  ·
   show (MemAct.mark _) ≠ _
   simp
theorem plk2 {wg:Nat}:∀ e ∈ #[rd (stA wg),wr (stA wg)],Ev3 wg e:=by
 intro e he
 simp at he
 rcases he with rfl | rfl <;> exact ev3_bk (bk_cell _ _ rfl)
theorem plk1 {wg:Nat}:∀ e ∈ #[rd (stA wg)],Ev3 wg e:=by
 intro e he
 simp at he
 subst he
 exact ev3_bk (bk_cell _ _ rfl)
section
variable {P:Program} {Post:Value → World → Prop}
theorem fin_walk {F:World → Prop} {H:Nat → Prop} {g':Goroutine}:∀ {n:Nat} {g:Goroutine} {w:World},Walk P true F (fun _=>False) n g g' → (∀ d,F (w.at d)) → (∀ d,FinW P Post H g' (w.at d)) → FinW P Post H g w
 | 0,g,w,hw,_,hf=>by
  cases hw
  exact hf w.drawn
 | n+1,g,w,⟨hs,x,es,he,hst,hw⟩,hF,hf=>by
  obtain rfl:es = #[]:=by
   obtain ⟨l⟩:=es
   cases l with
   | nil=>rfl
   | cons e l=>exact (he e (by simp)).elim
  exact fin_ctl hs (fun d=>hst _ (hF d)) fun d=>fin_walk hw hF hf
end
section
variable {P:Program} {p:Pool P} {ty:TypeId} {An Nx:Goroutine → Prop} {Post:Value → World → Prop} [Payload] {C:Nat} {val:Value} {wc:World} {gs:Array Goroutine} {w w':World} {t:Trace} {D:Nat → WD} {pre:Nat → Nat} {d0 f0:Nat} {tag:CTag} {a:Goroutine} {st sm:Int}
theorem Pool.Join.past0 (hp:p.Ok) (h:p.Join ty C val wc gs w t D pre d0) {es:Array Event} (hes:∀ e ∈ es,Ev3 p.wg e) (fn:FuncId) (pos:String):PastP (p.sets p.top (noW P)) w.heap.size (deafBehind d0 es) (t ++ MemOp.ofEvents 0 fn pos es):=by
 refine h.past.own0 (Pool.sets_ok hp (fun _ _ hc=>hc.elim) fun _ _ _ hc=>hc.elim) (g_ofE _ _ _ _) (fun op hop b hb=>?_) ?_ (fun op hop=>?_)
 ·
  obtain ⟨e,he,rfl⟩:=Go.Conc.mem_ofEvents hop
  obtain ⟨⟨ad,h1,h2⟩,h3⟩:=(hes e he).1 b hb
  refine ⟨?_,fun _=>h3,fun _ _ hk=>hk.elim⟩
  rintro ⟨a',h4,h5⟩
  rw [h1] at h4
  cases h4
  rw [h2] at h5
  exact absurd hp.shwg (hp.parted _ h5)
 · rw [Deaf_own,h.past.hears]
 ·
  obtain ⟨e,he,rfl⟩:=Go.Conc.mem_ofEvents hop
  exact (hes e he).2.1 _ (h.wlt hp)
theorem Pool.Join.go0 (hp:p.Ok) (hC:C ≠ p.wg) (ha:gs[0]? = some a) (h:p.Join ty C val wc gs w t D pre d0) {sl:Option (Nat × Nat)} {a':Goroutine} {es:Array Event} (hgo:stepG P true a w=.go a' w' es) {tag':CTag} {f':Nat} {st' sm':Int}
  (hs:∀ b,b ≠ p.wg → w'.heap[b]? = w.heap[b]?) (hsz:w'.heap.size=w.heap.size) (ho:w'.os=w.os ∧ w'.output=w.output) (hwg:WgAt ty p.wg w' st' sm') (hes:∀ e ∈ es,Ev3 p.wg e) (hz':Z0 P ty p.wg An Nx tag' f' (deafBehind d0 es) a') (hmode:Go.ConcN.Mode (p.top - 1) D tag' st' sm')
  (hlt:phi (p.top - 1) (Vc (p.top - 1) D) tag' < phi (p.top - 1) (Vc (p.top - 1) D) tag ∨ (phi (p.top - 1) (Vc (p.top - 1) D) tag'=phi (p.top - 1) (Vc (p.top - 1) D) tag ∧ f' < f0)):p.Goal3 ty An Nx C val wc gs w t sl 0 D pre tag f0:=by
 refine ⟨_,w',_,runT_crowd_go (P:=P) (sl:=sl) (i:=0) ha (show stepG P (0 == 0) a w=_ from hgo),_,?_,D,pre,tag',f',deafBehind d0 es,a',st',sm',get_map_set_same _ _ _ (get_zero ha),hz',h.step0 hp hC hs hsz ho ⟨_,_,hwg⟩ (by rw [hsz];exact h.past0 hp hes _ _) (h.norel.app fun op hop=>?_),hwg,hmode,rfl⟩
 ·
  rcases hlt with hl | ⟨h1,h2⟩
  · exact Prod.Lex.left _ _ (by omega)
  ·
   rw [h1]
   exact Prod.Lex.right _ (by omega)
 ·
  obtain ⟨e,he,rfl⟩:=Go.Conc.mem_ofEvents hop
  exact (hes e he).2.2 _
theorem zero_step (hp:p.Ok) (hC:C ≠ p.wg) (hJ:p.top - p.base < 2147483648) (hAn:∀ g,An g → ∃ n,WT0 P ty p.wg (AtW10 P ty p.wg An Nx) n g)
  (hfin:∀ g w,Nx g → (∀ b,b ≠ p.wg → w.heap[b]? = wc.heap[b]?) → w.heap.size=wc.heap.size → WgAt ty p.wg w 0 0 → p.Still w → FinW P Post p.Sh g w)
  (ha:gs[0]? = some a) (hz:Z0 P ty p.wg An Nx tag f0 d0 a) (h:p.Join ty C val wc gs w t D pre d0) (hwg:WgAt ty p.wg w st sm) (hmode:Go.ConcN.Mode (p.top - 1) D tag st sm) {sl:Option (Nat × Nat)} (hrun:a.status=.running) :
  p.Goal3 ty An Nx C val wc gs w t sl 0 D pre tag f0 ∨ ∃ gs' w' ops,runT P (crowd gs w sl) 0=(.next (crowd gs' w' sl),ops) ∧ WellEnds P Post (crowd gs' w' sl) (t ++ ops):=by
 have hV:=Vc_le (p.top - 1) D
 have hVb:=h.vc hp
 have hpd:=hz.pend
 -- a walk's step
 have walk:∀ {K:Goroutine → Prop} {n:Nat} {tag':CTag} {f':Nat},WT0 P ty p.wg K (n+1) a → (∀ g',WT0 P ty p.wg K n g' → Z0 P ty p.wg An Nx tag' f' d0 g') → Go.ConcN.Mode (p.top - 1) D tag' st sm →
   (phi (p.top - 1) (Vc (p.top - 1) D) tag' < phi (p.top - 1) (Vc (p.top - 1) D) tag ∨ (phi (p.top - 1) (Vc (p.top - 1) D) tag'=phi (p.top - 1) (Vc (p.top - 1) D) tag ∧ f' < f0)) → p.Goal3 ty An Nx C val wc gs w t sl 0 D pre tag f0:=by
  rintro K n tag' f' ⟨g2,⟨-,g1,es,he,hst,hw⟩,hK⟩ hz' hm hlt
  refine h.go0 hp hC ha (hst w h.live.2) (fun _ _=>rfl) rfl ⟨rfl,rfl⟩ hwg (fun e hx=>(ev3_said (he e hx)).1) (tag':=tag') (f':=f') ?_ hm hlt
  rw [deafBehind_idle fun e hx=>(ev3_said (he e hx)).2]
  exact hz' g1 ⟨g2,hw,hK⟩
 have same:∀ {K:Goroutine → Prop},WT0 P ty p.wg K f0 a → (∀ n g',WT0 P ty p.wg K n g' → Z0 P ty p.wg An Nx tag n d0 g') → (∀ g',K g' → a=g' → p.Goal3 ty An Nx C val wc gs w t sl 0 D pre tag f0 ∨ ∃ gs' w' ops,runT P (crowd gs w sl) 0=(.next (crowd gs' w' sl),ops) ∧ WellEnds P Post (crowd gs' w' sl) (t ++ ops)) →
   p.Goal3 ty An Nx C val wc gs w t sl 0 D pre tag f0 ∨ ∃ gs' w' ops,runT P (crowd gs w sl) 0=(.next (crowd gs' w' sl),ops) ∧ WellEnds P Post (crowd gs' w' sl) (t ++ ops):=fun {K} hw hz' hst=>by
  cases f0 with
  | zero=>
   obtain ⟨g',e,hK⟩:=hw
   exact hst g' hK e
  | succ n=>exact .inl (walk hw (hz' n) hmode (.inr ⟨rfl,Nat.lt_succ_self n⟩))
 have opn:isOpen tag → OpenSt (p.top - 1) D ∧ st=((Vc (p.top - 1) D:Nat):Int) * KK ∧ sm=0 ∧ (∀ vs,tag=.w2 vs → Vc (p.top - 1) D ≤ vs ∧ 1 ≤ vs):=fun ho=>by
  cases hmode with
  | opn h1 h2 h3=>exact ⟨h2,by rw [hpd];rfl,rfl,h3⟩
  | reg h1 _ _=>cases tag <;> first | exact h1.elim | exact ho.elim
  | last L h1 _ _ _=>cases tag <;> first | exact h1.elim | exact ho.elim
  | sema _=>exact ho.elim
  | fin h1 _=>cases tag <;> first | exact h1.elim | exact ho.elim
 have finm:isFin tag → AllQuit (p.top - 1) D ∧ st=0 ∧ sm=0:=fun ho=>by
  cases hmode with
  | opn h1 _ _=>cases tag <;> first | exact h1.elim | exact ho.elim
  | reg h1 _ _=>cases tag <;> first | exact h1.elim | exact ho.elim
  | last L h1 _ _ _=>cases tag <;> first | exact h1.elim | exact ho.elim
  | sema _=>exact ho.elim
  | fin _ h2=>exact ⟨h2,rfl,rfl⟩
 cases tag <;> simp only [Z0] at hz
 case kd=>
  obtain ⟨rfl,hz⟩:=hz
  refine same hz (fun n g' hx=>⟨rfl,hx⟩) fun g' hK e=>?_
  subst e
  obtain ⟨-,g1,hst,n,hw⟩:=hK
  obtain ⟨n',hw'⟩:=hw.then hAn
  obtain ⟨h2,h3,h4,-⟩:=opn trivial
  refine .inl (h.go0 hp hC ha (hst w h.live.2) (fun _ _=>rfl) rfl ⟨rfl,rfl⟩ hwg (fun e he=>?_) (tag':=.w1) (f':=n') ⟨rfl,hw'⟩ ?_ (.inl (by simp only [phi];omega)))
  ·
   simp at he
   subst he
   exact ev3_bk (.inl rfl)
  ·
   rw [h3,h4]
   exact .opn trivial h2 (fun vs e=>by cases e)
 case w1=>
  obtain ⟨rfl,hz⟩:=hz
  refine same hz (fun n g' hx=>⟨rfl,hx⟩) fun g' hK e=>?_
  subst e
  obtain ⟨h2,h3,h4,-⟩:=opn trivial
  rw [h3,h4] at hwg
  obtain ⟨g1,hst,hz0,hnz⟩:=hK.2 w (Vc (p.top - 1) D) (by omega) hwg
  by_cases hv:Vc (p.top - 1) D=0
  ·
   obtain ⟨n,hw⟩:=hz0 hv
   refine .inl (h.go0 hp hC ha hst (fun _ _=>rfl) rfl ⟨rfl,rfl⟩ (st':=0) (sm':=0) (by rw [hv] at hwg;simpa using hwg) plk1 (tag':=.ke) (f':=n) ⟨rfl,hw⟩ (.fin trivial fun i hi=>?_) (.inl (by simp only [phi];omega)))
   have:=h2 i hi
   have hc:Go.ConcN.cnt (D i)=0:=by
    have:=le_sumTo (f:=fun x=>Go.ConcN.cnt (D x)) hi
    simp only [Vc] at hv
    omega
   simp only [Go.ConcN.cnt] at hc
   split at hc <;> omega
  ·
   obtain ⟨n,hw⟩:=hnz hv
   refine .inl (h.go0 hp hC ha hst (fun _ _=>rfl) rfl ⟨rfl,rfl⟩ hwg plk1 (tag':=.w2 (Vc (p.top - 1) D)) (f':=n) ⟨rfl,hw⟩ ?_ (.inl (by simp only [phi];omega)))
   exact .opn trivial h2 (fun vs e=>by cases e;omega)
 case w2 vs=>
  obtain ⟨rfl,hz⟩:=hz
  refine same hz (fun n g' hx=>⟨rfl,hx⟩) fun g' hK e=>?_
  subst e
  obtain ⟨h2,h3,h4,h5⟩:=opn trivial
  obtain ⟨h6,h7⟩:=h5 vs rfl
  rw [h3,h4] at hwg
  obtain ⟨hhit,hmiss⟩:=hK.2 w (Vc (p.top - 1) D) (by omega) hwg
  by_cases hv:Vc (p.top - 1) D=vs
  ·
   obtain ⟨g1,hst,n,hw⟩:=hhit hv
   refine .inl (h.go0 hp hC ha hst (aside_setCell w (stA p.wg) _).block (aside_setCell w (stA p.wg) _).size ⟨rfl,rfl⟩ (hwg.setSt _) plk2 (tag':=.w3) (f':=n+1) ⟨rfl,n,rfl,hw⟩ (.reg trivial h2 (by omega)) (.inl (by simp only [phi];omega)))
  ·
   obtain ⟨g1,hst,n,hw⟩:=hmiss hv
   obtain ⟨n',hw'⟩:=hw.then hAn
   refine .inl (h.go0 hp hC ha hst (fun _ _=>rfl) rfl ⟨rfl,rfl⟩ hwg plk1 (tag':=.w1) (f':=n') ⟨rfl,hw'⟩ (.opn trivial h2 (fun vs e=>by cases e)) (.inl (by simp only [phi];omega)))
 case w3=>
  obtain ⟨rfl,f',rfl,hz⟩:=hz
  cases f' with
  | succ n=>exact .inl (walk hz (tag':=.w3) (f':=n+1) (fun g' hx=>⟨rfl,n,rfl,hx⟩) hmode (.inr ⟨rfl,by omega⟩))
  | zero=>
   obtain ⟨g',e,hK⟩:=hz
   subst e
   have wait:sm=0 → Go.ConcN.Mode (p.top - 1) D .blk st sm → p.Goal3 ty An Nx C val wc gs w t sl 0 D pre .w3 (0+1):=fun hsm hm=>by
    subst hsm
    exact h.go0 hp hC ha (hK.2.2.1 w st hwg) (fun _ _=>rfl) rfl ⟨rfl,rfl⟩ hwg (by simp) (tag':=.blk) (f':=0) ⟨rfl,rfl,a,hK,rfl⟩ hm (.inr ⟨rfl,by omega⟩)
   cases hmode with
   | opn h1 _ _=>exact h1.elim
   | reg h1 h2 h3=>exact .inl (wait rfl (.reg trivial h2 h3))
   | last L h1 h2 h3 h4=>exact .inl (wait rfl (.last L trivial h2 h3 h4))
   | sema h2=>
    obtain ⟨g1,hst,n,hw⟩:=hK.2.2.2 w hwg
    refine .inl (h.go0 hp hC ha hst (aside_setCell w (smA p.wg) _).block (aside_setCell w (smA p.wg) _).size ⟨rfl,rfl⟩ (hwg.setSm 0) (fun e he=>?_) (tag':=.w4) (f':=n) ⟨by simp [deafBehind,semEvents],hw⟩ (.fin trivial h2) (.inl (by simp only [phi];omega)))
    simp [semEvents] at he
    rcases he with rfl | rfl | rfl | rfl
    · exact ev3_bk (.inl rfl)
    · exact ev3_bk (bk_cell _ _ rfl)
    · exact ev3_bk (bk_cell _ _ rfl)
    · exact ev3_bk (.inr (.inl rfl))
   | fin h1 _=>exact h1.elim
 case blk=>
  obtain ⟨-,-,g',-,rfl⟩:=hz
  cases hrun
 case w4=>
  obtain ⟨rfl,hz⟩:=hz
  refine same hz (fun n g' hx=>⟨rfl,hx⟩) fun g' hK e=>?_
  subst e
  obtain ⟨h2,h3,h4⟩:=finm trivial
  rw [h3,h4] at hwg
  obtain ⟨g1,hst,n,hw⟩:=hK.2 w hwg
  exact .inl (h.go0 hp hC ha hst (fun _ _=>rfl) rfl ⟨rfl,rfl⟩ hwg plk1 (tag':=.ke) (f':=n) ⟨rfl,hw⟩ (.fin trivial h2) (.inl (by simp only [phi];omega)))
 case ke=>
  obtain ⟨rfl,hz⟩:=hz
  refine same hz (fun n g' hx=>⟨rfl,hx⟩) fun g' hK e=>?_
  subst e
  obtain ⟨h2,h3,h4⟩:=finm trivial
  rw [h3,h4] at hwg
  obtain ⟨-,g1,hst,n,hw⟩:=hK
  refine .inl (h.go0 hp hC ha (hst w h.live.2) (fun _ _=>rfl) rfl ⟨rfl,rfl⟩ hwg (fun e he=>?_) (tag':=.acq) (f':=n) ⟨rfl,hw⟩ (.fin trivial h2) (.inl (by simp only [phi];omega)))
  simp at he
  subst he
  exact ev3_bk (.inr (.inl rfl))
 case acq=>
  obtain ⟨rfl,hz⟩:=hz
  refine same hz (fun n g' hx=>⟨rfl,hx⟩) fun g' hK e=>?_
  subst e
  obtain ⟨h2,h3,h4⟩:=finm trivial
  rw [h3,h4] at hwg
  obtain ⟨-,g1,hst,n,g2,hw,hN⟩:=hK
  refine .inr ⟨_,w,_,runT_crowd_go (P:=P) (sl:=sl) (i:=0) ha (show stepG P (0 == 0) a w=_ from hst w h.live.2),?_⟩
  have hops:MemOp.ofEvents 0 a.frame.fn a.frame.place #[mk (.acquire (stA p.wg))] = #[{ g:=0,fn:=a.frame.fn,pos:=a.frame.place,act:=.mark (.acquire (stA p.wg)) }]:=by rw [ofEvents_eq];simp [Go.ConcR.ofEvent_mk]
  have hJoin:=h.past.join (a:=stA p.wg) (fun g hg=>?_) h.norel a.frame.fn a.frame.place (h.wlt hp)
  ·
   have hF:FinW P Post p.Sh g1 w:=fin_walk hw (fun d=>h.live.2) fun d=>hfin g2 (w.at d) hN h.world h.wsize hwg (h.live.1.sees (sees_at _ w d))
   refine hF _ sl _ (fun i=>(D (i - 1)).fuel) w.heap.size (get_map_set_same _ _ _ (get_zero ha)) ⟨fun i g hi hg=>?_,fun j hj=>?_⟩ (by rw [hops];exact hJoin) (Nat.le_refl _)
   ·
    obtain ⟨i,rfl⟩:∃ k,i=k+1:=⟨i - 1,by omega⟩
    rw [get_map_set _ _ _ _ (by omega)] at hg
    obtain ⟨x,hx,rfl⟩:=Option.map_eq_some_iff.1 hg
    have hi':i+1 < p.top:=by rw [← h.size];exact get_zero hx
    obtain ⟨y,hy,hsy⟩:=h.wk i hi'
    rw [hx] at hy
    cases hy
    rw [hsy.woken h.live,Deaf_other t (by omega) _ (g_ofE _ _ _ _),h.deaf i hi']
    have hs1:=h2 i (by omega)
    rw [hs1] at hsy
    rcases hsy with ⟨e,-⟩ | ⟨-,-,hsy⟩
    · omega
    ·
     cases hsy with
     | quit hq=>exact hq
   ·
    rw [Deaf_other t (by have:=hp.pos;have:=hp.top;simp [h.size] at hj;omega) _ (g_ofE _ _ _ _)]
    exact h.above j (by simpa [h.size] using hj)
  ·
   obtain ⟨i,rfl⟩:∃ k,g=k+1:=⟨g - 1,by have:=hp.pos;have:=hg.1;omega⟩
   exact h.rel i hg.1 hg.2 (by rw [h2 i (by have:=hg.2;omega)];omega)
theorem Pool.join_ends (hp:p.Ok) (hC:C ≠ p.wg) (hJ:p.top - p.base < 2147483648) (hAn:∀ g,An g → ∃ n,WT0 P ty p.wg (AtW10 P ty p.wg An Nx) n g)
  (hfin:∀ g w,Nx g → (∀ b,b ≠ p.wg → w.heap[b]? = wc.heap[b]?) → w.heap.size=wc.heap.size → WgAt ty p.wg w 0 0 → p.Still w → FinW P Post p.Sh g w)
  (hcl:∀ g,p.Recv g → ∃ m g',Walk P false (p.Live ty) p.Ev m (g.finishComm P #[rcase p.cn p.zn] (.recv true) 0 p.zn false) g' ∧ p.R0 ty C val g')
  {sl:Option (Nat × Nat)} (ha:gs[0]? = some a) (hz:Z0 P ty p.wg An Nx tag f0 d0 a) (h:p.Join ty C val wc gs w t D pre d0) (hwg:WgAt ty p.wg w st sm) (hmode:Go.ConcN.Mode (p.top - 1) D tag st sm):WellEnds P Post (crowd gs w sl) t:=by
 refine ends_by (r:=Lt2) (Prod.lex Nat.lt_wfRel Nat.lt_wfRel).wf (p.Inv3 ty An Nx C val wc) ?_ ?_ ?_ ?_ _ gs w sl t ⟨D,pre,tag,f0,d0,a,st,sm,ha,hz,h,hwg,hmode,rfl⟩
 ·
  rintro μ gs w t d ⟨D,pre,tag,f0,d0,a,st,sm,ha,hz,h,hwg,hmode,rfl⟩
  exact ⟨D,pre,tag,f0,d0,a,st,sm,ha,hz,h.at hC d,hwg,hmode,rfl⟩
 ·
  rintro μ gs w t ⟨D,pre,tag,f0,d0,a,st,sm,ha,hz,h,hwg,hmode,rfl⟩ g hg
  obtain ⟨i,hi,rfl⟩:=Array.mem_iff_getElem.1 hg
  cases i with
  | zero=>
   have:gs[0]=a:=by simpa [Array.getElem?_eq_getElem hi] using ha
   rw [this]
   rcases hz.status with ⟨e,-⟩ | ⟨-,e⟩ <;> exact fun t=>by rw [e];simp
  | succ i=>
   obtain ⟨y,hy,hsy⟩:=h.wk i (by rw [← h.size];exact hi)
   rw [Array.getElem?_eq_getElem hi] at hy
   cases hy
   rcases hsy.status h.live with e | e <;> exact fun t=>by rw [e];simp
 ·
  rintro μ gs w t ⟨D,pre,tag,f0,d0,a,st,sm,ha,hz,h,hwg,hmode,rfl⟩
  rcases hz.status with ⟨e,-⟩ | ⟨rfl,e⟩
  · exact ⟨0,a,ha,e⟩
  ·
   -- it waits: somebody is counted,or on its way
   have hrun:∀ i,i < p.top - 1 → (D i).stage ≠ 1 → ∃ (i:Nat) (g:Goroutine),gs[i]? = some g ∧ g.status=.running:=fun i hi hne=>by
    obtain ⟨y,hy,hsy⟩:=h.wk i (by omega)
    refine ⟨i+1,y,hy,?_⟩
    rcases hsy with ⟨-,-,⟨-,n,g',-,h1,h2⟩ | ⟨-,g',h1,h2⟩⟩ | ⟨-,-,hs⟩
    · exact walk_running h1 h2.1
    · exact walk_running h1 (h2 w h.live).1
    ·
     have hself:=rw_of (C:=C) (fun _ _=>rfl) h.live.2 hC
     generalize (D i).stage=s at hs hne
     generalize (D i).fuel=m at hs
     generalize (D i).deaf=dd at hs
     cases hs with
     | r0 hk=>exact Goes.running (fun _ _ x=>x.1) w hself hk
     | k1 hk=>exact Goes.running (fun _ _ x=>x.1) w hself hk
     | d1 hk=>exact Goes.running (fun _ _ x=>x.1) w hself hk
     | d2 hk=>exact Goes.running (fun _ _ x=>x.1) w hself hk
     | d3 hk=>exact Goes.running (fun _ _ x=>x.1) w hself hk
     | d4 hk=>exact Goes.running (fun _ _ x=>x.1) w hself hk
     | quit _=>exact absurd rfl hne
   cases hmode with
   | opn h1 _ _=>exact h1.elim
   | reg h1 h2 h3=>
    have hex:∃ i,i < p.top - 1 ∧ Go.ConcN.cnt (D i) ≠ 0:=Classical.byContradiction fun hne=>by
     have hz:∀ k,k ≤ p.top - 1 → Go.ConcN.sumTo k (fun j=>Go.ConcN.cnt (D j))=0:=fun k=>by
      induction k with
      | zero=>intro _;rfl
      | succ k ih=>
       intro hk
       have:Go.ConcN.cnt (D k)=0:=Classical.byContradiction fun e=>hne ⟨k,by omega,e⟩
       simp only [Go.ConcN.sumTo]
       rw [ih (by omega),this]
     have:=hz (p.top - 1) (Nat.le_refl _)
     simp only [Vc] at h3
     omega
    obtain ⟨i,hi,hc⟩:=hex
    exact hrun i hi fun e=>hc (by simp [Go.ConcN.cnt,e])
   | last L h1 h2 h3 h4=>exact hrun L h2 (by omega)
   | fin h1 _=>exact h1.elim
 ·
  rintro μ gs w t sl i g ⟨D,pre,tag,f0,d0,a,st,sm,ha,hz,h,hwg,hmode,rfl⟩ hg hrun
  cases i with
  | zero=>
   rw [ha] at hg
   cases hg
   rcases zero_step hp hC hJ hAn hfin ha hz h hwg hmode (sl:=sl) hrun with ⟨gs',w',ops,h1,h2⟩ | ⟨gs',w',ops,h1,h2⟩
   · exact ⟨gs',w',ops,h1,.inl h2⟩
   · exact ⟨gs',w',ops,h1,.inr h2⟩
  | succ i=>
   obtain ⟨gs',w',ops,h1,h2⟩:=h.worker hp hC hJ ha hz hwg hmode hcl (sl:=sl) (i:=i) (by rw [← h.size];exact get_zero hg) hg hrun
   exact ⟨gs',w',ops,h1,.inl h2⟩
end
theorem Pool.Hand.empty {P:Program} {p:Pool P} {gs:Array Goroutine} {w:World} {t:Trace} {dn:Nat → Option Value} {Fx K:Nat → Prop} {D:Nat → Wk P} (h:p.Hand gs w t p.n p.n dn Fx K D):(∀ i,i < p.top → (D i).hold=0):=by
 have:=h.count
 have h0:Go.ConcN.sumTo p.top (fun j=>(D j).hold)=0:=by omega
 intro i hi
 have:=le_sumTo (f:=fun j=>(D j).hold) hi
 omega
section
variable {P:Program} {p:Pool P} {ty:TypeId} {An Nx:Goroutine → Prop} {Post:Value → World → Prop} [Payload] {C:Nat} {val:Value} {gs:Array Goroutine} {w:World} {t:Trace} {dn:Nat → Option Value} {Fx K:Nat → Prop} {D:Nat → Wk P}
theorem Pool.shut_ends (hp:p.Ok) (hC:C ≠ p.wg) (hJ:p.top - p.base < 2147483648) (h:p.Hand gs w t p.n p.n dn Fx K D) {sl:Option (Nat × Nat)} {g g':Goroutine} (hg:gs[0]? = some g) {s:Nat} {tm:Bool} (hc:w.heap[p.cn]? = some (.chan 0 #[] false s s tm))
  {es:Array Event} (hes:∀ e ∈ es,∃ wr,e=⟨.obj p.cn,wr,true⟩) (hclose:stepG P true g w=.go g' (w.setChan p.cn 0 #[] true s s tm) es) (hmw:mayWake P g=true) (hgs:g'.status=.running) {n:Nat} (hk:WT0 P ty p.wg (AtKd0 P ty p.wg An) n g')
  (hwg:WgAt ty p.wg w (((p.top - p.base:Nat):Int) * KK) 0)
  (hAn:∀ g,An g → ∃ n,WT0 P ty p.wg (AtW10 P ty p.wg An Nx) n g)
  (hfin:∀ g w',Nx g → (∀ b,b ≠ p.wg → w'.heap[b]? = (w.setChan p.cn 0 #[] true s s tm).heap[b]?) → w'.heap.size=w.heap.size → WgAt ty p.wg w' 0 0 → p.Still w' → FinW P Post p.Sh g w')
  (hcl:∀ g,p.Recv g → ∃ m g',Walk P false (p.Live ty) p.Ev m (g.finishComm P #[rcase p.cn p.zn] (.recv true) 0 p.zn false) g' ∧ p.R0 ty C val g') :
  ∃ gs' w' ops,runT P (crowd gs w sl) 0=(.next (crowd gs' w' sl),ops) ∧ WellEnds P Post (crowd gs' w' sl) (t ++ ops):=by
 have hemp:=h.empty
 have hcl':p.cn < w.heap.size:=get_zero hc
 refine ⟨_,_,_,runT_crowd_go (P:=P) (sl:=sl) (i:=0) hg (show stepG P (0 == 0) g w=_ from hclose),?_⟩
 generalize hwc:w.setChan p.cn 0 #[] true s s tm=wc at hfin
 have hne:∀ b,b ≠ p.cn → wc.heap[b]? = w.heap[b]?:=fun b hb=>by rw [← hwc];exact heap_setChan_ne hb _ _ _ _ _ _
 have hsz:wc.heap.size=w.heap.size:=by rw [← hwc];exact size_setChan _ _ _ _ _ _
 have hcc:wc.heap[p.cn]? = some (.chan 0 #[] true s s tm):=by rw [← hwc];exact heap_setChan hcl' _ _ _ _ _ _
 have hSc:¬ p.S p.cn:=fun hs=>h.keeps.kc.1 (h.keeps.fk _ (h.keeps.sf _ (.inl hs)))
 have hwg':WgAt ty p.wg wc (((p.top - p.base:Nat):Int) * KK) 0:=(hne _ (Ne.symm hp.cw.1)).trans hwg
 have hlive:p.Live ty wc:=⟨h.still.sees ⟨fun b hb=>hne b fun e=>hSc (e ▸ hb),Nat.le_of_eq hsz.symm,by rw [← hwc];exact ⟨rfl,rfl⟩⟩,_,_,hwg'⟩
 have hdf:∀ k,Deaf (t ++ MemOp.ofEvents 0 g.frame.fn g.frame.place es) k=Deaf t k:=fun k=>Deaf_quiet fun op hop d=>by
  obtain ⟨e,he,rfl⟩:=Go.Conc.mem_ofEvents hop
  obtain ⟨wr,rfl⟩:=hes e he
  cases wr <;> rfl
 -- where each worker is now
 have hall:∀ i,∃ x:WD,i+1 < p.top → (∃ y,(gs.map (woken P g g' wc))[i+1]? = some y ∧ p.Sit3 ty C val x.stage x.fuel x.deaf (if i+1 < p.base then 0 else 1) y wc) ∧ x.deaf=Deaf t (i+1) ∧ x.stage=(if i+1 < p.base then 1 else 7) ∧ ∀ c,¬ (D (i+1)).mine c:=fun i=>by
  by_cases hi:i+1 < p.top
  ·
   obtain ⟨y,hy⟩:∃ y,gs[i+1]? = some y:=⟨_,Array.getElem?_eq_getElem (by rw [h.size];exact hi)⟩
   have hh:=hemp (i+1) hi
   rcases h.sit (i+1) y (by omega) hy with ⟨hb,-,k2,hq⟩ | ⟨hb,hd,hs⟩
   ·
    refine ⟨⟨1,(D (i+1)).rank.1,Deaf t (i+1)⟩,fun _=>⟨⟨y,?_,?_⟩,rfl,by simp [hb],k2⟩⟩
    · rw [Array.getElem?_map,hy,Option.map_some,woken_quitsD hq]
    ·
     simp only [if_pos hb]
     exact .inr ⟨rfl,by omega,.quit hq⟩
   ·
    have hnb:¬ i+1 < p.base:=by omega
    rcases hs with hs | hs | hs | hs | hs | hs
    ·
     obtain ⟨-,k2,m,g1,-,hw,hr⟩:=hs
     refine ⟨⟨7,m+1,0⟩,fun _=>⟨⟨y,?_,?_⟩,hd.symm,by simp [hnb],k2⟩⟩
     · rw [Array.getElem?_map,hy,Option.map_some,woken_run (walk_running hw (hp.recv _ hr).1)]
     ·
      simp only [if_neg hnb]
      exact .inl ⟨rfl,rfl,.inl ⟨rfl,m,g1,rfl,hw,(hp.recv _ hr).1,g1,hr,(hp.recv _ hr).2⟩⟩
    ·
     obtain ⟨-,k2,g1,hr,rfl⟩:=hs
     refine ⟨⟨7,1,0⟩,fun _=>⟨⟨{ parked g1 #[rcase p.cn p.zn] (.recv true) with status:=.running },?_,?_⟩,hd.symm,by simp [hnb],k2⟩⟩
     ·
      rw [Array.getElem?_map,hy,Option.map_some]
      unfold woken
      rw [if_pos (by simp [hmw,hgs]),again_recv_closed hcc]
     ·
      simp only [if_neg hnb]
      refine .inl ⟨rfl,rfl,.inl ⟨rfl,0,_,rfl,rfl,rfl,g1,hr,fun w=>?_⟩⟩
      rw [stepG_tries]
      have e:({ g1 with status:=.running }:Goroutine)=g1:=by
       have:=(hp.recv _ hr).1
       obtain ⟨fr,cs,st,dy,off⟩:=g1
       simp only at this
       subst this
       rfl
      rw [e]
      exact (hp.recv _ hr).2 w
    · exact absurd (hs.1.symm.trans hh) (by omega)
    · exact absurd (hs.1.symm.trans hh) (by omega)
    · exact absurd (hs.1.symm.trans hh) (by omega)
    · exact absurd (hs.1.symm.trans hh) (by omega)
  · exact ⟨⟨0,0,0⟩,fun h=>absurd h hi⟩
 have hmine:∀ i c,¬ (D i).mine c:=fun i c=>by
  by_cases hi:0 < i ∧ i < p.top
  ·
   obtain ⟨k,rfl⟩:∃ k,i=k+1:=⟨i - 1,by omega⟩
   obtain ⟨x,hx⟩:=hall k
   exact (hx hi.2).2.2.2 c
  · exact h.idle i hi c
 have hsets:p.sets p.top D=p.sets p.top (noW P):=by
  have:(p.sets p.top D).mine=(p.sets p.top (noW P)).mine:=by
   funext i c
   exact propext ⟨fun hx=>absurd hx (hmine i c),fun hx=>hx.elim⟩
  have e2:p.sets p.top D={ p.sets p.top (noW P) with mine:=(p.sets p.top D).mine }:=rfl
  rw [e2,this]
 have hpast:=h.past
 rw [hsets] at hpast
 obtain ⟨E,hD⟩:=Classical.skolem.1 hall
 refine Pool.join_ends (C:=C) (val:=val) (wc:=wc) (D:=E) (pre:=fun i=>if i+1 < p.base then 0 else 1) (f0:=n) (d0:=0) (tag:=.kd) (st:=((p.top - p.base:Nat):Int) * KK) (sm:=0) hp hC hJ hAn (fun g w' h1 h2 h3 h4 h5=>hfin g w' h1 h2 (h3.trans hsz) h4 h5) hcl (get_map_set_same _ _ _ (get_zero hg)) ⟨rfl,hk⟩ ?_ hwg' ?_
 ·
  refine ⟨by simp [h.size],hlive,fun _ _=>rfl,rfl,⟨s,tm,hcc⟩,fun i hi=>?_,?_,h.norel.app fun op hop=>?_,fun i hi=>?_,fun j hj=>by rw [hdf];exact h.above j hj,fun i h1 h2 h3=>?_,fun i hi=>?_⟩
  ·
   obtain ⟨⟨y,hy,hs⟩,-⟩:=hD i hi
   exact ⟨y,by rw [Array.getElem?_setIfInBounds_ne (by omega)];exact hy,hs⟩
  ·
   rw [hsz]
   refine hpast.own0 (Pool.sets_ok hp (fun _ _ hc=>hc.elim) fun _ _ _ hc=>hc.elim) (g_ofE _ _ _ _) (fun op hop b hb=>?_) ((hdf 0).trans h.past.hears) fun op hop=>?_
   ·
    obtain ⟨e,he,rfl⟩:=Go.Conc.mem_ofEvents hop
    obtain ⟨wr,rfl⟩:=hes e he
    have hb:b.loc=.obj p.cn:=by cases wr <;> simp [MemAct.ofEvent,MemAct.touch?] at hb <;> subst hb <;> rfl
    refine ⟨?_,?_,fun _ _ hk=>hk.elim⟩
    ·
     rintro ⟨a',h4,-⟩
     rw [hb] at h4
     cases h4
    ·
     rintro ⟨a',h4,-⟩
     rw [hb] at h4
     cases h4
   ·
    obtain ⟨e,he,rfl⟩:=Go.Conc.mem_ofEvents hop
    obtain ⟨wr,rfl⟩:=hes e he
    cases wr <;> exact hcl'
  ·
   obtain ⟨e,he,rfl⟩:=Go.Conc.mem_ofEvents hop
   obtain ⟨wr,rfl⟩:=hes e he
   cases wr <;> simp [MemAct.ofEvent]
  ·
   rw [hdf]
   exact (hD i hi).2.1.symm
  ·
   have:=(hD i h2).2.2.1.trans (if_neg (by omega))
   omega
  · exact (hD i (by have:=hp.top;omega)).2.2.1.trans (if_pos hi)
 ·
  have hst:∀ i,i < p.top - 1 → (E i).stage=(if i+1 < p.base then 1 else 7):=fun i hi=>(hD i (by omega)).2.2.1
  have hV:Vc (p.top - 1) E=p.top - p.base:=by
   have e:Vc (p.top - 1) E=Go.ConcN.sumTo (p.top - 1) (fun i=>if i+1 < p.base then 0 else 1):=sumTo_congr fun i hi=>by
    simp only [Go.ConcN.cnt,hst i hi]
    by_cases hb:i+1 < p.base <;> simp [hb]
   rw [e,sum_from p.base hp.pos]
   have:=hp.top
   have:=hp.pos
   omega
  have:=Go.ConcN.Mode.opn (j:=p.top - 1) (D:=E) (tag:=.kd) trivial (fun i hi=>?_) (fun vs e=>by cases e)
  ·
   rw [hV] at this
   exact this
  ·
   rw [hst i hi]
   by_cases hb:i+1 < p.base <;> simp [hb]
end
end Go.Proofs.YtbokomeejmnnoaaDoor
