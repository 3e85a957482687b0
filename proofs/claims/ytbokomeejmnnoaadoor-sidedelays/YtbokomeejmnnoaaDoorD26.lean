/- Own facts, put together: no statement of its own. -/
import Derived.Conc.CrowdComm
import Derived.Conc.CrowdSel
import Derived.Test.YtbokomeejmnnoaaDoorD25
import Derived.Test.YtbokomeejmnnoaaDoorD18
import Derived.Test.YtbokomeejmnnoaaDoorD17

namespace Go.Proofs.YtbokomeejmnnoaaDoor
open Go.Conc
theorem choose_select (P:Program) (n:Nat) (hn:0 < n) (w:World):∃ a d,a < n ∧ (choose (.select n)).run P w=.ok a (w.at d):=by
 by_cases hf:(Question.select n).forced=true
 · exact ⟨0,w.drawn,hn,by simp only [choose,Sem.run,hf,if_true];rfl⟩
 · exact ⟨_,w.drawn+1,Nat.mod_lt _ hn,by simp only [choose,Sem.run,hf];rfl⟩
theorem choose_partner (P:Program) (m:String) (n:Nat) (hn:0 < n) (w:World):∃ a d,a < n ∧ (choose (.extern m n)).run P w=.ok a (w.at d):=by
 by_cases hf:(Question.extern m n).forced=true
 · exact ⟨0,w.drawn,hn,by simp only [choose,Sem.run,hf,if_true];rfl⟩
 ·
  refine ⟨(Question.extern m n).cut (w.tape w.drawn (.extern m n)),w.drawn+1,?_,by simp only [choose,Sem.run,hf];rfl⟩
  simp only [Question.cut]
  rw [if_neg (by omega)]
  exact Nat.mod_lt _ hn
section
variable {P:Program} {gs:Array Goroutine} {w w₁:World} {sl:Option (Nat × Nat)} {i:Nat} {g g₂:Goroutine} {es:Array Event} {cases:Array CommCase} {shape:CommShape} {blocking:Bool}
def metAt (P:Program) (gs:Array Goroutine) (i:Nat) (g₂:Goroutine) (cases:Array CommCase) (shape:CommShape) (k j jk:Nat) (cc:CommCase) (w:World) (c cap:Nat) (buf:Array Value) (closed:Bool) (s r:Nat) (tm:Bool) (sl:Option (Nat × Nat)):Stepped × Array MemOp:=
 let o:=((gs.setIfInBounds i ph).getD j default).frame
 match cc.send with
 | some v=>(.next (crowd ((finishPartner P (gs.setIfInBounds i ph) j jk v).setIfInBounds i (g₂.finishComm P cases shape k undef false)) (w.setChan c cap buf closed (s+1) (r+1) tm) sl),
   #[{ g:=i,fn:=g₂.frame.fn,pos:=g₂.frame.place,act:=.send c s },{ g:=j,fn:=o.fn,pos:=o.place,act:=.recv c r cap },{ g:=i,fn:=g₂.frame.fn,pos:=g₂.frame.place,act:=.sendDone c s },{ g:=j,fn:=o.fn,pos:=o.place,act:=.recvDone c r }])
 | none=>(.next (crowd ((finishPartner P (gs.setIfInBounds i ph) j jk undef).setIfInBounds i (g₂.finishComm P cases shape k (offeredValue (gs.setIfInBounds i ph) j jk) true)) (w.setChan c cap buf closed (s+1) (r+1) tm) sl),
   #[{ g:=j,fn:=o.fn,pos:=o.place,act:=.send c s },{ g:=i,fn:=g₂.frame.fn,pos:=g₂.frame.place,act:=.recv c r cap },{ g:=j,fn:=o.fn,pos:=o.place,act:=.sendDone c s },{ g:=i,fn:=g₂.frame.fn,pos:=g₂.frame.place,act:=.recvDone c r }])
theorem crowd_meets (hi:gs[i]? = some g) (h:stepG P (i == 0) g w=.comm g₂ cases blocking shape w₁ es) (hill:∀ cc ∈ cases,illMade w₁ cc=false)
  (hne:∃ cc ∈ cases,ways w₁ (gs.setIfInBounds i ph) cc ≠ []) (hpar:∀ cc ∈ cases,∀ y ∈ ways w₁ (gs.setIfInBounds i ph) cc,∃ j k,y=.partner j k) :
  ∃ (k:Nat) (cc:CommCase) (j jk d:Nat),cases[k]? = some cc ∧ Way.partner j jk ∈ ways w₁ (gs.setIfInBounds i ph) cc ∧
   ∀ c cap buf closed s r tm,cc.chan=.chan (some c) → w₁.heap[c]? = some (.chan cap buf closed s r tm) →
    runT P (crowd gs w sl) i=((metAt P gs i g₂ cases shape k j jk cc (w₁.at d) c cap buf closed s r tm sl).1,MemOp.ofEvents i g.frame.fn g.frame.place es ++ (metAt P gs i g₂ cases shape k j jk cc (w₁.at d) c cap buf closed s r tm sl).2):=by
 obtain ⟨ready,hready⟩:∃ ready,ready=(cases.zipIdx.toList.map fun (c,k)=>(k,c,ways w₁ (gs.setIfInBounds i ph) c)).filter fun (_,_,ws)=>!ws.isEmpty:=⟨_,rfl⟩
 have hmem:∀ k cc ws,(k,cc,ws) ∈ ready → cases[k]? = some cc ∧ ws=ways w₁ (gs.setIfInBounds i ph) cc ∧ ws ≠ []:=fun k cc ws hm=>by
  rw [hready,List.mem_filter] at hm
  obtain ⟨hm1,hm2⟩:=hm
  simp only [List.mem_map,Prod.mk.injEq,Prod.exists] at hm1
  obtain ⟨c',k',hm',rfl,rfl,rfl⟩:=hm1
  have:=Array.mem_zipIdx_iff_getElem?.1 (Array.mem_toList_iff.1 hm')
  exact ⟨by simpa using this,rfl,by simpa using hm2⟩
 have hlen:0 < ready.length:=by
  obtain ⟨cc,hcc,hw⟩:=hne
  obtain ⟨m,hlt,e⟩:=Array.mem_iff_getElem.1 hcc
  refine List.length_pos_of_mem (a:=(m,cc,ways w₁ (gs.setIfInBounds i ph) cc)) ?_
  rw [hready,List.mem_filter]
  refine ⟨List.mem_map.2 ⟨(cc,m),Array.mem_toList_iff.2 (Array.mem_zipIdx_iff_getElem?.2 (by simpa [e] using Array.getElem?_eq_getElem hlt)),rfl⟩,?_⟩
  simpa using hw
 obtain ⟨a,d,ha,hca⟩:=choose_select P ready.length hlen w₁
 obtain ⟨⟨k,cc,ws⟩,hx⟩:∃ x,ready[a]? = some x:=⟨_,List.getElem?_eq_getElem ha⟩
 obtain ⟨hk,hws,hwne⟩:=hmem k cc ws (List.mem_of_getElem? hx)
 have hwl:0 < ws.length:=List.length_pos_iff.2 hwne
 obtain ⟨b,d2,hb,hcb⟩:=choose_partner P "which waiting goroutine is the partner" ws.length hwl (w₁.at d)
 obtain ⟨y,hy⟩:∃ y,ws[b]? = some y:=⟨_,List.getElem?_eq_getElem hb⟩
 have hyw:y ∈ ways w₁ (gs.setIfInBounds i ph) cc:=hws ▸ List.mem_of_getElem? hy
 obtain ⟨j,jk,rfl⟩:=hpar cc (Array.mem_of_getElem? hk) y hyw
 refine ⟨k,cc,j,jk,d2,hk,hyw,fun c cap buf closed s r tm hcc hc=>?_⟩
 rw [runT_crowd_comm hi h]
 have hgd:ready.getD a (0,default,[])=(k,cc,ws):=by simp [List.getD,hx]
 have hgw:ws.getD b .closed=.partner j jk:=by simp [List.getD,hy]
 have hnem:ready.isEmpty=false:=by
  cases ready with
  | nil=>exact absurd hlen (Nat.lt_irrefl _)
  | cons _ _=>rfl
 have hheap:((w₁.at d).at d2).heap[c]? = some (.chan cap buf closed s r tm):=hc
 have hany:=any_ill hill
 unfold communicate
 simp only [← hready]
 rw [if_neg (by rw [Bool.not_eq_true];exact hany),if_neg (by rw [hnem];simp)]
 simp only [Sem.run_bind,hca,Result.andThen_ok,hgd,hcb,Sem.run_pure,hgw,hcc]
 rw [hheap]
 cases hs:cc.send with
 | some v=>simp only [metAt,hs];rfl
 | none=>simp only [metAt,hs];rfl
end
end Go.Proofs.YtbokomeejmnnoaaDoor

namespace Go.Proofs.YtbokomeejmnnoaaDoor
open Go.Conc
open Go.ConcN (sumTo upd sumTo_upd upd_ne upd_same)
section
variable {P:Program} {Post:Value → World → Prop}
theorem ends_by {α:Type} {r:α → α → Prop} (wf:WellFounded r) (I:α → Array Goroutine → World → Trace → Prop)
  (hat:∀ μ gs w t d,I μ gs w t → I μ gs (w.at d) t) (haw:∀ μ gs w t,I μ gs w t → ∀ g ∈ gs,awake g)
  (hrun:∀ μ gs w t,I μ gs w t → ∃ (i:Nat) (g:Goroutine),gs[i]? = some g ∧ g.status=.running)
  (hstep:∀ μ gs w t sl (i:Nat) g,I μ gs w t → gs[i]? = some g → g.status=.running → ∃ gs' w' ops,runT P (crowd gs w sl) i=(.next (crowd gs' w' sl),ops) ∧ ((∃ μ',r μ' μ ∧ I μ' gs' w' (t ++ ops)) ∨ WellEnds P Post (crowd gs' w' sl) (t ++ ops))) :
  ∀ μ gs w sl t,I μ gs w t → WellEnds P Post (crowd gs w sl) t:=by
 intro μ
 induction μ using wf.induction with
 | _ μ ih=>
  intro gs w sl t hI
  obtain ⟨i,g,d,sl',hi,hg,hst⟩:=crowd_pick (P:=P) (w:=w) (sl:=sl) (haw _ _ _ _ hI) (hrun _ _ _ _ hI)
  obtain ⟨gs',w',ops,h1,h2⟩:=hstep μ gs (w.at d) t sl' i g (hat _ _ _ _ d hI) hi hg
  refine WellEnds.next (hst.trans h1) ?_
  rcases h2 with ⟨μ',hr,hI'⟩ | h
  · exact ih μ' hr gs' w' sl' _ hI'
  · exact h
end
/-! ### a measure -/
section
variable {P:Program}
def Near (P:Program) (x' x:Nat × Option (GoodSt P)):Prop:=x'.1 < x.1 ∨ (x'.1=x.1 ∧ ∃ a b,x'.2=some a ∧ x.2=some b ∧ LStep P b.1 a.1)
theorem wf_near:WellFounded (Near P):=by
 have h1:WellFounded fun (y x:Option (GoodSt P))=>∃ a b,y=some a ∧ x=some b ∧ LStep P b.1 a.1:=by
  refine ⟨fun x=>?_⟩
  cases x with
  | none=>exact ⟨_,fun y ⟨a,b,_,h,_⟩=>by cases h⟩
  | some x=>
   induction x using (wf_good P).induction with
   | _ x ih=>
    refine ⟨_,fun y ⟨a,b,h2,h3,h4⟩=>?_⟩
    cases h3
    subst h2
    exact ih a h4
 refine Subrelation.wf (r:=Prod.Lex (· < ·) fun (y x:Option (GoodSt P))=>∃ a b,y=some a ∧ x=some b ∧ LStep P b.1 a.1) ?_ (Prod.lex Nat.lt_wfRel ⟨_,h1⟩).wf
 rintro ⟨a',x'⟩ ⟨a,x⟩ (h | ⟨h,h'⟩)
 · exact Prod.Lex.left _ _ h
 ·
  dsimp only at h h'
  subst h
  exact Prod.Lex.right _ h'
end
/-! ### goroutine 0's own walk -/
structure Sees (K:Nat → Prop) (w w1:World):Prop where
 keep:∀ b,K b → w1.heap[b]? = w.heap[b]?
 size:w.heap.size ≤ w1.heap.size
 out:w1.os=w.os ∧ w1.output=w.output
theorem Sees.refl (K:Nat → Prop) (w:World):Sees K w w:=⟨fun _ _=>rfl,Nat.le_refl _,rfl,rfl⟩
theorem Sees.trans {K:Nat → Prop} {w w1 w2:World} (h:Sees K w w1) (h':Sees K w1 w2):Sees K w w2:=⟨fun b hb=>(h'.1 b hb).trans (h.1 b hb),Nat.le_trans h.2 h'.2,h'.out.1.trans h.out.1,h'.out.2.trans h.out.2⟩
theorem Sees.less {K K':Nat → Prop} {w w1:World} (h:Sees K w w1) (hk:∀ b,K' b → K b):Sees K' w w1:=⟨fun b hb=>h.1 b (hk b hb),h.2,h.out⟩
theorem Sees.cell {K:Nat → Prop} {w w1:World} (h:Sees K w w1) {a:Addr} (ha:K a.block):w1.cell? a=w.cell? a:=by simp [World.cell?,h.1 _ ha]
theorem sees_at (K:Nat → Prop) (w:World) (d:Nat):Sees K w (w.at d):=⟨fun _ _=>rfl,Nat.le_refl _,rfl,rfl⟩
theorem sees_setChan (K:Nat → Prop) (w:World) {c:Nat} (hc:¬ K c) (cap:Nat) (buf:Array Value) (cl:Bool) (s r:Nat) (tm:Bool):Sees K w (w.setChan c cap buf cl s r tm):=
 ⟨fun b hb=>by
  have:c ≠ b:=fun e=>hc (e ▸ hb)
  simp [World.setChan,Array.getElem?_setIfInBounds_ne this],by simp [World.setChan],rfl,rfl⟩
def grown (K:Nat → Prop) (w w':World):Nat → Prop:=fun b=>K b ∨ (w.heap.size ≤ b ∧ b < w'.heap.size)
structure Own0 (Fx Sh K:Nat → Prop) (w w':World) (es:Array Event):Prop where
 size:w.heap.size ≤ w'.heap.size
 stand:∀ b,b < w.heap.size → (Fx b ∨ ¬ K b) → w'.heap[b]? = w.heap[b]?
 out:w'.os=w.os ∧ w'.output=w.output
 evs:∀ e ∈ es,∃ a wr,e=⟨.cell a,wr,false⟩ ∧ grown K w w' a.block ∧ a.block < w'.heap.size ∧ (wr=true → ¬ Fx a.block) ∧ ¬ Sh a.block
theorem Own0.idle (Fx Sh K:Nat → Prop) (w:World):Own0 Fx Sh K w w #[]:=⟨Nat.le_refl _,fun _ _ _=>rfl,⟨rfl,rfl⟩,by simp⟩
def Goes0 (P:Program) (Fx Sh:Nat → Prop) (Stop:(Nat → Prop) → Goroutine → World → Prop):Nat → (Nat → Prop) → Goroutine → World → Prop
 | 0,K,g,w=>∀ w1,Sees K w w1 → Stop K g w1
 | n+1,K,g,w=>(∀ w1,Sees K w w1 → Stop K g w1) ∨ (g.status=.running ∧ ∀ w1,Sees K w w1 → ∃ g' w' es,stepG P true g w1=.go g' w' es ∧ Own0 Fx Sh K w1 w' es ∧ Goes0 P Fx Sh Stop n (grown K w1 w') g' w')
section
variable {P:Program} {Fx Sh:Nat → Prop} {Stop:(Nat → Prop) → Goroutine → World → Prop}
theorem Goes0.rely {n:Nat} {K:Nat → Prop} {g:Goroutine} {w w1:World} (h:Goes0 P Fx Sh Stop n K g w) (hs:Sees K w w1):Goes0 P Fx Sh Stop n K g w1:=by
 cases n with
 | zero=>exact fun w2 h2=>h w2 (hs.trans h2)
 | succ n=>
  rcases h with h | ⟨hr,h⟩
  · exact .inl fun w2 h2=>h w2 (hs.trans h2)
  · exact .inr ⟨hr,fun w2 h2=>h w2 (hs.trans h2)⟩
theorem Goes0.cases {n:Nat} {K:Nat → Prop} {g:Goroutine} {w:World} (h:Goes0 P Fx Sh Stop n K g w) :
  Stop K g w ∨ ∃ n',n=n' + 1 ∧ g.status=.running ∧ ∃ g' w' es,stepG P true g w=.go g' w' es ∧ Own0 Fx Sh K w w' es ∧ Goes0 P Fx Sh Stop n' (grown K w w') g' w':=by
 cases n with
 | zero=>exact .inl (h w (Sees.refl K w))
 | succ n=>
  rcases h with h | ⟨hr,h⟩
  · exact .inl (h w (Sees.refl K w))
  · exact .inr ⟨n,rfl,hr,h w (Sees.refl K w)⟩
theorem Goes0.stop {n:Nat} {K:Nat → Prop} {g:Goroutine} {w:World} (h:∀ w1,Sees K w w1 → Stop K g w1):Goes0 P Fx Sh Stop n K g w:=by
 cases n with
 | zero=>exact h
 | succ n=>exact .inl h
theorem Goes0.running {n:Nat} {K:Nat → Prop} {g:Goroutine} {w:World} (hS:∀ K g w,Stop K g w → g.status=.running) (h:Goes0 P Fx Sh Stop n K g w):g.status=.running:=by
 rcases h.cases with h | ⟨_,_,h,_⟩
 · exact hS _ _ _ h
 · exact h
theorem grown_same (K:Nat → Prop) {w w':World} (h:w'.heap.size=w.heap.size):grown K w w'=K:=by
 funext b
 simp only [grown,eq_iff_iff]
 constructor
 ·
  rintro (h1 | ⟨h1,h2⟩)
  · exact h1
  · omega
 · exact .inl
theorem Goes0.walk {F:World → Prop} {Ev:Event → Prop} {K:Nat → Prop} {m:Nat} (hF:∀ w w1,F w → Sees K w w1 → F w1) (hE:∀ e,Ev e → ∃ a,e=⟨.cell a,false,false⟩ ∧ K a.block ∧ ¬ Sh a.block) {g':Goroutine} :
  ∀ {n:Nat} {g:Goroutine} {w:World},F w → (∀ b,K b → b < w.heap.size) → Walk P true F Ev n g g' → (∀ w1,Sees K w w1 → Goes0 P Fx Sh Stop m K g' w1) → Goes0 P Fx Sh Stop (n+m) K g w
 | 0,g,w,_,_,hw,hk=>by
  cases hw
  rw [Nat.zero_add]
  exact hk w (Sees.refl K w)
 | n+1,g,w,h0,hb,⟨hs,x,es,he,hst,hw⟩,hk=>by
  rw [Nat.add_right_comm]
  refine .inr ⟨hs,fun w1 h1=>⟨x,w1,es,hst w1 (hF _ _ h0 h1),⟨Nat.le_refl _,fun _ _ _=>rfl,⟨rfl,rfl⟩,fun e hx=>?_⟩,?_⟩⟩
  ·
   obtain ⟨a,e1,e2,e3⟩:=hE e (he e hx)
   exact ⟨a,false,e1,.inl e2,Nat.lt_of_lt_of_le (hb _ e2) h1.2,(fun h=>by cases h),e3⟩
  ·
   rw [grown_same K rfl]
   exact Goes0.walk hF hE (hF _ _ h0 h1) (fun b hb'=>Nat.lt_of_lt_of_le (hb b hb') h1.2) hw fun w2 h2=>hk w2 (h1.trans h2)
end
/-! ### the return of a call -/
theorem stepG_back {P:Program} {main:Bool} {fr c:Frame} {cs:List Frame} {w w':World} {fn:Func} {v:Value} {evs:Array Event} (hm:fr.mode=.returning) (hd:fr.defers=[]) (hn:fr.kind=.normal) (hf:P.funcs[fr.fn]? = some fn)
  (hr:(results fn fr.tmps).run P w=.ok v w') (he:∀ es,(results fn fr.tmps).events P w es=es ++ evs):stepG P main (G fr (c :: cs)) w=.go (G (c.finish v) cs) w' (seen P fr.fn evs):=by
 have:=he #[]
 rw [Array.empty_append] at this
 simp [G,stepG,unwind,doReturn,hn,hd,hm,hf,hr,this,GStep.after]
end Go.Proofs.YtbokomeejmnnoaaDoor

namespace Go.Proofs.YtbokomeejmnnoaaDoor
open Go.Conc
open Go.ConcN (sumTo upd sumTo_upd upd_ne upd_same sumTo_congr)
structure Wk (P:Program) where
 hold:Nat
 rank:Nat × Option (GoodSt P)
 mine:Nat → Prop
 num:Nat
structure Pool (P:Program) where
 (cn cr:Nat)
 (zn zr z0 z1:Value)
 (n base top:Nat)
 S:Nat → Prop
 R:Nat → Prop
 T:Nat → Nat
 Sh:Nat → Prop
 wg:Nat
 f:FuncId
 args:Nat → Array Value
 Fb:Nat → Bool
 Gb:Nat → Bool
 Post:Nat → Ending → World → Prop
 val:Nat → Value → Value
 Recv:Goroutine → Prop
 Caller:Nat → Frame → Prop
 bot:List Frame
 Send:Value → Goroutine → Prop
 w0:World
 Sel:Nat → Nat → (Nat → Option Value) → (Nat → Prop) → (Nat → Prop) → Goroutine → World → Prop
 Shut:(Nat → Option Value) → (Nat → Prop) → (Nat → Prop) → Goroutine → World → Prop
section
variable {P:Program}
structure Pool.Still (p:Pool P) (w:World):Prop where
 keep:∀ b,p.S b → w.heap[b]? = p.w0.heap[b]?
 size:p.w0.heap.size ≤ w.heap.size
 out:w.os=p.w0.os ∧ w.output=p.w0.output
def Pool.Ev (p:Pool P) (e:Event):Prop:=∃ a,e=⟨.cell a,false,false⟩ ∧ p.S a.block
def Pool.cases (p:Pool P) (a:Nat):Array CommCase:=#[⟨if a < p.n then .chan (some p.cn) else .chan none,some (.int .i64 a),p.z0⟩,rcase p.cr p.z1]
def Pool.Next (p:Pool P) (a b:Nat) (dn:Nat → Option Value) (Fx K:Nat → Prop) (g:Goroutine) (w:World):Prop:=(b < p.n ∧ p.Sel a b dn Fx K g w) ∨ (b=p.n ∧ p.Shut dn Fx K g w)
def Pool.Fine (p:Pool P) (i:Nat) (v:Value):Prop:=∃ v0 w r,p.Post i (.returned v0) w ∧ VR (inF p.Fb) r v0 v
def Pool.Made (p:Pool P) (i:Nat) (v:Value) (Z:Nat → Prop) (w:World):Prop:=∃ (x:World) (r:Ren) (L:Nat) (v0:Value) (T t t':Nat → Question → Nat),
 (∀ a b,r.rel a b → Z b) ∧ p.Post i (.returned v0) (taped x T) ∧ VR (inF p.Fb) r v0 v ∧ WR (inF p.Fb) L r (taped x t) (taped w t') ∧ ∀ g,p.Gb g=true → r.rel g g
structure Pool.Keeps (p:Pool P) (Fx K:Nat → Prop) (w:World):Prop where
 fk:∀ b,Fx b → K b
 sf:∀ b,p.S b ∨ p.Sh b → Fx b
 kc:¬ K p.cn ∧ ¬ K p.cr
 kl:∀ b,K b → b < w.heap.size
structure Pool.Ok (p:Pool P):Prop where
 ne:p.cn ≠ p.cr
 pos:0 < p.base
 top:p.base ≤ p.top
 slow:∀ b,p.S b → b < p.w0.heap.size
 rs:∀ b,p.R b → p.S b
 shlow:∀ b,p.Sh b → b < p.w0.heap.size
 parted:∀ b,p.S b → ¬ p.Sh b
 shwg:p.Sh p.wg
 clow:p.cn < p.w0.heap.size ∧ p.cr < p.w0.heap.size
 cw:p.cn ≠ p.wg ∧ p.cr ≠ p.wg
 fns:FnsOk P p.Fb p.Gb
 glob:P.globals.size ≤ p.w0.heap.size
 begins:∀ i w base,i < p.n → p.Still w → Along P p.Fb p.Gb w.heap.size (start P p.f (p.args i) (cold p.T w)) base (start P p.f (p.args i) (cold p.T w)) (Ren.on p.R) (Frame.enter P p.f (p.args i) .normal) base w
 ends:∀ i w,i < p.n → p.Still w → Ends P p.f (p.args i) (cold p.T w) (p.Post i)
 recv:∀ g,p.Recv g → g.status=.running ∧ ∀ w,stepG P false g w=.comm g #[rcase p.cn p.zn] true (.recv true) w #[]
 got:∀ g i,p.Recv g → i < p.n → ∃ m c,p.Caller i c ∧ Walk P false p.Still p.Ev (m+1) (g.finishComm P #[rcase p.cn p.zn] (.recv true) 0 (.int .i64 i) true) (G (Frame.enter P p.f (p.args i) .normal) (c :: p.bot))
 made:∀ i c v,p.Caller i c → i < p.n → p.Fine i v → ∃ m g',m ≤ 50 ∧ Walk P false p.Still p.Ev m (G (c.finish v) p.bot) g' ∧ p.Send (p.val i v) g'
 send:∀ x g,p.Send x g → g.status=.running ∧ ∀ w,stepG P false g w=.comm g #[scase p.cr x p.zr] true .send w #[]
 sent:∀ x g,p.Send x g → ∃ m g',Walk P false p.Still p.Ev m (g.finishComm P #[scase p.cr x p.zr] .send 0 undef false) g' ∧ p.Recv g'
 sel:∀ a b dn Fx K g w,p.Sel a b dn Fx K g w → g.status=.running ∧ ∀ w,stepG P true g w=.comm g (p.cases a) true .select w #[]
 shut:∀ dn Fx K g w,p.Shut dn Fx K g w → g.status=.running
 sees:∀ a b dn Fx K g w w1,p.Sel a b dn Fx K g w → Sees K w w1 → p.Sel a b dn Fx K g w1
 more:∀ a b dn Fx K (N:Nat → Prop) g w,p.Sel a b dn Fx K g w → (∀ c,N c → ¬ K c) → p.Sel a b dn (fun c=>Fx c ∨ N c) (fun c=>K c ∨ N c) g w
 handed:∀ a b dn Fx K g w,p.Sel a b dn Fx K g w → p.Keeps Fx K w → a < p.n → b < p.n → ∃ m,Goes0 P Fx p.Sh (p.Next (a+1) b dn Fx) m K (g.finishComm P (p.cases a) .select (0:Nat) undef false) w
 took:∀ a b dn Fx K g w i v,p.Sel a b dn Fx K g w → p.Keeps Fx K w → b < p.n → i < p.n → p.Fine i v → ∃ m,Goes0 P Fx p.Sh (p.Next a (b+1) (upd dn i (some v)) Fx) m K (g.finishComm P (p.cases a) .select (1:Nat) (p.val i v) true) w
variable {p:Pool P}
theorem Pool.Made.fine {i:Nat} {v:Value} {Z:Nat → Prop} {w:World} (h:p.Made i v Z w):p.Fine i v:=by
 obtain ⟨x,r,L,v0,T,t,t',-,h1,h2,-⟩:=h
 exact ⟨v0,_,r,h1,h2⟩
theorem Pool.Made.stay {i:Nat} {v:Value} {Z Z':Nat → Prop} {w w1:World} (h:p.Made i v Z w) (hz:∀ b,Z b → Z' b) (hs:Sees Z w w1):p.Made i v Z' w1:=by
 obtain ⟨x,r,L,v0,T,t,t',h0,h1,h2,h3,h4⟩:=h
 refine ⟨x,r,L,v0,T,t,fun j q=>t (j - w1.drawn+x.drawn) q,fun a b hab=>hz b (h0 a b hab),h1,h2,⟨fun a b hab=>?_,h3.low,h3.base,h3.high,h3.size,Nat.le_trans h3.size' hs.2,fun j q=>?_⟩,h4⟩
 ·
  obtain ⟨o,o',k1,k2,k3⟩:=h3.obj a b hab
  exact ⟨o,o',k1,(hs.1 b (h0 a b hab)).trans k2,k3⟩
 ·
  show t (x.drawn+j) q=t (w1.drawn+j - w1.drawn+x.drawn) q
  rw [Nat.add_sub_cancel_left,Nat.add_comm]
theorem Pool.Still.sees {w w1:World} (h:p.Still w) (hs:Sees p.S w w1):p.Still w1:=⟨fun b hb=>(hs.1 b hb).trans (h.1 b hb),Nat.le_trans h.2 hs.2,hs.out.1.trans h.out.1,hs.out.2.trans h.out.2⟩
/-! ### where a worker is -/
def Pool.SitA (p:Pool P) (x:Wk P) (g:Goroutine):Prop:=x.hold=0 ∧ (∀ b,¬ x.mine b) ∧ ∃ m g',x.rank.1=m+1 ∧ Walk P false p.Still p.Ev m g g' ∧ p.Recv g'
def Pool.SitB (p:Pool P) (x:Wk P) (g:Goroutine):Prop:=x.hold=0 ∧ (∀ b,¬ x.mine b) ∧ ∃ g',p.Recv g' ∧ g=parked g' #[rcase p.cn p.zn] (.recv true)
def Pool.SitC (p:Pool P) (x:Wk P) (g:Goroutine):Prop:=x.hold=1 ∧ x.num < p.n ∧ (∀ b,¬ x.mine b) ∧ ∃ m c,x.rank.1=m+61 ∧ p.Caller x.num c ∧ Walk P false p.Still p.Ev (m+1) g (G (Frame.enter P p.f (p.args x.num) .normal) (c :: p.bot))
def Pool.SitD (p:Pool P) (x:Wk P) (g:Goroutine) (w:World):Prop:=x.hold=1 ∧ x.num < p.n ∧ ∃ (c:Frame) (w1:World) (y:GoodSt P) (r:Ren) (fr:Frame) (cs:List Frame),p.Caller x.num c ∧ p.Still w1 ∧ x.rank=(60,some y) ∧
 Along P p.Fb p.Gb w1.heap.size (start P p.f (p.args x.num) (cold p.T w1)) (c :: p.bot) y.1 r fr cs w ∧ g=G fr cs ∧ (∀ b,x.mine b ↔ ∃ a,w1.heap.size ≤ a ∧ r.rel a b) ∧ ∀ a b,r.rel a b → a < w1.heap.size → p.S b
def Pool.SitE (p:Pool P) (x:Wk P) (g:Goroutine) (w:World):Prop:=x.hold=1 ∧ x.num < p.n ∧ ∃ m g' v,x.rank.1=m+1 ∧ Walk P false p.Still p.Ev m g g' ∧ p.Send (p.val x.num v) g' ∧ p.Made x.num v (fun b=>p.S b ∨ x.mine b) w
def Pool.SitF (p:Pool P) (x:Wk P) (g:Goroutine) (w:World):Prop:=x.hold=1 ∧ x.num < p.n ∧ ∃ g' v,p.Send (p.val x.num v) g' ∧ g=parked g' #[scase p.cr (p.val x.num v) p.zr] .send ∧ p.Made x.num v (fun b=>p.S b ∨ x.mine b) w
def Pool.Sit (p:Pool P) (x:Wk P) (i:Nat) (g:Goroutine) (w:World) (d:Nat):Prop:=
 (i < p.base ∧ x.hold=0 ∧ (∀ b,¬ x.mine b) ∧ QuitsD P x.rank.1 d g) ∨ (p.base ≤ i ∧ d=0 ∧ (p.SitA x g ∨ p.SitB x g ∨ p.SitC x g ∨ p.SitD x g w ∨ p.SitE x g w ∨ p.SitF x g w))
theorem Pool.Sit.stay {x:Wk P} {i:Nat} {g:Goroutine} {w w1:World} {d:Nat} (h:p.Sit x i g w d) (hs:Sees (fun b=>p.S b ∨ x.mine b) w w1):p.Sit x i g w1 d:=by
 rcases h with h | ⟨h1,h2,h | h | h | h | h | h⟩
 · exact .inl h
 · exact .inr ⟨h1,h2,.inl h⟩
 · exact .inr ⟨h1,h2,.inr (.inl h)⟩
 · exact .inr ⟨h1,h2,.inr (.inr (.inl h))⟩
 ·
  obtain ⟨k1,k2,c,wo,y,r,fr,cs,k3,k4,k5,k6,k7,k8,k9⟩:=h
  refine .inr ⟨h1,h2,.inr (.inr (.inr (.inl ⟨k1,k2,c,wo,y,r,fr,cs,k3,k4,k5,k6.stay hs.2 fun a b hab=>hs.1 b ?_,k7,k8,k9⟩)))⟩
  rcases Nat.lt_or_ge a wo.heap.size with hlt | hge
  · exact .inl (k9 a b hab hlt)
  · exact .inr ((k8 b).2 ⟨a,hge,hab⟩)
 ·
  obtain ⟨k1,k2,m,g',v,k3,k4,k5,k6⟩:=h
  exact .inr ⟨h1,h2,.inr (.inr (.inr (.inr (.inl ⟨k1,k2,m,g',v,k3,k4,k5,k6.stay (fun _=>id) hs⟩))))⟩
 ·
  obtain ⟨k1,k2,g',v,k3,k4,k6⟩:=h
  exact .inr ⟨h1,h2,.inr (.inr (.inr (.inr (.inr ⟨k1,k2,g',v,k3,k4,k6.stay (fun _=>id) hs⟩))))⟩
theorem walk_running {main:Bool} {F:World → Prop} {Ev:Event → Prop} {m:Nat} {g g':Goroutine} (h:Walk P main F Ev m g g') (hg:g'.status=.running):g.status=.running:=by
 cases m with
 | zero=>cases h;exact hg
 | succ m=>exact h.1
theorem Pool.Sit.status (hp:p.Ok) {x:Wk P} {i:Nat} {g:Goroutine} {w:World} {d:Nat} (h:p.Sit x i g w d) :
  (g.status=.running ∨ g.status=.finished) ∨ (p.base ≤ i ∧ (p.SitB x g ∨ p.SitF x g w)):=by
 rcases h with ⟨-,-,-,h⟩ | ⟨h1,h2,h | h | h | h | h | h⟩
 · exact .inl h.status
 ·
  obtain ⟨-,-,m,g',-,k,kr⟩:=h
  exact .inl (.inl (walk_running k (hp.recv _ kr).1))
 · exact .inr ⟨h1,.inl h⟩
 ·
  obtain ⟨-,-,-,m,c,-,-,k⟩:=h
  exact .inl (.inl k.1)
 ·
  obtain ⟨-,-,c,wo,y,r,fr,cs,-,-,-,-,rfl,-⟩:=h
  exact .inl (.inl rfl)
 ·
  obtain ⟨-,-,m,g',v,-,k,kr,-⟩:=h
  exact .inl (.inl (walk_running k (hp.send _ _ kr).1))
 · exact .inr ⟨h1,.inr h⟩
theorem Pool.Sit.woken (hp:p.Ok) {x:Wk P} {i:Nat} {g:Goroutine} {w w':World} {d:Nat} (h:p.Sit x i g w d) (hn:∃ s tm,w'.heap[p.cn]? = some (.chan 0 #[] false s s tm)) (hr:∃ s tm,w'.heap[p.cr]? = some (.chan 0 #[] false s s tm)) (a a':Goroutine):woken P a a' w' g=g:=by
 obtain ⟨s,tm,hn⟩:=hn
 obtain ⟨s',tm',hr⟩:=hr
 rcases h.status hp with h | ⟨-,⟨-,-,g',-,rfl⟩ | ⟨-,-,g',v,-,rfl,-⟩⟩
 ·
  unfold Go.Conc.woken
  split
  · exact again_running _ h
  · rfl
 · exact woken_recv_open a a' hn
 · exact woken_send_open a a' hr
theorem Pool.Sit.awake (hp:p.Ok) {x:Wk P} {i:Nat} {g:Goroutine} {w:World} {d:Nat} (h:p.Sit x i g w d):awake g:=by
 rcases h.status hp with (h | h) | ⟨-,⟨-,-,g',-,rfl⟩ | ⟨-,-,g',v,-,rfl,-⟩⟩
 · exact fun t=>by rw [h];simp
 · exact fun t=>by rw [h];simp
 · exact fun t=>by simp [parked]
 · exact fun t=>by simp [parked]
theorem Pool.Sit.offers (hp:p.Ok) {x:Wk P} {i:Nat} {g:Goroutine} {w:World} {d:Nat} (h:p.Sit x i g w d) :
  offersAt g p.cn true=[] ∧ offersAt g p.cr false=[] ∧ (∀ k,k ∈ offersAt g p.cn false → k=0 ∧ p.base ≤ i ∧ p.SitB x g) ∧ ∀ k,k ∈ offersAt g p.cr true → k=0 ∧ p.base ≤ i ∧ p.SitF x g w:=by
 rcases h.status hp with h | ⟨h1,hB | hF⟩
 ·
  have hb:g.status ≠ .blocked:=by rcases h with h | h <;> rw [h] <;> simp
  refine ⟨offersAt_of_not_blocked hb _ _,offersAt_of_not_blocked hb _ _,fun k hk=>?_,fun k hk=>?_⟩ <;> (rw [offersAt_of_not_blocked hb] at hk;cases hk)
 ·
  obtain ⟨-,-,g',-,rfl⟩:=id hB
  refine ⟨offersAt_parked_recv' _ _ _ _ _,by rw [offersAt_parked_recv,if_neg hp.ne],fun k hk=>?_,fun k hk=>?_⟩
  ·
   rw [offersAt_parked_recv,if_pos rfl,List.mem_singleton] at hk
   exact ⟨hk,h1,hB⟩
  · rw [offersAt_parked_recv'] at hk;cases hk
 ·
  obtain ⟨-,-,g',v,-,rfl,-⟩:=id hF
  refine ⟨by rw [offersAt_parked_send,if_neg (Ne.symm hp.ne)],offersAt_parked_send' _ _ _ _ _ _,fun k hk=>?_,fun k hk=>?_⟩
  · rw [offersAt_parked_send'] at hk;cases hk
  ·
   rw [offersAt_parked_send,if_pos rfl,List.mem_singleton] at hk
   exact ⟨hk,h1,hF⟩
/-! ### all of them -/
def Pool.sets (p:Pool P) (top:Nat) (D:Nat → Wk P):Sets:=⟨fun l=>∃ a,l=.cell a ∧ p.S a.block,shunOf p.Sh,fun l=>∃ a,l=.cell a ∧ a.block=p.wg,fun i=>p.base ≤ i ∧ i < top,fun i b=>(D i).mine b⟩
structure Pool.Hand (p:Pool P) (gs:Array Goroutine) (w:World) (t:Trace) (a b:Nat) (dn:Nat → Option Value) (Fx K:Nat → Prop) (D:Nat → Wk P):Prop where
 size:gs.size=p.top
 still:p.Still w
 chn:∃ s tm,w.heap[p.cn]? = some (.chan 0 #[] false s s tm)
 chr:∃ s tm,w.heap[p.cr]? = some (.chan 0 #[] false s s tm)
 keeps:p.Keeps Fx K w
 sit:∀ (i:Nat) g,0 < i → gs[i]? = some g → p.Sit (D i) i g w (Deaf t i)
 own:∀ i c,(D i).mine c → ¬ K c ∧ c < w.heap.size ∧ p.w0.heap.size ≤ c
 one:∀ i j c,(D i).mine c → (D j).mine c → i=j
 zero:(D 0).hold=0
 idle:∀ i,¬ (0 < i ∧ i < p.top) → ∀ c,¬ (D i).mine c
 above:∀ j,p.top ≤ j → Deaf t j=0
 past:PastP (p.sets p.top D) w.heap.size 0 t
 norel:NoRelease ⟨p.wg,0,none⟩ t
 cover:∀ i,i < a → dn i ≠ none ∨ ∃ j,p.base ≤ j ∧ j < p.top ∧ (D j).hold=1 ∧ (D j).num=i
 count:b+Go.ConcN.sumTo p.top (fun j=>(D j).hold)=a
 an:a ≤ p.n
 res:∀ i v,dn i=some v → i < p.n ∧ p.Made i v (fun c=>Fx c ∧ ¬ p.Sh c) w
theorem Pool.sets_ok (hp:p.Ok) {top:Nat} {D:Nat → Wk P} (own:∀ i c,(D i).mine c → p.w0.heap.size ≤ c) (one:∀ i j c,(D i).mine c → (D j).mine c → i=j):(p.sets top D).Ok:=by
 refine ⟨fun h=>?_,one,fun g b l h1 h2=>?_,fun g b l h1 h2=>?_,?_,?_,?_⟩
 ·
  have:=h.1
  have:=hp.pos
  omega
 ·
  rintro ⟨a,rfl,h3⟩
  have h2:a.block=b:=h2
  have:=own g b h1
  have:=hp.slow _ h3
  omega
 ·
  rintro ⟨a,rfl,h3⟩
  have h2:a.block=b:=h2
  have:=own g b h1
  have:=hp.shlow _ h3
  omega
 ·
  rintro l ⟨a,rfl,h1⟩ ⟨a',h2,h3⟩
  cases h2
  exact hp.parted _ h1 h3
 ·
  rintro l ⟨a,rfl,h1⟩
  exact ⟨a,rfl,h1 ▸ hp.shwg⟩
 ·
  rintro l ⟨a,rfl,-⟩
  rfl
theorem idle_upd {top i:Nat} {D:Nat → Wk P} {x:Wk P} (h:∀ i,¬ (0 < i ∧ i < top) → ∀ c,¬ (D i).mine c) (hi:0 < i ∧ i < top):∀ j,¬ (0 < j ∧ j < top) → ∀ c,¬ (upd D i x j).mine c:=fun j hj=>by
 have e:j ≠ i:=fun e=>hj (e ▸ hi)
 rw [upd_ne D _ e]
 exact h j hj
theorem Pool.Hand.ok (hp:p.Ok) {gs:Array Goroutine} {w:World} {t:Trace} {a b:Nat} {dn:Nat → Option Value} {Fx K:Nat → Prop} {D:Nat → Wk P} (h:p.Hand gs w t a b dn Fx K D):(p.sets p.top D).Ok:=
 Pool.sets_ok hp (fun i c hc=>(h.own i c hc).2.2) h.one
end
end Go.Proofs.YtbokomeejmnnoaaDoor
