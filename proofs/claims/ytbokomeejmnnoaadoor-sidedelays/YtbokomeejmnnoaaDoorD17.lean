/- Own facts, put together: no statement of its own. -/
import Derived.Test.YtbokomeejmnnoaaDoorD16
import Derived.Test.YtbokomeejmnnoaaDoorProg
import Derived.Test.YtbokomeejmnnoaaDoorD08
import Derived.Test.YtbokomeejmnnoaaDoorD05
import Derived.Test.YtbokomeejmnnoaaDoorD07
import Derived.Test.YtbokomeejmnnoaaDoorD03
set_option maxHeartbeats 1000000

namespace Go.Proofs.YtbokomeejmnnoaaDoor
open Go.Conc
section
variable {P:Program} {Fb Gb:Nat → Bool} {L:Nat} {f:FuncId} {args:Array Value} {w0:World} {Post:Ending → World → Prop}
def Came (P:Program) (x0 x:LnSt):Prop:=∃ (n:Nat) (c:Nat → LnSt),c 0=x0 ∧ c n=x ∧ ∀ k,k < n → LStep P (c k) (c (k+1))
theorem Came.refl (x:LnSt):Came P x x:=⟨0,fun _=>x,rfl,rfl,fun _ hk=>absurd hk (Nat.not_lt_zero _)⟩
theorem Came.next {x0 x y:LnSt} (h:Came P x0 x) (hs:LStep P x y):Came P x0 y:=by
 obtain ⟨n,c,h0,rfl,hc⟩:=h
 refine ⟨n+1,fun k=>if k ≤ n then c k else y,by simp [h0],by dsimp only;rw [if_neg (by omega)],fun k hk=>?_⟩
 by_cases e:k < n
 ·
  dsimp only
  rw [if_pos (by omega),if_pos (by omega)]
  exact hc k e
 ·
  obtain rfl:k=n:=by omega
  dsimp only
  rw [if_pos (by omega),if_neg (by omega)]
  exact hs
theorem Came.ok (hF:FnsOk P Fb Gb) (hG:P.globals.size ≤ L) {x0 x:LnSt} (h:Came P x0 x) (h0:OkSt P Fb Gb L x0):OkSt P Fb Gb L x:=by
 obtain ⟨n,c,rfl,rfl,hc⟩:=h
 have:∀ k,k ≤ n → OkSt P Fb Gb L (c k):=fun k hk=>by
  induction k with
  | zero=>exact h0
  | succ k ih=>exact ok_step hF hG (ih (by omega)) (hc k (by omega))
 exact this n (Nat.le_refl _)
theorem Came.run (hF:FnsOk P Fb Gb) (hG:P.globals.size ≤ L) {x0 x:LnSt} (h:Came P x0 x) (h0:OkSt P Fb Gb L x0) (u:Nat → Question → Nat) :
  ∃ (n:Nat) (T:Nat → Question → Nat),(∀ j q,x.2.drawn ≤ j → T j q=u j q) ∧ runN P n (lone x0.1.1 x0.1.2 (taped x0.2 T))=.next (lone x.1.1 x.1.2 (taped x.2 T)) ∧
   ∀ m,m < n → ∃ y:LnSt,¬ Stopped y ∧ runN P m (lone x0.1.1 x0.1.2 (taped x0.2 T))=.next (lone y.1.1 y.1.2 (taped y.2 T)):=by
 obtain ⟨n,c,rfl,rfl,hc⟩:=h
 have hok:∀ k,k ≤ n → OkSt P Fb Gb L (c k):=fun k hk=>by
  induction k with
  | zero=>exact h0
  | succ k ih=>exact ok_step hF hG (ih (by omega)) (hc k (by omega))
 have ht:∀ k,∃ t,k < n → (own P (c k).1.1 (c k).1.2).run P (taped (c k).2 t)=.ok (c (k+1)).1 (c (k+1)).2:=fun k=>by
  by_cases hk:k < n
  ·
   obtain ⟨t,h⟩:=(hc k hk).2
   exact ⟨t,fun _=>h⟩
  · exact ⟨u,fun h=>absurd h hk⟩
 obtain ⟨T,hT,hu⟩:=tapes_join_to n (fun k=>(c k).2.drawn) (fun k hk=>(ok_retape hF hG (hok k (by omega)) (hc k hk).1 ((ht k).choose_spec hk)).2.1) (fun k=>(ht k).choose) u
 have one:∀ m,m ≤ n → runN P m (lone (c 0).1.1 (c 0).1.2 (taped (c 0).2 T))=.next (lone (c m).1.1 (c m).1.2 (taped (c m).2 T)):=fun m hm=>
  (chain_run (c:=c) (T:=T) hF hG h0 m fun k hk=>⟨hc k (by omega),(ok_retape hF hG (hok k (by omega)) (hc k (by omega)).1 ((ht k).choose_spec (by omega))).2.2 T (hT k (by omega))⟩).2
 exact ⟨n,T,hu,one n (Nat.le_refl _),fun m hm=>⟨c m,(hc m hm).1,one m (by omega)⟩⟩
theorem pit_ends (w:World):∃ o w',step P (lone pit [] w)=.ended o w':=⟨_,_,step_lone_ended (by simp only [pit,stepG,stepG.exec];rfl)⟩
theorem pit_raised (w:World) (ch:List PanicEntry):∃ o w',step P (lone (pit.raise ch) [] w)=.ended o w':=⟨_,_,step_lone_ended (by simp only [pit,Frame.raise,stepG,unwind,callDeferred];rfl)⟩
theorem step_back (hF:FnsOk P Fb Gb) {fr c:Frame} {rest:List Frame} {w:World} (h:FrameOk P Fb Gb fr) (hm:fr.mode=.returning) :
  (∃ v w1,step P (lone fr (c :: rest) w)=.next (lone (c.finish v) rest w1)) ∨ ∃ o w1,step P (lone fr (c :: rest) w)=.ended o w1:=by
 cases hr:(own P fr (c :: rest)).run P w with
 | ok a w1=>
  obtain ⟨fn,h1,-⟩:=hF _ h.isIn
  have hr':=hr
  simp only [own,hm,h1,Sem.run_bind] at hr'
  cases hx:(results fn fr.tmps).run P w with
  | halt y w2=>rw [hx] at hr';simp at hr'
  | ok v w2=>
   rw [hx] at hr'
   simp only [Result.andThen_ok,Sem.run_pure,Result.ok.injEq] at hr'
   obtain ⟨rfl,rfl⟩:=hr'
   exact .inl ⟨v,w2,lone_next hF h hr⟩
 | halt y w1=>
  obtain ⟨fn,h1,-⟩:=hF _ h.isIn
  simp only [own,hm,h1,Sem.run_bind] at hr
  cases hx:(results fn fr.tmps).run P w with
  | ok v w2=>rw [hx] at hr;simp at hr
  | halt z w2=>
   right
   cases z <;> exact ⟨_,_,step_lone_ended (by simp only [stepG,unwind,h.defers,hm,h1,hx,Sem.runT_eq,GStep.after];rfl)⟩
theorem never_back (hF:FnsOk P Fb Gb) {r:Ren} {base:List Frame}:∀ (cs:List Frame) (cs':List Frame) (fr:Frame) (ch:List PanicEntry) (w:World),StackR P Fb Gb r [pit] base cs cs' → fr.mode=.panicking ch → fr.defers=[] → (∃ fn,P.funcs[fr.fn]? = some fn) →
  ∀ m fr' w',runN P m (lone fr cs w)=.next (lone fr' [pit] w') → fr'.mode ≠ .returning
 | [],_,_,_,_,hs,_,_,_,_,_,_,_=>by simp [StackR] at hs
 | c :: rest,cs',fr,ch,w,hs,hm,hd,⟨fn,hf⟩,m,fr',w',hr=>by
  cases m with
  | zero=>
   obtain ⟨e,-⟩:=lone_inj (Stepped.next.inj hr)
   rw [← e,hm]
   exact fun h=>by cases h
  | succ m=>
   have hst:step P (lone fr (c :: rest) w)=.next (lone (c.raise ch) rest w):=step_lone_go (by simp [stepG,unwind,Frame.catches,hm,hd,hf])
   simp only [runN,hst] at hr
   simp only [StackR] at hs
   rcases hs with ⟨h1,-⟩ | ⟨f',l',-,h2,h3⟩
   ·
    obtain ⟨rfl,rfl⟩:c=pit ∧ rest=[]:=by simpa using h1
    cases m with
    | zero=>
     obtain ⟨-,e,-⟩:=lone_inj (Stepped.next.inj hr)
     cases e
    | succ m=>
     obtain ⟨o,w2,h4⟩:=pit_raised (P:=P) w ch
     simp only [runN,h4] at hr
     cases hr
   ·
    have hc:∃ ch',(c.raise ch).mode=.panicking ch' ∧ (c.raise ch).defers=[] ∧ (c.raise ch).fn=c.fn:=by
     rcases h2.modes with h | h
     · exact ⟨ch,by simp [Frame.raise,h],by simp [Frame.raise,h,h2.defers],by simp [Frame.raise,h]⟩
     · exact ⟨ch,by simp [Frame.raise,h],by simp [Frame.raise,h,h2.defers],by simp [Frame.raise,h]⟩
    obtain ⟨ch',e1,e2,e3⟩:=hc
    obtain ⟨g,h4,-⟩:=hF _ h2.isIn
    exact never_back hF rest l' (c.raise ch) ch' w h3 e1 e2 ⟨g,by rw [e3];exact h4⟩ m fr' w' hr
theorem came_goes (hF:FnsOk P Fb Gb) (hG:P.globals.size ≤ L) (h:Ends P f args w0 Post) (h0:OkSt P Fb Gb L (start P f args w0)) {x:LnSt} (hc:Came P (start P f args w0) x) (hn:¬ Stopped x) (u:Nat → Question → Nat) :
  ¬ ∃ z w1,(own P x.1.1 x.1.2).run P (taped x.2 u)=.halt z w1 ∧ Mild z:=by
 rintro ⟨z,w1,hz,hm⟩
 have hok:=hc.ok hF hG h0
 obtain ⟨n,T,hT,hrun,hbef⟩:=hc.run hF hG h0 u
 obtain ⟨m,v,fr,w',-,hm1,hl⟩:=h.at T
 have early:m ≤ n → False:=fun hle=>by
  rcases Nat.lt_or_ge m n with hlt | hge
  ·
   obtain ⟨y,hy,hy2⟩:=hbef m hlt
   have e:=hm1.symm.trans hy2
   obtain ⟨e1,e2,-⟩:=lone_inj (Stepped.next.inj e)
   exact hy ⟨e1 ▸ hl.1,e2.symm⟩
  ·
   obtain rfl:m=n:=by omega
   have e:=hm1.symm.trans hrun
   obtain ⟨e1,e2,-⟩:=lone_inj (Stepped.next.inj e)
   exact hn ⟨e1 ▸ hl.1,e2.symm⟩
 have late:∀ X,step P (lone x.1.1 x.1.2 (taped x.2 T))=X → n < m → ∃ k,m=n+(k+1) ∧ (match X with | .next m'=>runN P k m' | e=>e)=.next (lone fr [pit] w'):=fun X hX hlt=>by
  refine ⟨m - n - 1,by omega,?_⟩
  have e:m=n+((m - n - 1)+1):=by omega
  rw [e,runN_add] at hm1
  rw [show runN P n (lone (Frame.enter P f args .normal) [pit] (taped w0 T))=_ from hrun] at hm1
  simp only [runN,hX] at hm1
  exact hm1
 rcases ok_run hF hG hok hn T with ⟨z',w2,hz',hm'⟩ | ⟨y,hy,-,-⟩
 ·
  rcases Nat.lt_or_ge n m with hlt | hge
  ·
   rcases own_halt (main:=true) hF (ok_frame hok) hz' hm' with ⟨pv,es,hgo⟩ | ⟨o,w3,es,hend⟩
   ·
    have hst:step P (lone x.1.1 x.1.2 (taped x.2 T))=.next (lone (x.1.1.raise [{ v:=pv,recovered:=false }]) x.1.2 w2):=step_lone_go (by
     show (stepG P true (G x.1.1 x.1.2) (taped x.2 T)).bare=_
     rw [hgo]
     rfl)
    obtain ⟨k,-,hk⟩:=late _ hst hlt
    obtain ⟨r,base,fr',cs',w',t,t',hg,hf,hs,hw⟩:=hok
    have hc':∃ ch',(x.1.1.raise [{ v:=pv,recovered:=false }]).mode=.panicking ch' ∧ (x.1.1.raise [{ v:=pv,recovered:=false }]).defers=[] ∧ (x.1.1.raise [{ v:=pv,recovered:=false }]).fn=x.1.1.fn:=by
     rcases hf.modes with h | h
     · exact ⟨_,by simp only [Frame.raise,h];rfl,by simp [Frame.raise,h,hf.defers],by simp [Frame.raise,h]⟩
     · exact ⟨_,by simp only [Frame.raise,h];rfl,by simp [Frame.raise,h,hf.defers],by simp [Frame.raise,h]⟩
    obtain ⟨ch',e1,e2,e3⟩:=hc'
    obtain ⟨g,h4,-⟩:=hF _ hf.isIn
    exact never_back hF x.1.2 cs' _ ch' w2 hs e1 e2 ⟨g,by rw [e3];exact h4⟩ k fr _ hk hl.1
   ·
    have hst:step P (lone x.1.1 x.1.2 (taped x.2 T))=.ended o w3:=step_lone_ended (by
     show (stepG P true (G x.1.1 x.1.2) (taped x.2 T)).bare=_
     rw [hend]
     rfl)
    obtain ⟨k,-,hk⟩:=late _ hst hlt
    cases hk
  · exact early hge
 ·
  have:=(ok_retape hF hG hok hn hy).2.2 u fun j q h1 _=>(hT j q h1).symm
  rw [hz] at this
  cases this
theorem came_post (hF:FnsOk P Fb Gb) (hG:P.globals.size ≤ L) (h:Ends P f args w0 Post) (h0:OkSt P Fb Gb L (start P f args w0)) {x:LnSt} (hc:Came P (start P f args w0) x) (hn:Stopped x) :
  ∃ v T,Post (.returned v) (taped x.2 T) ∧ x.1.1.leaving P (taped x.2 T) (.returned v):=by
 have hok:=hc.ok hF hG h0
 obtain ⟨n,T,hT,hrun,hbef⟩:=hc.run hF hG h0 fun _ _=>0
 obtain ⟨m,v,fr,w',hp,hm1,hl⟩:=h.at T
 obtain ⟨⟨xf,xc⟩,xw⟩:=x
 obtain ⟨hmode,hcs⟩:=hn
 dsimp only at hmode hcs hrun ⊢
 subst hcs
 rcases Nat.lt_trichotomy m n with hlt | rfl | hgt
 ·
  obtain ⟨y,hy,hy2⟩:=hbef m hlt
  have e:=hm1.symm.trans hy2
  obtain ⟨e1,e2,-⟩:=lone_inj (Stepped.next.inj e)
  exact absurd ⟨e1 ▸ hl.1,e2.symm⟩ hy
 ·
  have e:=hm1.symm.trans hrun
  obtain ⟨rfl,-,rfl⟩:=lone_inj (Stepped.next.inj e)
  exact ⟨v,T,hp,hl⟩
 ·
  exfalso
  have e:m=n+((m - n - 1)+1):=by omega
  rw [e,runN_add] at hm1
  rw [show runN P n (lone (Frame.enter P f args .normal) [pit] (taped w0 T))=_ from hrun] at hm1
  rcases step_back (P:=P) (c:=pit) (rest:=[]) (w:=taped xw T) hF (ok_frame hok) hmode with ⟨v2,w2,h2⟩ | ⟨o,w2,h2⟩
  ·
   simp only [runN,h2] at hm1
   rw [show pit.finish v2=pit from rfl] at hm1
   cases hk:m - n - 1 with
   | zero=>
    rw [hk] at hm1
    obtain ⟨-,e,-⟩:=lone_inj (Stepped.next.inj hm1)
    cases e
   | succ k=>
    rw [hk] at hm1
    obtain ⟨o,w3,h3⟩:=pit_ends (P:=P) w2
    simp only [runN,h3] at hm1
    cases hm1
  ·
   simp only [runN,h2] at hm1
   cases hm1
end
section
variable {P:Program} {Fb Gb:Nat → Bool} {L:Nat} {f:FuncId} {args:Array Value} {w0:World} {Post:Ending → World → Prop}
structure Along (P:Program) (Fb Gb:Nat → Bool) (L:Nat) (x0:LnSt) (base:List Frame) (x:LnSt) (r:Ren) (fr:Frame) (cs:List Frame) (w:World):Prop where
 came:Came P x0 x
 glob:∀ g,Gb g=true → r.rel g g
 frame:FrameR P Fb Gb r x.1.1 fr
 stack:StackR P Fb Gb r [pit] base x.1.2 cs
 world:∃ t t',WR (inF Fb) L r (taped x.2 t) (taped w t')
theorem Along.ok {x0 x:LnSt} {base:List Frame} {r:Ren} {fr:Frame} {cs:List Frame} {w:World} (h:Along P Fb Gb L x0 base x r fr cs w):OkSt P Fb Gb L x:=by
 obtain ⟨t,t',hw⟩:=h.world
 exact ⟨r,base,fr,cs,w,t,t',h.glob,h.frame,h.stack,hw⟩
theorem Along.stay {x0 x:LnSt} {base:List Frame} {r:Ren} {fr:Frame} {cs:List Frame} {w w1:World} (h:Along P Fb Gb L x0 base x r fr cs w) (hs:w.heap.size ≤ w1.heap.size) (hb:∀ a b,r.rel a b → w1.heap[b]? = w.heap[b]?):Along P Fb Gb L x0 base x r fr cs w1:=by
 obtain ⟨t,t',hw⟩:=h.world
 refine ⟨h.came,h.glob,h.frame,h.stack,t,fun j q=>t (j - w1.drawn+x.2.drawn) q,⟨fun a b hab=>?_,hw.low,hw.base,hw.high,hw.size,Nat.le_trans hw.size' hs,fun j q=>?_⟩⟩
 ·
  obtain ⟨o,o',h1,h2,h3⟩:=hw.obj a b hab
  exact ⟨o,o',h1,(hb a b hab).trans h2,h3⟩
 ·
  show t (x.2.drawn+j) q=t (w1.drawn+j - w1.drawn+x.2.drawn) q
  rw [Nat.add_sub_cancel_left,Nat.add_comm]
theorem Along.step (hF:FnsOk P Fb Gb) (hG:P.globals.size ≤ L) (he:Ends P f args w0 Post) (h0:OkSt P Fb Gb L (start P f args w0)) {x:LnSt} {base:List Frame} {r:Ren} {fr:Frame} {cs:List Frame} {w:World} (h:Along P Fb Gb L (start P f args w0) base x r fr cs w) (hn:¬ Stopped x) (main:Bool) :
  ∃ (y:LnSt) (r1:Ren) (fr1:Frame) (cs1:List Frame) (w1:World) (evs:Array Event),stepG P main (G fr cs) w=.go (G fr1 cs1) w1 (seen P fr.fn evs) ∧ LStep P x y ∧ Along P Fb Gb L (start P f args w0) base y r1 fr1 cs1 w1 ∧ FrR L r r1 w w1 ∧ ∀ e ∈ evs,EvR L r1 e:=by
 obtain ⟨t,t',hw⟩:=h.world
 have hw2:=hw.lead
 rcases sim_own hF h.glob hG h.frame h.stack hn _ _ hw2 with ⟨z,w1,h1,hm⟩ | ⟨a,w1,r1,b,w1',evs,h1,h2,h3,h4,h5,h6,h7,h8⟩
 · exact absurd ⟨z,w1,h1,hm⟩ (came_goes hF hG he h0 h.came hn _)
 ·
  have hst:LStep P x (a,w1):=⟨hn,_,h1⟩
  refine ⟨(a,w1),r1,b.1,b.2,w1',evs,?_,hst,⟨h.came.next hst,fun g hg=>h6.le _ _ (h.glob g hg),h4.1,h4.2,w1.tape,w1'.tape,h5⟩,h6,h7⟩
  rw [own_go hF h.frame.ok' h2]
  rw [h3]
  simp
theorem Along.stop (hF:FnsOk P Fb Gb) (hG:P.globals.size ≤ L) (he:Ends P f args w0 Post) (h0:OkSt P Fb Gb L (start P f args w0)) {x:LnSt} {base:List Frame} {r:Ren} {fr:Frame} {cs:List Frame} {w:World} (h:Along P Fb Gb L (start P f args w0) base x r fr cs w) (hn:Stopped x) :
  cs=base ∧ fr.mode=.returning ∧ fr.defers=[] ∧ fr.kind=.normal ∧ ∃ (v v':Value) (T:Nat → Question → Nat) (fn:Func) (r1:Ren) (w1:World) (evs:Array Event),Post (.returned v) (taped x.2 T) ∧ P.funcs[fr.fn]? = some fn ∧ (results fn fr.tmps).run P w=.ok v' w1 ∧
   (∀ es,(results fn fr.tmps).events P w es=es ++ evs) ∧ VR (inF Fb) r1 v v' ∧ (∃ t t',WR (inF Fb) L r1 (taped x.2 t) (taped w1 t')) ∧ FrR L r r1 w w1 ∧ ∀ e ∈ evs,EvR L r1 e:=by
 have hcs:cs=base:=by
  have:=h.stack
  rw [hn.2] at this
  simp only [StackR] at this
  rcases this with ⟨-,h1⟩ | ⟨f',l',-,h2,-⟩
  · exact h1
  · exact absurd (h2.items (.code (.refuse "")) (by simp [pit])) (by simp [itemOk,codeOk])
 refine ⟨hcs,h.frame.mode.trans hn.1,h.frame.defers',h.frame.kind',?_⟩
 obtain ⟨v,T,hp,hl⟩:=came_post hF hG he h0 h.came hn
 obtain ⟨-,-,-,fn,hfn,hres⟩:=hl
 obtain ⟨t,t',hw⟩:=h.world
 have hall:∀ u,(results fn x.1.1.tmps).run P (taped x.2 u)=.ok v (taped x.2 u):=fun u=>by
  rcases sim_results (P:=P) (fn:=fn) h.frame.tmps _ _ (hw.follow T) with ⟨z,w1,h1,-⟩ | ⟨a,w1,r1,b,w1',evs,h1,-,-,-,-,-,-,h8⟩
  · rw [hres] at h1;cases h1
  ·
   rw [hres] at h1
   cases h1
   exact h8.2.2 u fun j q h1 h2=>absurd (Nat.lt_of_le_of_lt h1 h2) (Nat.lt_irrefl _)
 rcases sim_results (P:=P) (fn:=fn) h.frame.tmps _ _ hw.lead with ⟨z,w1,h1,-⟩ | ⟨a,w1,r1,b,w1',evs,h1,h2,h3,h4,h5,h6,h7,-⟩
 · rw [hall] at h1;cases h1
 ·
  rw [hall] at h1
  cases h1
  exact ⟨v,b,T,fn,r1,w1',evs,hp,h.frame.fn ▸ hfn,h2,h3,h4,⟨_,w1'.tape,h5⟩,h6,h7⟩
end
def chill (n:Nat):Obj → Obj
 | .cells c t fz=>.cells (c.extract 0 n) t (0,max (c.extract 0 n).size fz.2)
 | o=>o
def cold (T:Nat → Nat) (w:World):World:={ w with heap:=w.heap.mapIdx fun b o=>chill (T b) o }
def Ren.on (S:Nat → Prop):Ren where
 rel a b:=a=b ∧ S a
 fn _ _ _ h h':=h.1.symm.trans h'.1
 inj _ _ _ h h':=h.1.trans h'.1.symm
def Shared (F:Nat → Prop) (S:Nat → Prop) (T:Nat → Nat) (w:World):Prop:=∀ a,S a → ∃ c t fz,w.heap[a]? = some (.cells c t fz) ∧ ∀ (i:Nat) x,i < T a → c[i]? = some x → VR F (Ren.on S) x x
section
variable {P:Program} {F:Nat → Prop} {S:Nat → Prop} {T:Nat → Nat} {w:World}
theorem cold_heap (a:Nat):(cold T w).heap[a]? = (w.heap[a]?).map (chill (T a)):=by simp [cold]
theorem cold_size:(cold T w).heap.size=w.heap.size:=by simp [cold]
theorem cold_cell (a:Addr) (h:a.off < T a.block):(cold T w).cell? a=w.cell? a:=by
 unfold World.cell?
 rw [cold_heap]
 cases w.heap[a.block]? with
 | none=>rfl
 | some o=>
  cases o <;> first | rfl | skip
  simp only [Option.map_some,chill]
  split
  · rfl
  ·
   simp [Array.getElem?_extract]
   omega
theorem cold_wr (h:Shared F S T w):WR F w.heap.size (Ren.on S) (cold T w) w:=by
 refine ⟨?_,?_,?_,?_,?_,Nat.le_refl _,fun _ _=>rfl⟩
 ·
  rintro a _ ⟨rfl,ha⟩
  obtain ⟨c,t,fz,h1,h3⟩:=h a ha
  refine ⟨.cells (c.extract 0 (T a)) t (0,max (c.extract 0 (T a)).size fz.2),.cells c t fz,by rw [cold_heap,h1];rfl,h1,c,fz,rfl,⟨by simp;omega,fun i x y hx hy=>?_⟩,fun k _ hk=>⟨Nat.zero_le _,by omega⟩⟩
  have hi:=getElem?_lt hx
  have hiT:i < T a:=by simp at hi;omega
  have:c[i]? = some x:=by
   rw [← hx,Array.getElem?_extract]
   simp
   omega
  rw [this] at hy
  cases hy
  exact h3 i x hiT this
 ·
  rintro a _ ⟨rfl,ha⟩ _
  obtain ⟨c,t,fz,h1,h3⟩:=h a ha
  exact ⟨_,t,_,by rw [cold_heap,h1];rfl,Nat.le_max_left _ _⟩
 ·
  rintro a _ ⟨rfl,ha⟩ _
  rfl
 ·
  rintro a _ ⟨rfl,ha⟩ hl
  exact hl
 ·
  rw [cold_size]
  exact Nat.le_refl _
theorem Along.begin {Fb Gb:Nat → Bool} (hF:FnsOk P Fb Gb) (h:Shared (inF Fb) S T w) (hg:∀ g,Gb g=true → S g) {f:FuncId} (hf:Fb f=true) (hb:∃ fn c,P.funcs[f]? = some fn ∧ fn.body=some c) {args:Array Value} (ha:∀ (i:Nat) x,args[i]? = some x → VR (inF Fb) (Ren.on S) x x) (base:List Frame) :
  Along P Fb Gb w.heap.size (start P f args (cold T w)) base (start P f args (cold T w)) (Ren.on S) (Frame.enter P f args .normal) base w:=by
 refine ⟨Came.refl _,fun g h=>⟨rfl,hg g h⟩,FrameR.entered hF hf hb ⟨rfl,fun i x y hx hy=>?_⟩,.inl ⟨rfl,rfl⟩,w.tape,w.tape,?_⟩
 ·
  rw [hx] at hy
  cases hy
  exact ha i x hx
 · exact cold_wr h
end
end Go.Proofs.YtbokomeejmnnoaaDoor

set_option maxRecDepth 100000
namespace Go.Proofs.YtbokomeejmnnoaaDoor
def delayFns (f:Nat):Bool:=[8,17,18,19,28,29,30,31,32,33,55,56,57].contains f
def delayVars (g:Nat):Bool:=[3,2,1,0,4,5,6,7,8].contains g
theorem fns_of {P:Program} {Fb Gb:Nat → Bool} (l:List Nat) (hl:∀ f,Fb f=true → f ∈ l) (h:∀ f ∈ l,∃ fn c,P.funcs[f]? = some fn ∧ fn.body=some c ∧ (fn.name == "runtime.NumGoroutine")=false ∧ codeOk P Fb Gb c=true):FnsOk P Fb Gb:=fun f hf=>by
 obtain ⟨fn,c,h1,h2,h3,h4⟩:=h f (hl f hf)
 exact ⟨fn,h1,h3,.inl ⟨c,h2,h4⟩⟩
def fineAt (P:Program) (Fb Gb:Nat → Bool) (f:Nat):Bool:=match P.funcs[f]? with
 | some fn=>(match fn.body with
  | some c=>!(fn.name == "runtime.NumGoroutine") && codeOk P Fb Gb c
  | none=>false)
 | none=>false
theorem fineAt_is {P:Program} {Fb Gb:Nat → Bool} {f:Nat} (h:fineAt P Fb Gb f=true):∃ fn c,P.funcs[f]? = some fn ∧ fn.body=some c ∧ (fn.name == "runtime.NumGoroutine")=false ∧ codeOk P Fb Gb c=true:=by
 unfold fineAt at h
 split at h
 ·
  split at h
  ·
   rename_i fn h1 _ c h2
   rw [Bool.and_eq_true] at h
   exact ⟨fn,c,h1,h2,by simpa using h.1,h.2⟩
  · cases h
 · cases h
end Go.Proofs.YtbokomeejmnnoaaDoor

namespace Go.Proofs.YtbokomeejmnnoaaDoor
theorem Errs9.same {w w':World} {ad:Nat → Addr} (h:Errs9 w ad) (hc:∀ a,w'.cell? a=w.cell? a):Errs9 w' ad:=
 ⟨(hc _).trans h.typ,(hc _).trans h.c0,(hc _).trans h.c1,(hc _).trans h.c2,(hc _).trans h.c3,(hc _).trans h.c4,(hc _).trans h.c5,(hc _).trans h.c6,(hc _).trans h.c7,(hc _).trans h.c8⟩
theorem lies_cold {T:Nat → Nat} {w:World} {a:Option Addr} {ls:List (Int × Int)} (h:Lies w a ls) (hT:∀ b o,a=some ⟨b,o,none⟩ → o+ls.length * 2 ≤ T b) (t:Nat → Question → Nat):Lies (taped (cold T w) t) a ls:=by
 rcases h with h | ⟨b,off,h1,h2,h3⟩
 · exact .inl h
 ·
  refine .inr ⟨b,off,h1,by show b < (cold T w).heap.size;rw [cold_size];exact h2,fun i x y h=>?_⟩
  have hl:=hT b off h1
  have hi:i < ls.length:=(List.getElem?_eq_some_iff.1 h).1
  have e1:(taped (cold T w) t).cell? ⟨b,off+i * 2,none⟩=w.cell? ⟨b,off+i * 2,none⟩:=cold_cell _ (by show off+i * 2 < T b;omega)
  have e2:(taped (cold T w) t).cell? ⟨b,off+i * 2+1,none⟩=w.cell? ⟨b,off+i * 2+1,none⟩:=cold_cell _ (by show off+i * 2+1 < T b;omega)
  rw [e1,e2]
  exact h3 i x y h
def needG (g:Nat):Bool:=g == 9 || delayVars g
theorem errs9_cold {T:Nat → Nat} {w:World} {ad:Nat → Addr} (h:Errs9 w ad) (hT:∀ g,needG g=true → 0 < T g) (t:Nat → Question → Nat):Errs9 (taped (cold T w) t) ad:=by
 have hc:∀ g,needG g=true → (taped (cold T w) t).cell? ⟨g,0,none⟩=w.cell? ⟨g,0,none⟩:=fun g hg=>cold_cell _ (hT g hg)
 exact ⟨(hc _ (by decide)).trans h.typ,(hc _ (by decide)).trans h.c0,(hc _ (by decide)).trans h.c1,(hc _ (by decide)).trans h.c2,(hc _ (by decide)).trans h.c3,(hc _ (by decide)).trans h.c4,(hc _ (by decide)).trans h.c5,(hc _ (by decide)).trans h.c6,(hc _ (by decide)).trans h.c7,(hc _ (by decide)).trans h.c8⟩
def DelayEnd (per:Int) (ls:List (Int × Int)) (ad:Nat → Addr) (e:Ending) (w':World):Prop:=Errs9 w' ad ∧
 ((∃ c p ty v,LinkFault ls per c p ∧ e=.returned (.tuple #[.int .i64 0,.iface ty v]) ∧ ErrIs w' (.iface ty v) c p) ∨
 (LinkOk ls per ∧ 1000 < leastR ls * per ∧ e=.returned (.tuple #[.int .i64 0,.iface 139 (.pointer (some (ad 3)))])) ∨
 (LinkOk ls per ∧ leastR ls * per ≤ 1000 ∧ ∃ d,e=.returned (.tuple #[.int .i64 d,.nilIface]) ∧ DelayIs per ls d))
section
variable {F:Nat → Prop} {L:Nat} {r:Ren} {w w':World}
theorem VR.ifacePtr {ty:TypeId} {a:Addr} {v:Value} (h:VR F r (.iface ty (.pointer (some a))) v):∃ a',v=.iface ty (.pointer (some a')) ∧ AR r a a':=by
 obtain ⟨u,rfl,hu⟩:=h.out
 obtain ⟨o,rfl,ho⟩:=hu.out
 cases o with
 | none=>exact ho.elim
 | some a'=>exact ⟨a',rfl,ho⟩
theorem AR.one {a b c:Addr} (h:AR r a b) (h':AR r a c):b=c:=by
 obtain ⟨b1,b2,b3⟩:=b
 obtain ⟨c1,c2,c3⟩:=c
 obtain ⟨h1,h2,h3⟩:=h
 obtain ⟨k1,k2,k3⟩:=h'
 dsimp only at h1 h2 h3 k1 k2 k3
 subst h2 h3 k2 k3
 rw [r.fn _ _ _ h1 k1]
def ErrVars (r:Ren):Prop:=∀ g,g ∈ [3,2,1,0,4,5,6,7,8] → r.rel g g
theorem errs_at (hw:WR F L r w w') (hg:ErrVars r) {ad ad':Nat → Addr} (he:Errs9 w ad) (he':Errs9 w' ad') (k:Nat) (hk:k < 9):AR r (ad k) (ad' k):=by
 have one:∀ (g:Nat) (a a':Addr),r.rel g g → w.cell? ⟨g,0,none⟩=some (.iface 139 (.pointer (some a))) → w'.cell? ⟨g,0,none⟩=some (.iface 139 (.pointer (some a'))) → AR r a a':=fun g a a' hr h1 h2=>by
  obtain ⟨v,h3,h4⟩:=hw.cell (a:=⟨g,0,none⟩) (a':=⟨g,0,none⟩) ⟨hr,rfl,rfl⟩ h1
  rw [h2] at h3
  cases h3
  obtain ⟨b,h5,h6⟩:=h4.ifacePtr
  cases h5
  exact h6
 match k,hk with
 | 0,_=>exact one _ _ _ (hg _ (by simp)) he.c0 he'.c0
 | 1,_=>exact one _ _ _ (hg _ (by simp)) he.c1 he'.c1
 | 2,_=>exact one _ _ _ (hg _ (by simp)) he.c2 he'.c2
 | 3,_=>exact one _ _ _ (hg _ (by simp)) he.c3 he'.c3
 | 4,_=>exact one _ _ _ (hg _ (by simp)) he.c4 he'.c4
 | 5,_=>exact one _ _ _ (hg _ (by simp)) he.c5 he'.c5
 | 6,_=>exact one _ _ _ (hg _ (by simp)) he.c6 he'.c6
 | 7,_=>exact one _ _ _ (hg _ (by simp)) he.c7 he'.c7
 | 8,_=>exact one _ _ _ (hg _ (by simp)) he.c8 he'.c8
theorem CodeIs.carry (hw:WR F L r w w') (hg:ErrVars r) {ad':Nat → Addr} (he':Errs9 w' ad') {E E':Value} {c a:Int} (h:CodeIs w E c a) (hv:VR F r E E'):CodeIs w' E' c a:=by
 rcases h with ⟨rfl,rfl,rfl⟩ | ⟨ad,he,k,hk,rfl,⟨rfl,rfl⟩ | ⟨pb,rfl,h2,h3⟩⟩
 · exact .inl ⟨hv.out,rfl,rfl⟩
 ·
  obtain ⟨b,rfl,hb⟩:=hv.ifacePtr
  rw [hb.one (errs_at hw hg he he' k hk)]
  exact codeIs_sent he' k hk
 ·
  obtain ⟨b,rfl,hb⟩:=hv.ifacePtr
  obtain ⟨pb',o,s⟩:=b
  obtain ⟨b1,b2,b3⟩:=hb
  dsimp only at b1 b2 b3
  subst b2 b3
  obtain ⟨x,x1,x2⟩:=hw.cell (a:=⟨pb,0,none⟩) (a':=⟨pb',0,none⟩) ⟨b1,rfl,rfl⟩ h2
  obtain ⟨y,y1,y2⟩:=hw.cell (a:=⟨pb,1,none⟩) (a':=⟨pb',1,none⟩) ⟨b1,rfl,rfl⟩ h3
  have x3:x=.int .i64 a:=x2.out
  subst x3
  obtain ⟨d,rfl,hd⟩:=y2.ifacePtr
  rw [hd.one (errs_at hw hg he he' k hk)] at y1
  exact codeIs_fault he' k hk a pb' x1 y1
theorem ErrIs.carry (hw:WR F L r w w') (hg:ErrVars r) {ad':Nat → Addr} (he':Errs9 w' ad') {E E':Value} {c p:Int} (h:ErrIs w E c p) (hv:VR F r E E'):ErrIs w' E' c p:=by
 refine ⟨h.code.carry hw hg he' hv,fun hc=>?_,fun hc=>?_⟩
 ·
  have e:=h.none_ hc
  subst e
  exact hv.out
 ·
  obtain ⟨ty,v,rfl⟩:=h.some_ hc
  obtain ⟨u,rfl,-⟩:=hv.out
  exact ⟨_,_,rfl⟩
end
section
variable {F:Nat → Prop} {L:Nat} {r:Ren} {w w':World}
theorem VR.twoOf {x y v:Value} (h:VR F r (.tuple #[x,y]) v):∃ x' y',v=.tuple #[x',y'] ∧ VR F r x x' ∧ VR F r y y':=by
 obtain ⟨b,rfl,hb⟩:=h.out
 obtain ⟨x',y',rfl,h1,h2⟩:=hb.pair
 exact ⟨x',y',rfl,h1,h2⟩
theorem DelayEnd.carry (hw:WR F L r w w') (hg:ErrVars r) {ad ad':Nat → Addr} (he':Errs9 w' ad') {per:Int} {ls:List (Int × Int)} {v v':Value} (h:DelayEnd per ls ad (.returned v) w) (hv:VR F r v v'):DelayEnd per ls ad' (.returned v') w':=by
 obtain ⟨he,h⟩:=h
 refine ⟨he',?_⟩
 rcases h with ⟨c,p,ty,x,h1,h2,h3⟩ | ⟨h1,h2,h3⟩ | ⟨h1,h2,d,h3,h4⟩
 ·
  cases h2
  obtain ⟨a,b,rfl,ha,hb⟩:=hv.twoOf
  obtain rfl:a=.int .i64 0:=ha.out
  have h5:=h3.carry hw hg he' hb
  obtain ⟨u,rfl,-⟩:=hb.out
  exact .inl ⟨c,p,ty,u,h1,rfl,h5⟩
 ·
  cases h3
  obtain ⟨a,b,rfl,ha,hb⟩:=hv.twoOf
  obtain rfl:a=.int .i64 0:=ha.out
  obtain ⟨q,rfl,hq⟩:=hb.ifacePtr
  rw [hq.one (errs_at hw hg he he' 3 (by decide))]
  exact .inr (.inl ⟨h1,h2,rfl⟩)
 ·
  cases h3
  obtain ⟨a,b,rfl,ha,hb⟩:=hv.twoOf
  obtain rfl:a=.int .i64 d:=ha.out
  obtain rfl:b=.nilIface:=hb.out
  exact .inr (.inr ⟨h1,h2,d,rfl,h4⟩)
end
end Go.Proofs.YtbokomeejmnnoaaDoor

namespace Go.Proofs.YtbokomeejmnnoaaDoor
open Go.Conc
theorem CodeIs.same {w w':World} {E:Value} {c a:Int} (h:CodeIs w E c a) (hc:∀ a,w'.cell? a=w.cell? a):CodeIs w' E c a:=by
 rcases h with h | ⟨ad,he,k,hk,e,h | ⟨pb,h1,h2,h3⟩⟩
 · exact .inl h
 · exact .inr ⟨ad,he.same hc,k,hk,e,.inl h⟩
 · exact .inr ⟨ad,he.same hc,k,hk,e,.inr ⟨pb,h1,(hc _).trans h2,(hc _).trans h3⟩⟩
theorem DelayEnd.same {w w':World} {per:Int} {ls:List (Int × Int)} {ad:Nat → Addr} {e:Ending} (h:DelayEnd per ls ad e w) (hc:∀ a,w'.cell? a=w.cell? a):DelayEnd per ls ad e w':=by
 refine ⟨h.1.same hc,?_⟩
 rcases h.2 with ⟨c,p,ty,v,h1,h2,h3⟩ | h | h
 · exact .inl ⟨c,p,ty,v,h1,h2,h3.code.same hc,h3.none_,h3.some_⟩
 · exact .inr (.inl h)
 · exact .inr (.inr h)
end Go.Proofs.YtbokomeejmnnoaaDoor

namespace Go.Proofs.YtbokomeejmnnoaaDoor
open Go.RowKit
def AtEnd (p:Int) (v:Value) (w:World) (e:Ending) (w':World):Prop:=∃ B,e=.returned (.iface 77 (.pointer (some ⟨B,0,none⟩))) ∧ w'.cell? ⟨B,0,none⟩=some (.int .i64 p) ∧ w'.cell? ⟨B,1,none⟩=some v ∧ w.heap.size ≤ B ∧ Below w.heap.size w w'
theorem atEnd_made {p:Int} {v:Value} {w W:World} {t:TypeId} (h:Below w.heap.size w W):AtEnd p v w (.returned (.iface 77 (.pointer (some ⟨W.heap.size,0,none⟩)))) (W.alloc (.cells #[.int .i64 p,v] t)):=
 ⟨W.heap.size,rfl,by simp,by simp,h.size,h.alloc h.size _⟩
theorem faultAt_fault (p:Int) (pb:Nat) (ty:TypeId) (x:Value) (w:World) (ad:Nat → Addr) (he:Errs9 w ad) (hp1:w.cell? ⟨pb,1,none⟩=some (.iface ty x)) :
  Calls Tryd.prog 54 #[.int .i64 p,.iface 77 (.pointer (some ⟨pb,0,none⟩))] w (AtEnd p (.iface ty x) w):=by
 have HB0:Hid (Below w.heap.size w (w.alloc (.cells #[.pointer none] 77))):=(Below.refl _ _).alloc (Nat.le_refl _) _
 have HE:Hid (Errs9 w ad):=he
 have HP1:Hid (w.cell? ⟨pb,1,none⟩=some (.iface ty x)):=hp1
 clear he hp1
 go_enter Tryd.func54,Tryd.ntmps54
 go_wp2_with fail
 refine (as_hit ⟨pb,0,none⟩ ⟨w.heap.size,0,none⟩ (.pointer none) _ (HE.out.below HB0.out).typ (by simp) (by simp)).mono ?_
 rintro e w1 ⟨rfl,hw1⟩
 have hb1:Below w.heap.size w w1:=by
  rw [hw1]
  exact ((((HB0.out.alloc (by simp) _).alloc (by simp;omega) _).alloc (by simp;omega) _).alloc (by simp;omega) _).setCell (Nat.le_refl _) _
 have ht1:w1.cell? ⟨w.heap.size,0,none⟩=some (.pointer (some ⟨pb,0,none⟩)):=by
  rw [hw1]
  exact set_at w _ _ _ _ _
 have HB1:Hid (Below w.heap.size w w1):=hb1
 have hq1:w1.cell? ⟨pb,1,none⟩=some (.iface ty x):=cell_later hb1 HP1.out
 clear hw1 hb1
 go_wp2_with fail
 go_ret
 exact atEnd_made HB1.out
theorem faultAt_sent (p:Int) (e:Addr) (w:World) (ad:Nat → Addr) (he:Errs9 w ad) :
  Calls Tryd.prog 54 #[.int .i64 p,.iface 139 (.pointer (some e))] w (AtEnd p (.iface 139 (.pointer (some e))) w):=by
 have HB0:Hid (Below w.heap.size w (w.alloc (.cells #[.pointer none] 77))):=(Below.refl _ _).alloc (Nat.le_refl _) _
 have HE:Hid (Errs9 w ad):=he
 clear he
 go_enter Tryd.func54,Tryd.ntmps54
 go_wp2_with fail
 refine (as_miss e ⟨w.heap.size,0,none⟩ _ (HE.out.below HB0.out).typ).mono ?_
 rintro e w1 ⟨rfl,hw1⟩
 have HB1:Hid (Below w.heap.size w w1):=by
  show Below _ _ _
  rw [hw1]
  exact ((HB0.out.alloc (by simp) _).alloc (by simp;omega) _).alloc (by simp;omega) _
 clear hw1
 go_wp2_with fail
 go_ret
 exact atEnd_made HB1.out
def SdCheckEnd (n wks:Int) (ad:Nat → Addr) (w:World) (e:Ending) (w':World):Prop:=w'=w ∧ ((askCode n wks=3 ∧ e=.returned (.iface 139 (.pointer (some (ad 2))))) ∨ (askCode n wks=2 ∧ e=.returned (.iface 139 (.pointer (some (ad 1))))) ∨ (askCode n wks=0 ∧ e=.returned .nilIface))
theorem sideCheck_is (n wks:Int) (w:World) (ad:Nat → Addr) (he:Errs9 w ad):Calls Tryd.prog 13 #[.int .i64 n,.int .i64 wks] w (SdCheckEnd n wks ad w):=by
 have c1:=he.c1
 have c2:=he.c2
 have HQ:∀ e w',Hid (SdCheckEnd n wks ad w e w') → SdCheckEnd n wks ad w e w':=fun _ _ h=>h.out
 by_cases h1:wks < 1
 ·
  have HE:Hid (SdCheckEnd n wks ad w (.returned (.iface 139 (.pointer (some (ad 2))))) w):=⟨rfl,.inl ⟨by simp [askCode,h1],rfl⟩⟩
  have d1:decide (wks < 1)=true:=decide_eq_true h1
  clear c1
  go_enter Tryd.func13,Tryd.ntmps13
  go_wp2_with fail
  go_ret
  exact HE.out
 ·
  by_cases h2:16 < wks
  ·
   have HE:Hid (SdCheckEnd n wks ad w (.returned (.iface 139 (.pointer (some (ad 2))))) w):=⟨rfl,.inl ⟨by simp [askCode,h1,h2],rfl⟩⟩
   clear c1
   go_enter Tryd.func13,Tryd.ntmps13
   go_wp2_with fail
   go_ret
   exact HE.out
  ·
   by_cases h3:100 < n
   ·
    have HE:Hid (SdCheckEnd n wks ad w (.returned (.iface 139 (.pointer (some (ad 1))))) w):=⟨rfl,.inr (.inl ⟨by simp [askCode,h1,h2,h3],rfl⟩)⟩
    clear c2
    go_enter Tryd.func13,Tryd.ntmps13
    go_wp2_with fail
    go_ret
    exact HE.out
   ·
    have HE:Hid (SdCheckEnd n wks ad w (.returned .nilIface) w):=⟨rfl,.inr (.inr ⟨by simp [askCode,h1,h2,h3],rfl⟩)⟩
    clear c1 c2
    go_enter Tryd.func13,Tryd.ntmps13
    go_wp2_with fail
    go_ret
    exact HE.out
end Go.Proofs.YtbokomeejmnnoaaDoor
