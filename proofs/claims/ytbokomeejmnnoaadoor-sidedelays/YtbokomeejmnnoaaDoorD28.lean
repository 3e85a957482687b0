/- Own facts, put together: no statement of its own. -/
import Derived.Test.YtbokomeejmnnoaaDoorD27

namespace Go.Proofs.YtbokomeejmnnoaaDoor
open Go.Conc
open Go.ConcN (sumTo upd sumTo_upd upd_ne upd_same sumTo_congr get_map_set get_map_set_same deafBehind_idle)
section
variable {P:Program} {p:Pool P}
def Pool.Zero0 (p:Pool P) (gs:Array Goroutine) (w:World) (a b:Nat) (dn:Nat → Option Value) (Fx K:Nat → Prop) (m:Nat):Prop:=∃ g0,gs[0]? = some g0 ∧ ((∃ k,m=k+1 ∧ Goes0 P Fx p.Sh (p.Next a b dn Fx) k K g0 w) ∨
 (m=0 ∧ ∃ g',p.Sel a b dn Fx K g' w ∧ b < p.n ∧ g0=parked g' (p.cases a) .select ∧ ∀ (j:Nat) g,0 < j → gs[j]? = some g → offersAt g p.cr true=[] ∧ (a < p.n → offersAt g p.cn false=[])))
def Pool.Inv (p:Pool P) (μ:Nat × (Nat → Nat × Option (GoodSt P))) (gs:Array Goroutine) (w:World) (t:Trace):Prop:=∃ a b dn Fx K D m,p.Hand gs w t a b dn Fx K D ∧ p.Zero0 gs w a b dn Fx K m ∧ μ=(2 * p.n - (a+b),fun i=>if i=0 then (m,none) else (D i).rank)
theorem sel_offers (hp:p.Ok) (g:Goroutine) (a:Nat):offersAt (parked g (p.cases a) .select) p.cn true=(if a < p.n then [0] else []) ∧ offersAt (parked g (p.cases a) .select) p.cn false=[] ∧ offersAt (parked g (p.cases a) .select) p.cr true=[] ∧ offersAt (parked g (p.cases a) .select) p.cr false=[1]:=by
 have h1:=hp.ne
 by_cases h:a < p.n
 · simp [offersAt,parked,Pool.cases,h,rcase,h1,Ne.symm h1]
 · simp [offersAt,parked,Pool.cases,h,rcase,Ne.symm h1]
theorem woken_sel (g:Goroutine) (a:Nat) {w':World} (hn:∃ s tm,w'.heap[p.cn]? = some (.chan 0 #[] false s s tm)) (hr:∃ s tm,w'.heap[p.cr]? = some (.chan 0 #[] false s s tm)) (x x':Goroutine):woken P x x' w' (parked g (p.cases a) .select)=parked g (p.cases a) .select:=by
 obtain ⟨s,tm,hn⟩:=hn
 obtain ⟨s',tm',hr⟩:=hr
 unfold woken
 split
 ·
  by_cases h:a < p.n
  · simp [Goroutine.again,parked,Pool.cases,h,rcase,hn,hr]
  · simp [Goroutine.again,parked,Pool.cases,h,rcase,hr]
 · rfl
theorem Pool.next_running (hp:p.Ok) {a b:Nat} {dn:Nat → Option Value} {Fx K:Nat → Prop} {g:Goroutine} {w:World} (h:p.Next a b dn Fx K g w):g.status=.running:=by
 rcases h with ⟨-,h⟩ | ⟨-,h⟩
 · exact (hp.sel _ _ _ _ _ _ _ h).1
 · exact hp.shut _ _ _ _ _ h
variable {gs:Array Goroutine} {w w':World} {t:Trace} {a b:Nat} {dn:Nat → Option Value} {Fx K:Nat → Prop} {D:Nat → Wk P} {m:Nat}
theorem Pool.Zero0.step (hp:p.Ok) (hz:p.Zero0 gs w a b dn Fx K m) (h:p.Hand gs w t a b dn Fx K D) (hs:Sees K w w') (hn:∃ s tm,w'.heap[p.cn]? = some (.chan 0 #[] false s s tm)) (hr:∃ s tm,w'.heap[p.cr]? = some (.chan 0 #[] false s s tm))
  {i:Nat} (hi:0 < i) {g g':Goroutine} (hg':g'.status ≠ .blocked):p.Zero0 ((gs.map (woken P g g' w')).setIfInBounds i g') w' a b dn Fx K m:=by
 obtain ⟨g0,h0,⟨k,hk,hgo⟩ | ⟨hm,g1,h1,h2,rfl,h4⟩⟩:=hz
 ·
  refine ⟨g0,?_,.inl ⟨k,hk,hgo.rely hs⟩⟩
  rw [get_map_set _ _ _ _ (by omega),h0]
  simp [woken_run (hgo.running fun _ _ _=>Pool.next_running hp)]
 ·
  refine ⟨_,?_,.inr ⟨hm,g1,hp.sees _ _ _ _ _ _ _ _ h1 hs,h2,rfl,fun j y hj hy=>?_⟩⟩
  ·
   rw [get_map_set _ _ _ _ (by omega),h0]
   simp [woken_sel g1 a hn hr]
  ·
   by_cases e:i=j
   ·
    subst e
    by_cases hlt:i < gs.size
    ·
     rw [get_map_set_same _ _ _ hlt] at hy
     cases hy
     exact ⟨offersAt_of_not_blocked hg' _ _,fun _=>offersAt_of_not_blocked hg' _ _⟩
    · rw [Array.getElem?_eq_none (by simpa using hlt)] at hy;cases hy
   ·
    rw [get_map_set _ _ _ _ e] at hy
    obtain ⟨z,hz,rfl⟩:=Option.map_eq_some_iff.1 hy
    rw [(h.sit j z hj hz).woken hp hn hr]
    exact h4 j z hj hz
theorem lower_one {k:Nat} {x:Nat} {f f':Nat → Nat × Option (GoodSt P)} {i:Nat} (hi:i < k) (h:Near P (f' i) (f i)) (ho:∀ j,j ≠ i → f' j=f j):LowerW (Near P) k (x,f') (x,f):=.inr ⟨rfl,i,hi,h,ho⟩
theorem Pool.Inv.worker {i:Nat} (hi:0 < i) (hit:i < p.top) {x':Wk P} (hr:Near P x'.rank (D i).rank) {gs':Array Goroutine} {t':Trace} (hH:p.Hand gs' w' t' a b dn Fx K (upd D i x')) (hz:p.Zero0 gs' w' a b dn Fx K m) :
  ∃ μ',LowerW (Near P) p.top μ' (2 * p.n - (a+b),fun i=>if i=0 then (m,none) else (D i).rank) ∧ p.Inv μ' gs' w' t':=by
 refine ⟨_,?_,a,b,dn,Fx,K,upd D i x',m,hH,hz,rfl⟩
 refine lower_one hit ?_ fun j hj=>?_
 ·
  simp only [if_neg (show i ≠ 0 by omega),upd_same]
  exact hr
 ·
  by_cases h0:j=0
  · simp [h0]
  · simp only [if_neg h0,upd_ne D _ hj]
theorem ofEvents_nil (i:Nat) (fn:FuncId) (pos:String):MemOp.ofEvents i fn pos #[] = #[]:=rfl
theorem Pool.Hand.walk (hp:p.Ok) (h:p.Hand gs w t a b dn Fx K D) (hz:p.Zero0 gs w a b dn Fx K m) {sl:Option (Nat × Nat)} {i:Nat} {g g':Goroutine} {es:Array Event} {x':Wk P} (hi:p.base ≤ i) (hg:gs[i]? = some g)
  (hst:∀ w,p.Still w → stepG P false g w=.go g' w es) (he:∀ e ∈ es,p.Ev e) (hh:x'.hold=(D i).hold) (hn:x'.num=(D i).num) (hm:∀ c,x'.mine c ↔ (D i).mine c) (hs:p.Sit x' i g' w 0) (hrun:g'.status ≠ .blocked) (hr:Near P x'.rank (D i).rank) :
  ∃ gs' w' ops,runT P (crowd gs w sl) i=(.next (crowd gs' w' sl),ops) ∧ ∃ μ',LowerW (Near P) p.top μ' (2 * p.n - (a+b),fun i=>if i=0 then (m,none) else (D i).rank) ∧ p.Inv μ' gs' w' (t ++ ops):=by
 have hi0:(i == 0)=false:=by have:=hp.pos;simp;omega
 have hpos:0 < i:=by have:=hp.pos;omega
 refine ⟨_,w,_,runT_crowd_go (P:=P) (sl:=sl) (i:=i) hg (by rw [hi0];exact hst w h.still),?_⟩
 refine Pool.Inv.worker hpos (by rw [← h.size];exact get_zero hg) hr (h.stepW hp hi hg (Nat.le_refl _) ⟨rfl,rfl⟩ (fun _ _ _=>rfl) hh hn (N:=fun _=>False) (fun c=>by simp [hm c]) (fun c hc=>hc.elim) (fun e hx=>?_) hs _ _) (hz.step hp h (Sees.refl K w) h.chn h.chr hpos hrun)
 obtain ⟨ad,h1,h2⟩:=he e hx
 exact .inl ⟨ad,h1,.inl h2⟩
theorem Pool.Hand.call (hp:p.Ok) (h:p.Hand gs w t a b dn Fx K D) (hz:p.Zero0 gs w a b dn Fx K m) {sl:Option (Nat × Nat)} {i:Nat} {g:Goroutine} (hi:p.base ≤ i) (hg:gs[i]? = some g) (hs:p.SitD (D i) g w) :
  ∃ gs' w' ops,runT P (crowd gs w sl) i=(.next (crowd gs' w' sl),ops) ∧ ∃ μ',LowerW (Near P) p.top μ' (2 * p.n - (a+b),fun i=>if i=0 then (m,none) else (D i).rank) ∧ p.Inv μ' gs' w' (t ++ ops):=by
 obtain ⟨k1,k2,c,wo,y,r,fr,cs,k3,k4,k5,k6,rfl,k8,k9⟩:=hs
 have hi0:(i == 0)=false:=by have:=hp.pos;simp;omega
 have hpos:0 < i:=by have:=hp.pos;omega
 have hgl:P.globals.size ≤ wo.heap.size:=Nat.le_trans hp.glob k4.2
 have hok0:=(hp.begins (D i).num wo [] k2 k4).ok
 have hd0:Deaf t i=0:=by
  rcases h.sit i _ hpos hg with ⟨h1,-⟩ | ⟨-,h1,-⟩
  · omega
  · exact h1
 -- what a step of the call's does to the world
 have hworld:∀ {r1:Ren} {w2:World} {evs es:Array Event} {x':Wk P} {g':Goroutine},FrR wo.heap.size r r1 w w2 → (∀ e ∈ evs,EvR wo.heap.size r1 e) → (∀ e ∈ es,e ∈ evs) → stepG P false (G fr cs) w=.go g' w2 es → x'.hold=(D i).hold → x'.num=(D i).num → (∀ e,x'.mine e ↔ ∃ a,wo.heap.size ≤ a ∧ r1.rel a e) → p.Sit x' i g' w2 0 → g'.status ≠ .blocked → Near P x'.rank (D i).rank →
   ∃ gs' w' ops,runT P (crowd gs w sl) i=(.next (crowd gs' w' sl),ops) ∧ ∃ μ',LowerW (Near P) p.top μ' (2 * p.n - (a+b),fun i=>if i=0 then (m,none) else (D i).rank) ∧ p.Inv μ' gs' w' (t ++ ops):=by
  intro r1 w2 evs es x' g' hfr hev hsub hst hh hn hmine hsit hrun hrank
  have hstand:∀ e,e < w.heap.size → ¬ (D i).mine e → w2.heap[e]? = w.heap[e]?:=fun e he hne=>hfr.other e he fun a ha hr=>hne ((k8 e).2 ⟨a,ha,hr⟩)
  have hK:Sees K w w2:=⟨fun e he=>hstand e (h.keeps.kl e he) fun hm=>(h.own i e hm).1 he,hfr.size,hfr.os,hfr.output⟩
  have hlow:∀ e,e < p.w0.heap.size → w2.heap[e]? = w.heap[e]?:=fun e he=>hstand e (Nat.lt_of_lt_of_le he h.still.2) fun hm=>by have:=(h.own i e hm).2.2;omega
  refine ⟨_,w2,_,runT_crowd_go (P:=P) (sl:=sl) (i:=i) hg (by rw [hi0];exact hst),?_⟩
  refine Pool.Inv.worker hpos (by rw [← h.size];exact get_zero hg) hrank (h.stepW hp hi hg hfr.size ⟨hfr.os,hfr.output⟩ hstand hh hn (N:=fun e=>w.heap.size ≤ e ∧ e < w2.heap.size ∧ x'.mine e) (fun e=>?_) (fun e he=>⟨he.1,he.2.1⟩) (fun e he=>?_) hsit _ _) (hz.step hp h hK (by rw [hlow _ hp.clow.1];exact h.chn) (by rw [hlow _ hp.clow.2];exact h.chr) hpos hrun)
  ·
   constructor
   ·
    intro hx
    obtain ⟨u,hu,hr⟩:=(hmine e).1 hx
    rcases hfr.new u e hr with h1 | ⟨-,h1,h2⟩
    · exact .inl ((k8 e).2 ⟨u,hu,h1⟩)
    · exact .inr ⟨h1,h2,hx⟩
   ·
    rintro (hx | hx)
    ·
     obtain ⟨u,hu,hr⟩:=(k8 e).1 hx
     exact (hmine e).2 ⟨u,hu,hfr.le _ _ hr⟩
    · exact hx.2.2
  ·
   have hrd:∀ u e,r1.rel u e → p.S e ∨ x'.mine e:=fun u e hr=>by
    rcases Nat.lt_or_ge u wo.heap.size with hlt | hge
    ·
     rcases hfr.new u e hr with h1 | ⟨h1,-⟩
     · exact .inl (k9 u e h1 hlt)
     · omega
    · exact .inr ((hmine e).2 ⟨u,hge,hr⟩)
   rcases hev e (hsub e he) with ⟨u,e',off,sp,h1,rfl⟩ | ⟨u,e',off,sp,h0,h1,rfl⟩ | ⟨u,e',wr,h0,h1,rfl⟩ | h1 | h1
   · exact .inl ⟨_,rfl,hrd u e' h1⟩
   · exact .inr (.inl ⟨_,rfl,(hmine e').2 ⟨u,h0,h1⟩⟩)
   · exact .inr (.inr (.inl ⟨_,_,rfl,(hmine e').2 ⟨u,h0,h1⟩⟩))
   · exact .inr (.inr (.inr (.inl h1)))
   · exact .inr (.inr (.inr (.inr h1)))
 by_cases hst:Stopped y.1
 ·
  obtain ⟨hcs,q1,q2,q3,v,v',T,fn,r1,w2,evs,q4,q5,q6,q7,q8,⟨tt,tt',q9⟩,q10,q11⟩:=k6.stop hp.fns hgl (hp.ends _ _ k2 k4) hok0 hst
  subst hcs
  have hfine:p.Fine (D i).num v':=⟨v,_,r1,q4,q8⟩
  obtain ⟨mm,g',hle,hwk,hsend⟩:=hp.made _ c v' k3 k2 hfine
  refine hworld (x':=⟨1,(mm+1,none),fun e=>∃ a,wo.heap.size ≤ a ∧ r1.rel a e,(D i).num⟩) q10 q11 (fun e he=>mem_seen he) (stepG_back q1 q2 q3 q5 q6 q7) k1.symm rfl (fun _=>Iff.rfl) (.inr ⟨hi,rfl,.inr (.inr (.inr (.inr (.inl ⟨rfl,k2,mm,g',v',rfl,hwk,hsend,?_⟩))))⟩) (by simp [G]) (.inl ?_)
  ·
   refine ⟨y.1.2,r1,wo.heap.size,v,T,tt,tt',fun u e hr=>?_,q4,q8,q9,fun g hg=>q10.le _ _ (k6.glob g hg)⟩
   rcases Nat.lt_or_ge u wo.heap.size with hlt | hge
   ·
    rcases q10.new u e hr with h1 | ⟨h1,-⟩
    · exact .inl (k9 u e h1 hlt)
    · omega
   · exact .inr ⟨u,hge,hr⟩
  ·
   rw [k5]
   show mm+1 < 60
   omega
 ·
  obtain ⟨y',r1,fr1,cs1,w2,evs,q1,q2,q3,q4,q5⟩:=k6.step hp.fns hgl (hp.ends _ _ k2 k4) hok0 hst false
  refine hworld (x':=⟨1,(60,some ⟨y',y.2.inv q2⟩),fun e=>∃ a,wo.heap.size ≤ a ∧ r1.rel a e,(D i).num⟩) q4 q5 (fun e he=>mem_seen he) q1 k1.symm rfl (fun _=>Iff.rfl) (.inr ⟨hi,rfl,.inr (.inr (.inr (.inl ⟨rfl,k2,c,wo,⟨y',y.2.inv q2⟩,r1,fr1,cs1,k3,k4,rfl,q3,rfl,fun _=>Iff.rfl,fun u e hr hlt=>?_⟩)))⟩) (by simp [G]) (.inr ⟨by rw [k5],⟨y',y.2.inv q2⟩,y,rfl,by rw [k5],q2⟩)
  rcases q4.new u e hr with h1 | ⟨h1,-⟩
  · exact k9 u e h1 hlt
  · omega
end
end Go.Proofs.YtbokomeejmnnoaaDoor

namespace Go.Proofs.YtbokomeejmnnoaaDoor
open Go.Conc
open Go.ConcN (sumTo upd sumTo_upd upd_ne upd_same sumTo_congr get_map_set get_map_set_same deafBehind_idle le_sumTo)
section
variable {P:Program} {gs:Array Goroutine} {w:World} {sl:Option (Nat × Nat)}
theorem ways_recv {c s r:Nat} {tm:Bool} (z:Value) (hc:w.heap[c]? = some (.chan 0 #[] false s r tm)):ways w gs (rcase c z)=(partners gs c true).map fun x=>.partner x.1 x.2:=by
 simp only [ways,rcase,hc]
 cases partners gs c true <;> simp
theorem ways_send {c s r:Nat} {tm:Bool} (v z:Value) (hc:w.heap[c]? = some (.chan 0 #[] false s r tm)):ways w gs ⟨.chan (some c),some v,z⟩=(partners gs c false).map fun x=>.partner x.1 x.2:=by
 simp only [ways,hc]
 cases partners gs c false <;> simp
theorem partner_in {i j k c:Nat} {snd:Bool} (h:(j,k) ∈ partners (gs.setIfInBounds i ph) c snd):∃ x,j ≠ i ∧ gs[j]? = some x ∧ k ∈ offersAt x c snd:=by
 obtain ⟨x,h1,h2⟩:=mem_partners.1 h
 rcases getElem?_stand gs i j x h1 with ⟨-,rfl⟩ | ⟨h3,h4⟩
 · rw [offersAt_ph] at h2;cases h2
 · exact ⟨x,h3,h4,h2⟩
theorem partners_stand {i c:Nat} {snd:Bool} (h:∀ (j:Nat) x,j ≠ i → gs[j]? = some x → offersAt x c snd=[]):partners (gs.setIfInBounds i ph) c snd=[]:=by
 refine List.eq_nil_iff_forall_not_mem.2 fun ⟨j,k⟩ hjk=>?_
 obtain ⟨x,h1,h2,h3⟩:=partner_in hjk
 rw [h j x h1 h2] at h3
 cases h3
theorem metAt_recv {i j jk k c s:Nat} {tm:Bool} {g g':Goroutine} {cases cs:Array CommCase} {shape sh:CommShape} {cc cj:CommCase} {v:Value} (hij:j ≠ i) (hj:gs[j]? = some (parked g' cs sh)) (hcs:cs[jk]? = some cj) (hv:cj.send=some v) (hcc:cc.send=none) :
  metAt P gs i g cases shape k j jk cc w c 0 #[] false s s tm sl=(.next (crowd ((gs.setIfInBounds j (g'.finishComm P cs sh jk undef false)).setIfInBounds i (g.finishComm P cases shape k v true)) (w.setChan c 0 #[] false (s+1) (s+1) tm) sl),met j i g'.frame.fn g'.frame.place g.frame.fn g.frame.place c s 0):=by
 have hj':=stand_get (i:=i) hij hj
 have hfp:=finishPartner_at P (gs.setIfInBounds i ph) hj' (cs:=cs) (sh:=sh) rfl jk undef
 have hgd:(gs.setIfInBounds i ph).getD j default=parked g' cs sh:=by rw [Array.getD_eq_getD_getElem?,hj'];rfl
 have hov:offeredValue (gs.setIfInBounds i ph) j jk=v:=by simp [offeredValue,hj',parked,hcs,hv]
 simp only [metAt,hcc,hfp,hgd,hov,hcs,Option.map_some,Option.getD_some,hv,Option.isNone_some,set_stand2,finishComm_parked,met]
 rfl
theorem metAt_send {i j jk k c s:Nat} {tm:Bool} {g g':Goroutine} {cases cs:Array CommCase} {shape sh:CommShape} {cc cj:CommCase} {v:Value} (hij:j ≠ i) (hj:gs[j]? = some (parked g' cs sh)) (hcs:cs[jk]? = some cj) (hv:cj.send=none) (hcc:cc.send=some v) :
  metAt P gs i g cases shape k j jk cc w c 0 #[] false s s tm sl=(.next (crowd ((gs.setIfInBounds j (g'.finishComm P cs sh jk v true)).setIfInBounds i (g.finishComm P cases shape k undef false)) (w.setChan c 0 #[] false (s+1) (s+1) tm) sl),met i j g.frame.fn g.frame.place g'.frame.fn g'.frame.place c s 0):=by
 have hj':=stand_get (i:=i) hij hj
 have hfp:=finishPartner_at P (gs.setIfInBounds i ph) hj' (cs:=cs) (sh:=sh) rfl jk v
 have hgd:(gs.setIfInBounds i ph).getD j default=parked g' cs sh:=by rw [Array.getD_eq_getD_getElem?,hj'];rfl
 simp only [metAt,hcc,hfp,hgd,hcs,Option.map_some,Option.getD_some,hv,Option.isNone_none,set_stand2,finishComm_parked,met]
 rfl
theorem get_set2 {i j:Nat} {x y:Goroutine} (hij:j ≠ i) (hi:i < gs.size) (hj:j < gs.size):((gs.setIfInBounds j y).setIfInBounds i x).size=gs.size ∧ ((gs.setIfInBounds j y).setIfInBounds i x)[i]? = some x ∧ ((gs.setIfInBounds j y).setIfInBounds i x)[j]? = some y ∧ ∀ k,k ≠ i → k ≠ j → ((gs.setIfInBounds j y).setIfInBounds i x)[k]? = gs[k]?:=by
 refine ⟨by simp,?_,?_,fun k h1 h2=>?_⟩
 · rw [Array.getElem?_setIfInBounds_self_of_lt (by simpa using hi)]
 · rw [Array.getElem?_setIfInBounds_ne (fun e=>hij e.symm),Array.getElem?_setIfInBounds_self_of_lt hj]
 · rw [Array.getElem?_setIfInBounds_ne (fun e=>h1 e.symm),Array.getElem?_setIfInBounds_ne (fun e=>h2 e.symm)]
end
section
variable {P:Program} {p:Pool P} {gs:Array Goroutine} {w w':World} {t:Trace} {a b:Nat} {dn:Nat → Option Value} {Fx K:Nat → Prop} {D:Nat → Wk P} {m:Nat}
theorem Pool.Hand.set (h:p.Hand gs w t a b dn Fx K D) {i:Nat} {g':Goroutine} {x':Wk P} (hi:0 < i) (hlt:i < gs.size) (hh:x'.hold=(D i).hold) (hn:x'.num=(D i).num) (hm:x'.mine=(D i).mine) (hs:p.Sit x' i g' w (Deaf t i)) :
  p.Hand (gs.setIfInBounds i g') w t a b dn Fx K (upd D i x'):=by
 have hsame:∀ j,(upd D i x' j).mine=(D j).mine ∧ (upd D i x' j).hold=(D j).hold ∧ (upd D i x' j).num=(D j).num:=fun j=>by
  by_cases e:j=i
  · subst e;rw [upd_same];exact ⟨hm,hh,hn⟩
  · rw [upd_ne D _ e];exact ⟨rfl,rfl,rfl⟩
 refine ⟨by simp [h.size],h.still,h.chn,h.chr,h.keeps,fun j y hj hy=>?_,fun j c hc=>h.own j c (by rw [(hsame j).1] at hc;exact hc),fun j k c h1 h2=>h.one j k c (by rw [(hsame j).1] at h1;exact h1) (by rw [(hsame k).1] at h2;exact h2),by rw [(hsame 0).2.1];exact h.zero,idle_upd h.idle ⟨hi,by rw [← h.size];exact hlt⟩,h.above,?_,h.norel,fun k hk=>?_,?_,h.an,h.res⟩
 ·
  by_cases e:i=j
  ·
   subst e
   rw [Array.getElem?_setIfInBounds_self_of_lt hlt] at hy
   cases hy
   rw [upd_same]
   exact hs
  ·
   rw [Array.getElem?_setIfInBounds_ne e] at hy
   rw [upd_ne D _ (Ne.symm e)]
   exact h.sit j y hj hy
 ·
  have e:p.sets p.top (upd D i x')=p.sets p.top D:=by
   have:(p.sets p.top (upd D i x')).mine=(p.sets p.top D).mine:=by
    funext j
    exact (hsame j).1
   have e2:p.sets p.top (upd D i x')={ p.sets p.top D with mine:=(p.sets p.top (upd D i x')).mine }:=rfl
   rw [e2,this]
  rw [e]
  exact h.past
 ·
  rcases h.cover k hk with h1 | ⟨j,j1,j2,j3,j4⟩
  · exact .inl h1
  · exact .inr ⟨j,j1,j2,by rw [(hsame j).2.1];exact j3,by rw [(hsame j).2.2];exact j4⟩
 ·
  rw [← h.count]
  congr 1
  exact sumTo_congr fun j _=>(hsame j).2.1
theorem Pool.Hand.set0 (h:p.Hand gs w t a b dn Fx K D) {g':Goroutine}:p.Hand (gs.setIfInBounds 0 g') w t a b dn Fx K D:=
 ⟨by simp [h.size],h.still,h.chn,h.chr,h.keeps,fun j y hj hy=>by
  rw [Array.getElem?_setIfInBounds_ne (by omega)] at hy
  exact h.sit j y hj hy,h.own,h.one,h.zero,h.idle,h.above,h.past,h.norel,h.cover,h.count,h.an,h.res⟩
theorem Pool.Hand.ba (h:p.Hand gs w t a b dn Fx K D):b ≤ a:=by have:=h.count;omega
theorem lower_first {k x' x:Nat} {f f':Nat → Nat × Option (GoodSt P)} (h:x' < x):LowerW (Near P) k (x',f') (x,f):=.inl h
theorem Pool.Keeps.sees {Fx K:Nat → Prop} (h:p.Keeps Fx K w) (hs:w.heap.size ≤ w'.heap.size):p.Keeps Fx K w':=⟨h.fk,h.sf,h.kc,fun c hc=>Nat.lt_of_lt_of_le (h.kl c hc) hs⟩
theorem Pool.Inv.handed (hp:p.Ok) (h:p.Hand gs w t a b dn Fx K D) {j:Nat} {g g1:Goroutine} (hsel:p.Sel a b dn Fx K g1 w) (hbn:b < p.n) (hj:p.base ≤ j) (hjt:j < p.top) (hh:(D j).hold=0) (hm:∀ c,¬ (D j).mine c) (hd:Deaf t j=0) (hr:p.Recv g) (han:a < p.n)
  {s:Nat} {tm:Bool} (hc:w.heap[p.cn]? = some (.chan 0 #[] false s s tm)) {gs':Array Goroutine} (hsz:gs'.size=gs.size) (hoth:∀ k,k ≠ 0 → k ≠ j → gs'[k]? = gs[k]?)
  (hgj:gs'[j]? = some (g.finishComm P #[rcase p.cn p.zn] (.recv true) 0 (.int .i64 a) true)) (hg0:gs'[0]? = some (g1.finishComm P (p.cases a) .select (0:Nat) undef false)) (f0:FuncId) (p0:String) (fj:FuncId) (pj:String) (d:Nat) :
  ∃ μ',LowerW (Near P) p.top μ' (2 * p.n - (a+b),fun i=>if i=0 then (m,none) else (D i).rank) ∧ p.Inv μ' gs' ((w.at d).setChan p.cn 0 #[] false (s+1) (s+1) tm) (t ++ met 0 j f0 p0 fj pj p.cn s 0):=by
 obtain ⟨x,hx⟩:=h.handed hp hj hjt hh hm hd hr han hc hsz hoth hgj f0 p0 fj pj d
 have hs:=(sees_at K w d).trans (sees_setChan K (w.at d) h.keeps.kc.1 0 #[] false (s+1) (s+1) tm)
 obtain ⟨mm,hgo⟩:=hp.handed a b dn Fx K g1 _ (hp.sees _ _ _ _ _ _ _ _ hsel hs) (h.keeps.sees hs.2) han hbn
 refine ⟨_,lower_first ?_,a+1,b,dn,Fx,K,upd D j x,mm+1,hx,⟨_,hg0,.inl ⟨mm,rfl,hgo⟩⟩,rfl⟩
 have:=h.ba
 omega
theorem Pool.Inv.took (hp:p.Ok) (h:p.Hand gs w t a b dn Fx K D) {j:Nat} {g g1:Goroutine} {v:Value} (hsel:p.Sel a b dn Fx K g1 w) (hbn:b < p.n) (hj:p.base ≤ j) (hjt:j < p.top) (hh:(D j).hold=1) (hnum:(D j).num < p.n) (hmade:p.Made (D j).num v (fun c=>p.S c ∨ (D j).mine c) w) (hd:Deaf t j=0) (hr:p.Send (p.val (D j).num v) g)
  {s:Nat} {tm:Bool} (hc:w.heap[p.cr]? = some (.chan 0 #[] false s s tm)) {gs':Array Goroutine} (hsz:gs'.size=gs.size) (hoth:∀ k,k ≠ 0 → k ≠ j → gs'[k]? = gs[k]?)
  (hgj:gs'[j]? = some (g.finishComm P #[scase p.cr (p.val (D j).num v) p.zr] .send 0 undef false)) (hg0:gs'[0]? = some (g1.finishComm P (p.cases a) .select (1:Nat) (p.val (D j).num v) true)) (f0:FuncId) (p0:String) (fj:FuncId) (pj:String) (d:Nat) :
  ∃ μ',LowerW (Near P) p.top μ' (2 * p.n - (a+b),fun i=>if i=0 then (m,none) else (D i).rank) ∧ p.Inv μ' gs' ((w.at d).setChan p.cr 0 #[] false (s+1) (s+1) tm) (t ++ met j 0 fj pj f0 p0 p.cr s 0):=by
 obtain ⟨x,hx⟩:=h.took hp hj hjt hh hnum hmade hd hr hc hsz hoth hgj f0 p0 fj pj d
 have hs:=(sees_at K w d).trans (sees_setChan K (w.at d) h.keeps.kc.2 0 #[] false (s+1) (s+1) tm)
 have hmore:=hp.more _ _ _ _ _ (D j).mine _ _ (hp.sees _ _ _ _ _ _ _ _ hsel hs) fun c hc=>(h.own j c hc).1
 obtain ⟨mm,hgo⟩:=hp.took a b dn _ _ g1 _ (D j).num v hmore hx.keeps hbn hnum hmade.fine
 refine ⟨_,lower_first ?_,a,b+1,_,_,_,upd D j x,mm+1,hx,⟨_,hg0,.inl ⟨mm,rfl,hgo⟩⟩,rfl⟩
 have:=h.ba
 have:=h.an
 omega
abbrev Pool.Goal (p:Pool P) (gs:Array Goroutine) (w:World) (t:Trace) (sl:Option (Nat × Nat)) (i a b m:Nat) (D:Nat → Wk P):Prop:=
 ∃ gs' w' ops,runT P (crowd gs w sl) i=(.next (crowd gs' w' sl),ops) ∧ ∃ μ',LowerW (Near P) p.top μ' (2 * p.n - (a+b),fun i=>if i=0 then (m,none) else (D i).rank) ∧ p.Inv μ' gs' w' (t ++ ops)
theorem Pool.Hand.asks (hp:p.Ok) (h:p.Hand gs w t a b dn Fx K D) (hz:p.Zero0 gs w a b dn Fx K m) {sl:Option (Nat × Nat)} {i:Nat} {g:Goroutine} (hi:p.base ≤ i) (hg:gs[i]? = some g) (hd:Deaf t i=0) (hh:(D i).hold=0) (hm:∀ c,¬ (D i).mine c) (hrk:(D i).rank.1=1) (hr:p.Recv g):p.Goal gs w t sl i a b m D:=by
 have hpos:0 < i:=by have:=hp.pos;omega
 have hi0:(i == 0)=false:=by simp;omega
 have hlt:=get_zero hg
 obtain ⟨s,tm,hc⟩:=h.chn
 have hcomm:stepG P (i == 0) g w=.comm g #[rcase p.cn p.zn] true (.recv true) w #[]:=by rw [hi0];exact (hp.recv g hr).2 w
 have hoff:∀ (j:Nat) x,0 < j → gs[j]? = some x → offersAt x p.cn true=[]:=fun j x hj hx=>((h.sit j x hj hx).offers hp).1
 obtain ⟨g0,h0,hzz⟩:=id hz
 by_cases hpk:a < p.n ∧ m=0
 ·
  obtain ⟨han,hm0⟩:=hpk
  rcases hzz with ⟨k,hk,-⟩ | ⟨-,g1,hsel,hbn,rfl,hno⟩
  · omega
  have hoff0:=(sel_offers hp g1 a).1
  rw [if_pos han] at hoff0
  have hmem:(0,0) ∈ partners (gs.setIfInBounds i ph) p.cn true:=mem_partners.2 ⟨_,stand_get (by omega) h0,by rw [hoff0];simp⟩
  obtain ⟨k,cc,j,jk,d,hk,hway,hrun⟩:=crowd_meets (P:=P) (sl:=sl) hg hcomm (fun cc hcc=>by simp at hcc;subst hcc;exact made_recv _ hc)
   ⟨_,by simp;rfl,by rw [ways_recv _ hc];intro e;rw [List.map_eq_nil_iff] at e;rw [e] at hmem;cases hmem⟩ (fun cc hcc y hy=>by
    simp at hcc
    subst hcc
    rw [ways_recv _ hc] at hy
    obtain ⟨⟨x1,x2⟩,-,rfl⟩:=List.mem_map.1 hy
    exact ⟨x1,x2,rfl⟩)
  obtain ⟨rfl,rfl⟩:k=0 ∧ rcase p.cn p.zn=cc:=by
   rcases k with _ | k
   · exact ⟨rfl,by simpa using hk⟩
   · simp at hk
  rw [ways_recv _ hc] at hway
  obtain ⟨⟨x1,x2⟩,hx,he⟩:=List.mem_map.1 hway
  simp only [Way.partner.injEq] at he
  obtain ⟨rfl,rfl⟩:=he
  obtain ⟨y,y1,y2,y3⟩:=partner_in hx
  obtain rfl:x1=0:=by
   rcases Nat.eq_zero_or_pos x1 with e | e
   · exact e
   · rw [hoff x1 y e y2] at y3;cases y3
  rw [h0] at y2
  cases y2
  rw [hoff0,List.mem_singleton] at y3
  subst y3
  have hrun:=hrun p.cn 0 #[] false s s tm rfl hc
  rw [metAt_recv (by omega) h0 (cj:=⟨.chan (some p.cn),some (.int .i64 a),p.z0⟩) (v:=.int .i64 a) (by simp [Pool.cases,han]) rfl rfl] at hrun
  obtain ⟨q1,q2,q3,q4⟩:=get_set2 (gs:=gs) (i:=i) (j:=0) (x:=g.finishComm P #[rcase p.cn p.zn] (.recv true) (0:Nat) (.int .i64 a) true) (y:=g1.finishComm P (p.cases a) .select (0:Nat) undef false) (by omega) hlt (by omega)
  refine ⟨_,_,_,hrun,?_⟩
  rw [ofEvents_nil,Array.empty_append]
  exact Pool.Inv.handed hp h hsel hbn hi (by rw [← h.size];exact hlt) hh hm hd hr han hc q1 (fun k h1 h2=>q4 k h2 h1) q2 q3 _ _ _ _ d
 ·
  have hnone:partners (gs.setIfInBounds i ph) p.cn true=[]:=partners_stand fun j x hj hx=>by
   rcases Nat.eq_zero_or_pos j with rfl | hj0
   ·
    rw [h0] at hx
    cases hx
    rcases hzz with ⟨k,-,hgo⟩ | ⟨hm0,g1,hsel,hbn,rfl,hno⟩
    · exact offersAt_of_not_blocked (by rw [hgo.running fun _ _ _=>Pool.next_running hp];simp) _ _
    · rw [(sel_offers hp g1 a).1,if_neg fun han=>hpk ⟨han,hm0⟩]
   · exact hoff j x hj0 hx
  have hrun:=crowd_waits (P:=P) (sl:=sl) hg hcomm fun cc hcc=>by
   simp at hcc
   subst hcc
   exact ways_recv_none hc hnone
  refine ⟨_,w,_,hrun,?_⟩
  rw [ofEvents_nil,Array.append_empty]
  refine Pool.Inv.worker (D:=D) (i:=i) (x':={ D i with rank:=(0,none) }) hpos (by rw [← h.size];exact hlt) (.inl (by rw [hrk];exact Nat.zero_lt_one)) (h.set hpos hlt rfl rfl rfl (.inr ⟨hi,hd,.inr (.inl ⟨hh,hm,g,hr,rfl⟩)⟩)) ?_
  refine ⟨g0,by rw [Array.getElem?_setIfInBounds_ne (by omega)];exact h0,?_⟩
  rcases hzz with hzz | ⟨hm0,g1,hsel,hbn,e,hno⟩
  · exact .inl hzz
  ·
   refine .inr ⟨hm0,g1,hsel,hbn,e,fun j x hj hx=>?_⟩
   by_cases e:i=j
   ·
    subst e
    rw [Array.getElem?_setIfInBounds_self_of_lt hlt] at hx
    cases hx
    exact ⟨offersAt_parked_recv' _ _ _ _ _,fun han=>absurd ⟨han,hm0⟩ hpk⟩
   ·
    rw [Array.getElem?_setIfInBounds_ne e] at hx
    exact hno j x hj hx
theorem Pool.Hand.gives (hp:p.Ok) (h:p.Hand gs w t a b dn Fx K D) (hz:p.Zero0 gs w a b dn Fx K m) {sl:Option (Nat × Nat)} {i:Nat} {g:Goroutine} {v:Value} (hi:p.base ≤ i) (hg:gs[i]? = some g) (hd:Deaf t i=0) (hh:(D i).hold=1) (hnum:(D i).num < p.n) (hrk:(D i).rank.1=1) (hr:p.Send (p.val (D i).num v) g) (hmade:p.Made (D i).num v (fun c=>p.S c ∨ (D i).mine c) w):p.Goal gs w t sl i a b m D:=by
 have hpos:0 < i:=by have:=hp.pos;omega
 have hi0:(i == 0)=false:=by simp;omega
 have hlt:=get_zero hg
 obtain ⟨s,tm,hc⟩:=h.chr
 have hcomm:stepG P (i == 0) g w=.comm g #[scase p.cr (p.val (D i).num v) p.zr] true .send w #[]:=by rw [hi0];exact (hp.send _ g hr).2 w
 have hoff:∀ (j:Nat) x,0 < j → gs[j]? = some x → offersAt x p.cr false=[]:=fun j x hj hx=>((h.sit j x hj hx).offers hp).2.1
 obtain ⟨g0,h0,hzz⟩:=id hz
 rcases hzz with ⟨k,hk,hgo⟩ | ⟨hm0,g1,hsel,hbn,rfl,hno⟩
 ·
  have hnone:partners (gs.setIfInBounds i ph) p.cr false=[]:=partners_stand fun j x hj hx=>by
   rcases Nat.eq_zero_or_pos j with rfl | hj0
   ·
    rw [h0] at hx
    cases hx
    exact offersAt_of_not_blocked (by rw [hgo.running fun _ _ _=>Pool.next_running hp];simp) _ _
   · exact hoff j x hj0 hx
  have hrun:=crowd_waits (P:=P) (sl:=sl) hg hcomm fun cc hcc=>by
   simp at hcc
   subst hcc
   exact ways_send_none hc (by simp) hnone
  refine ⟨_,w,_,hrun,?_⟩
  rw [ofEvents_nil,Array.append_empty]
  refine Pool.Inv.worker (D:=D) (i:=i) (x':={ D i with rank:=(0,none) }) hpos (by rw [← h.size];exact hlt) (.inl (by rw [hrk];exact Nat.zero_lt_one)) (h.set hpos hlt rfl rfl rfl (.inr ⟨hi,hd,.inr (.inr (.inr (.inr (.inr ⟨hh,hnum,g,v,hr,rfl,hmade⟩))))⟩)) ?_
  exact ⟨g0,by rw [Array.getElem?_setIfInBounds_ne (by omega)];exact h0,.inl ⟨k,hk,hgo⟩⟩
 ·
  have hoff0:=(sel_offers hp g1 a).2.2.2
  have hmem:(0,1) ∈ partners (gs.setIfInBounds i ph) p.cr false:=mem_partners.2 ⟨_,stand_get (by omega) h0,by rw [hoff0];simp⟩
  obtain ⟨k,cc,j,jk,d,hk,hway,hrun⟩:=crowd_meets (P:=P) (sl:=sl) hg hcomm (fun cc hcc=>by simp at hcc;subst hcc;exact made_send _ _ hc)
   ⟨_,by simp;rfl,by unfold scase;rw [ways_send _ _ hc];intro e;rw [List.map_eq_nil_iff] at e;rw [e] at hmem;cases hmem⟩ (fun cc hcc y hy=>by
    simp at hcc
    subst hcc
    unfold scase at hy
    rw [ways_send _ _ hc] at hy
    obtain ⟨⟨x1,x2⟩,-,rfl⟩:=List.mem_map.1 hy
    exact ⟨x1,x2,rfl⟩)
  obtain ⟨rfl,rfl⟩:k=0 ∧ scase p.cr (p.val (D i).num v) p.zr=cc:=by
   rcases k with _ | k
   · exact ⟨rfl,by simpa using hk⟩
   · simp at hk
  unfold scase at hway
  rw [ways_send _ _ hc] at hway
  obtain ⟨⟨x1,x2⟩,hx,he⟩:=List.mem_map.1 hway
  simp only [Way.partner.injEq] at he
  obtain ⟨rfl,rfl⟩:=he
  obtain ⟨y,y1,y2,y3⟩:=partner_in hx
  obtain rfl:x1=0:=by
   rcases Nat.eq_zero_or_pos x1 with e | e
   · exact e
   · rw [hoff x1 y e y2] at y3;cases y3
  rw [h0] at y2
  cases y2
  rw [hoff0,List.mem_singleton] at y3
  subst y3
  have hrun:=hrun p.cr 0 #[] false s s tm rfl hc
  rw [metAt_send (by omega) h0 (cj:=rcase p.cr p.z1) (v:=p.val (D i).num v) (by simp [Pool.cases]) rfl rfl] at hrun
  obtain ⟨q1,q2,q3,q4⟩:=get_set2 (gs:=gs) (i:=i) (j:=0) (x:=g.finishComm P #[scase p.cr (p.val (D i).num v) p.zr] .send (0:Nat) undef false) (y:=g1.finishComm P (p.cases a) .select (1:Nat) (p.val (D i).num v) true) (by omega) hlt (by omega)
  refine ⟨_,_,_,hrun,?_⟩
  rw [ofEvents_nil,Array.empty_append]
  exact Pool.Inv.took hp h hsel hbn hi (by rw [← h.size];exact hlt) hh hnum hmade hd hr hc q1 (fun k h1 h2=>q4 k h2 h1) q2 q3 _ _ _ _ d
end
end Go.Proofs.YtbokomeejmnnoaaDoor
