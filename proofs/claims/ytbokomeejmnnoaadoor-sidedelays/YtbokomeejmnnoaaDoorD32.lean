/- Own facts, put together: no statement of its own. -/
import Derived.Test.YtbokomeejmnnoaaDoorD31
import Derived.Conc.WgGenN3
import Derived.Test.YtbokomeejmnnoaaDoorD18

namespace Go.Proofs.YtbokomeejmnnoaaDoor
open Go.Conc
open Go.ConcN (sumTo upd sumTo_upd upd_ne upd_same sumTo_congr get_map_set get_map_set_same deafBehind_idle le_sumTo CTag WgLive bk_cell)
open Go.ConcR (KK WgAt stA smA rd wr mk Bk)
section
variable (P:Program) (ty:TypeId) (wg:Nat) (child:Goroutine) (Nx:Goroutine → Prop)
def AtGo1 (g:Goroutine):Prop:=g.status=.running ∧ ∃ g',(∀ w,WgLive ty wg w → stepG P true g w=.spawn g' child w #[]) ∧ Nx g'
def AtKe1 (g:Goroutine):Prop:=g.status=.running ∧ ∃ g',(∀ w,WgLive ty wg w → stepG P true g w=.go g' w #[mk .enable]) ∧ ∃ n,WT0 P ty wg (AtGo1 P ty wg child Nx) n g'
def AtA11 (g:Goroutine):Prop:=g.status=.running ∧ ∀ w (v:Nat),v < 2147483647 → WgAt ty wg w (v * KK) 0 → ∃ g',stepG P true g w=.go g' (w.setCell (stA wg) (.int .u64 ((v+1) * KK))) #[rd (stA wg),wr (stA wg)] ∧ ∃ n,WT0 P ty wg (AtKe1 P ty wg child Nx) n g'
def AtKd1 (g:Goroutine):Prop:=g.status=.running ∧ ∃ g',(∀ w,WgLive ty wg w → stepG P true g w=.go g' w #[mk .disable]) ∧ ∃ n,WT0 P ty wg (AtA11 P ty wg child Nx) n g'
end
def Spawns0 (P:Program) (ty:TypeId) (wg:Nat) (child:Goroutine) (Fin:Goroutine → Prop):Nat → Goroutine → Prop
 | 0,g=>Fin g
 | r+1,g=>∃ n,WT0 P ty wg (AtKd1 P ty wg child (Spawns0 P ty wg child Fin r)) n g
def Z1 (P:Program) (ty:TypeId) (wg:Nat) (child:Goroutine) (Fin:Goroutine → Prop) (r s f d:Nat) (g:Goroutine):Prop:=
 (s=4 ∧ d=0 ∧ WT0 P ty wg (AtKd1 P ty wg child (Spawns0 P ty wg child Fin r)) f g) ∨ (s=3 ∧ d=1 ∧ WT0 P ty wg (AtA11 P ty wg child (Spawns0 P ty wg child Fin r)) f g) ∨
 (s=2 ∧ d=1 ∧ WT0 P ty wg (AtKe1 P ty wg child (Spawns0 P ty wg child Fin r)) f g) ∨ (s=1 ∧ d=0 ∧ WT0 P ty wg (AtGo1 P ty wg child (Spawns0 P ty wg child Fin r)) f g)
section
variable {P:Program} {p:Pool P} {ty:TypeId} {child:Goroutine} {Fin:Goroutine → Prop}
theorem Z1.running {wg r s f d:Nat} {g:Goroutine} (h:Z1 P ty wg child Fin r s f d g):g.status=.running:=by
 rcases h with ⟨-,-,h⟩ | ⟨-,-,h⟩ | ⟨-,-,h⟩ | ⟨-,-,h⟩ <;> exact h.running fun _ x=>x.1
structure Pool.Begin (p:Pool P) (ty:TypeId) (gs:Array Goroutine) (w:World) (t:Trace) (f:Nat → Nat) (d0:Nat):Prop where
 size:p.base ≤ gs.size
 live:p.Live ty w
 world:∀ b,b ≠ p.wg → w.heap[b]? = p.w0.heap[b]?
 wsize:w.heap.size=p.w0.heap.size
 chn:∃ s tm,p.w0.heap[p.cn]? = some (.chan 0 #[] false s s tm)
 wk:∀ (i:Nat) g,0 < i → gs[i]? = some g → (i < p.base ∧ QuitsD P (f i) (Deaf t i) g) ∨ (p.base ≤ i ∧ Deaf t i=0 ∧ ((∃ m g',f i=m+1 ∧ Walk P false p.Still p.Ev m g g' ∧ p.Recv g') ∨ (f i=0 ∧ ∃ g',p.Recv g' ∧ g=parked g' #[rcase p.cn p.zn] (.recv true))))
 past:PastP (p.sets gs.size (noW P)) w.heap.size d0 t
 norel:NoRelease (stA p.wg) t
 above:∀ j,gs.size ≤ j → Deaf t j=0
variable {gs:Array Goroutine} {w w':World} {t:Trace} {f:Nat → Nat} {d0:Nat}
theorem Pool.Begin.open (hp:p.Ok) (h:p.Begin ty gs w t f d0):∃ s tm,w.heap[p.cn]? = some (.chan 0 #[] false s s tm):=by
 rw [h.world _ hp.cw.1]
 exact h.chn
theorem Pool.Begin.woken (hp:p.Ok) (h:p.Begin ty gs w t f d0) (hn:∃ s tm,w'.heap[p.cn]? = some (.chan 0 #[] false s s tm)) {i:Nat} {g:Goroutine} (hi:0 < i) (hg:gs[i]? = some g) (a a':Goroutine):woken P a a' w' g=g:=by
 obtain ⟨s,tm,hn⟩:=hn
 rcases h.wk i g hi hg with ⟨-,hq⟩ | ⟨-,-,⟨m,g',-,hw,hr⟩ | ⟨-,g',-,rfl⟩⟩
 · exact woken_quitsD hq
 · exact woken_run (walk_running hw (hp.recv _ hr).1)
 · exact woken_recv_open a a' hn
theorem Pool.Begin.awake (hp:p.Ok) (h:p.Begin ty gs w t f d0) {i:Nat} {g:Goroutine} (hi:0 < i) (hg:gs[i]? = some g):awake g:=by
 rcases h.wk i g hi hg with ⟨-,hq⟩ | ⟨-,-,⟨m,g',-,hw,hr⟩ | ⟨-,g',-,rfl⟩⟩
 · rcases hq.status with e | e <;> exact fun t=>by rw [e];simp
 · exact fun t=>by rw [walk_running hw (hp.recv _ hr).1];simp
 · exact fun t=>by simp [parked]
theorem Pool.Begin.wlt (hp:p.Ok) (h:p.Begin ty gs w t f d0):p.wg < w.heap.size:=Nat.lt_of_lt_of_le (hp.shlow _ hp.shwg) h.live.1.2
theorem Pool.Begin.at (h:p.Begin ty gs w t f d0) (d:Nat):p.Begin ty gs (w.at d) t f d0:=⟨h.size,⟨h.live.1.sees (sees_at _ w d),h.live.2⟩,h.world,h.wsize,h.chn,h.wk,h.past,h.norel,h.above⟩
theorem Pool.Begin.stepW (hp:p.Ok) (h:p.Begin ty gs w t f d0) {i:Nat} {g g':Goroutine} (hg:gs[i]? = some g) {es:Array Event} {m:Nat} {fn:FuncId} {pos:String}
  (hs:(i < p.base ∧ QuitsD P m (deafBehind (Deaf t i) es) g') ∨ (p.base ≤ i ∧ deafBehind (Deaf t i) es=0 ∧ ∃ k g'',m=k+1 ∧ Walk P false p.Still p.Ev k g' g'' ∧ p.Recv g''))
  (hpast:PastP (p.sets gs.size (noW P)) w.heap.size d0 (t ++ MemOp.ofEvents i fn pos es)) (hnr:∀ e ∈ es,∀ a,MemAct.ofEvent e ≠ .mark (.release a)) :
  p.Begin ty ((gs.map (Go.Conc.woken P g g' w)).setIfInBounds i g') w (t ++ MemOp.ofEvents i fn pos es) (upd f i m) d0:=by
 have hlt:=get_zero hg
 refine ⟨by simp [h.size],h.live,h.world,h.wsize,h.chn,fun j y hj hy=>?_,by simpa using hpast,h.norel.app fun op hop=>?_,fun j hj=>?_⟩
 ·
  by_cases e:i=j
  ·
   subst e
   rw [get_map_set_same _ _ _ hlt] at hy
   cases hy
   rw [upd_same,Deaf_own]
   rcases hs with hs | ⟨h1,h2,k,g'',h3⟩
   · exact .inl hs
   · exact .inr ⟨h1,h2,.inl ⟨k,g'',h3⟩⟩
  ·
   rw [get_map_set _ _ _ _ e] at hy
   obtain ⟨z,hz,rfl⟩:=Option.map_eq_some_iff.1 hy
   rw [h.woken hp (h.open hp) hj hz,upd_ne f _ (Ne.symm e),Deaf_other t e _ (g_ofE i _ _ _)]
   exact h.wk j z hj hz
 ·
  obtain ⟨e,he,rfl⟩:=Go.Conc.mem_ofEvents hop
  exact hnr e he _
 ·
  rw [Deaf_other t (by simp at hj;omega) _ (g_ofE i _ _ _)]
  exact h.above j (by simpa using hj)
theorem Pool.Begin.step0 (hp:p.Ok) (h:p.Begin ty gs w t f d0) {a a':Goroutine} {es:Array Event} {fn:FuncId} {pos:String} (hs:∀ b,b ≠ p.wg → w'.heap[b]? = w.heap[b]?) (hz:w'.heap.size=w.heap.size) (ho:w'.os=w.os ∧ w'.output=w.output) (hl:WgLive ty p.wg w') (hes:∀ e ∈ es,Ev3 p.wg e) :
  p.Begin ty ((gs.map (Go.Conc.woken P a a' w')).setIfInBounds 0 a') w' (t ++ MemOp.ofEvents 0 fn pos es) f (deafBehind d0 es):=by
 have hn:∃ s tm,w'.heap[p.cn]? = some (.chan 0 #[] false s s tm):=by rw [hs _ hp.cw.1];exact h.open hp
 refine ⟨by simp [h.size],h.live.stay hp hs hz ho hl,fun b hb=>(hs b hb).trans (h.world b hb),hz.trans h.wsize,h.chn,fun j y hj hy=>?_,?_,h.norel.app fun op hop=>?_,fun j hj=>?_⟩
 ·
  have e:0 ≠ j:=by omega
  rw [get_map_set _ _ _ _ e] at hy
  obtain ⟨z,hz,rfl⟩:=Option.map_eq_some_iff.1 hy
  rw [h.woken hp hn hj hz,Deaf_other t e _ (g_ofE 0 _ _ _)]
  exact h.wk j z hj hz
 ·
  rw [hz]
  have:=h.past.own0 (d':=deafBehind d0 es) (u:=MemOp.ofEvents 0 fn pos es) (Pool.sets_ok hp (fun _ _ hc=>hc.elim) fun _ _ _ hc=>hc.elim) (g_ofE _ _ _ _) (fun op hop b hb=>?_) ?_ (fun op hop=>?_)
  · simpa using this
  ·
   obtain ⟨e,he,rfl⟩:=Go.Conc.mem_ofEvents hop
   obtain ⟨⟨ad,h1,h2⟩,h3⟩:=(hes e he).1 b hb
   refine ⟨?_,fun _=>h3,fun _ _ hk=>hk.elim⟩
   rintro ⟨a',h4,h5⟩
   rw [h1] at h4
   cases h4
   rw [h2] at h5
   exact absurd hp.shwg (hp.parted _ h5)
  · rw [Deaf_own,h.past.hears]
  ·
   obtain ⟨e,he,rfl⟩:=Go.Conc.mem_ofEvents hop
   exact (hes e he).2.1 _ (h.wlt hp)
 ·
  obtain ⟨e,he,rfl⟩:=Go.Conc.mem_ofEvents hop
  exact (hes e he).2.2 _
 ·
  have:=hp.pos
  have:=h.size
  rw [Deaf_other t (by simp at hj;omega) _ (g_ofE 0 _ _ _)]
  exact h.above j (by simpa using hj)
theorem Pool.Begin.hired (hp:p.Ok) (h:p.Begin ty gs w t f 0) (hb:∃ m g',Walk P false p.Still p.Ev m child g' ∧ p.Recv g') {a':Goroutine} (fn:FuncId) (pos:String) (fc:FuncId) :
  ∃ m,p.Begin ty ((gs.setIfInBounds 0 a').push child) w (t ++ #[{ g:=0,fn:=fn,pos:=pos,act:=.go gs.size },{ g:=gs.size,fn:=fc,pos:=pos,act:=.start }]) (upd f gs.size m) 0:=by
 obtain ⟨m,g',hw,hr⟩:=hb
 have h0:0 < gs.size:=by have:=hp.pos;have:=h.size;omega
 have hdq:∀ k,Deaf (t ++ #[{ g:=0,fn:=fn,pos:=pos,act:=.go gs.size },{ g:=gs.size,fn:=fc,pos:=pos,act:=.start }]) k=Deaf t k:=fun k=>Deaf_quiet fun op hop d=>by
  simp only [List.mem_toArray,List.mem_cons,List.not_mem_nil,or_false] at hop
  rcases hop with rfl | rfl <;> rfl
 refine ⟨m+1,by simp;have:=h.size;omega,h.live,h.world,h.wsize,h.chn,fun j y hj hy=>?_,?_,h.norel.app fun op hop=>?_,fun j hj=>by rw [hdq];exact h.above j (by simp at hj;omega)⟩
 ·
  rw [hdq]
  by_cases e:j=gs.size
  ·
   subst e
   rw [Array.getElem?_push,Array.size_setIfInBounds,if_pos rfl] at hy
   cases hy
   rw [upd_same]
   exact .inr ⟨h.size,h.above _ (Nat.le_refl _),.inl ⟨m,g',rfl,hw,hr⟩⟩
  ·
   rw [upd_ne f _ e]
   refine h.wk j y hj ?_
   rw [Array.getElem?_push] at hy
   simp only [Array.size_setIfInBounds,if_neg e] at hy
   rw [Array.getElem?_setIfInBounds_ne (by omega)] at hy
   exact hy
 ·
  have:=h.past.hire (c:=gs.size) (Pool.sets_ok hp (fun _ _ hc=>hc.elim) fun _ _ _ hc=>hc.elim) (h.above _ (Nat.le_refl _)) fn pos fc
  have e:(p.sets gs.size (noW P)).more gs.size=p.sets ((gs.setIfInBounds 0 a').push child).size (noW P):=by
   have:((p.sets gs.size (noW P)).more gs.size).mem=(p.sets ((gs.setIfInBounds 0 a').push child).size (noW P)).mem:=by
    funext i
    show ((p.base ≤ i ∧ i < gs.size) ∨ i=gs.size)=(p.base ≤ i ∧ i < _)
    simp only [Array.size_push,Array.size_setIfInBounds]
    refine propext ⟨?_,?_⟩
    ·
     have:=h.size
     rintro (⟨h1,h2⟩ | h1)
     · exact ⟨h1,by omega⟩
     · exact ⟨by omega,by omega⟩
    ·
     rintro ⟨h1,h2⟩
     by_cases e:i=gs.size
     · exact .inr e
     · exact .inl ⟨h1,by omega⟩
   have e2:(p.sets gs.size (noW P)).more gs.size={ p.sets ((gs.setIfInBounds 0 a').push child).size (noW P) with mem:=((p.sets gs.size (noW P)).more gs.size).mem }:=rfl
   rw [e2,this]
  rw [e] at this
  exact this
 ·
  simp only [List.mem_toArray,List.mem_cons,List.not_mem_nil,or_false] at hop
  rcases hop with rfl | rfl <;> simp
end
section
variable {P:Program} {p:Pool P} {ty:TypeId} {child:Goroutine} {Fin:Goroutine → Prop} {Post:Value → World → Prop} {gs:Array Goroutine} {w w':World} {t:Trace} {f:Nat → Nat} {d0:Nat}
def added (base size s:Nat):Nat:=size - base+(if s ≤ 2 then 1 else 0)
def Pool.Inv1 (p:Pool P) (ty:TypeId) (child:Goroutine) (Fin:Goroutine → Prop) (μ:Nat × Nat) (gs:Array Goroutine) (w:World) (t:Trace):Prop:=
 ∃ (f:Nat → Nat) (d0 r s f0:Nat) (a:Goroutine),gs[0]? = some a ∧ Z1 P ty p.wg child Fin r s f0 d0 a ∧ p.Begin ty gs w t f d0 ∧ gs.size+r+1=p.top ∧ WgAt ty p.wg w ((added p.base gs.size s:Nat) * KK) 0 ∧ μ=(5 * r+s,f0+Go.ConcN.sumTo gs.size f)
theorem Pool.Begin.hand (hp:p.Ok) (hcn:¬ (p.S p.cn ∨ p.Sh p.cn) ∧ ¬ (p.S p.cr ∨ p.Sh p.cr)) (hchr:∃ s tm,p.w0.heap[p.cr]? = some (.chan 0 #[] false s s tm)) (h:p.Begin ty gs w t f 0) (hsz:gs.size=p.top) :
  p.Hand gs w t 0 0 (fun _=>none) (fun b=>p.S b ∨ p.Sh b) (fun b=>p.S b ∨ p.Sh b) (fun i=>⟨0,(f i,none),fun _=>False,0⟩):=by
 refine ⟨hsz,h.live.1,h.open hp,by rw [h.world _ hp.cw.2];exact hchr,⟨fun _=>id,fun _=>id,hcn,fun b hb=>?_⟩,fun i g hi hg=>?_,fun _ _ hc=>hc.elim,fun _ _ _ hc=>hc.elim,rfl,fun _ _ _ hc=>hc,fun j hj=>h.above j (by omega),?_,h.norel,fun i hi=>by omega,?_,Nat.zero_le _,fun _ _ hv=>by cases hv⟩
 ·
  have:=h.live.1.2
  rcases hb with hb | hb
  ·
   have:=hp.slow b hb
   omega
  ·
   have:=hp.shlow b hb
   omega
 ·
  rcases h.wk i g hi hg with ⟨h1,h2⟩ | ⟨h1,h2,⟨m,g',h3,h4,h5⟩ | ⟨h3,g',h4,rfl⟩⟩
  · exact .inl ⟨h1,rfl,fun _=>id,h2⟩
  · exact .inr ⟨h1,h2,.inl ⟨rfl,fun _=>id,m,g',h3,h4,h5⟩⟩
  · exact .inr ⟨h1,h2,.inr (.inl ⟨rfl,fun _=>id,g',h4,rfl⟩)⟩
 ·
  rw [← hsz]
  exact h.past
 ·
  have:∀ k,Go.ConcN.sumTo k (fun j=>((fun i=>(⟨0,(f i,none),fun _=>False,0⟩:Wk P)) j).hold)=0:=fun k=>by
   induction k with
   | zero=>rfl
   | succ k ih=>simp only [Go.ConcN.sumTo];rw [ih]
  rw [this]
theorem Pool.starts (hp:p.Ok) (hJ:p.top - p.base < 2147483647) (hborn:∃ m g',Walk P false p.Still p.Ev m child g' ∧ p.Recv g')
  (hfin:∀ gs w t sl f g,gs[0]? = some g → Fin g → p.Begin ty gs w t f 0 → gs.size=p.top → WgAt ty p.wg w ((p.top - p.base:Nat) * KK) 0 → WellEnds P Post (crowd gs w sl) t)
  {sl:Option (Nat × Nat)} {r:Nat} {g:Goroutine} (hg:gs[0]? = some g) (hs:Spawns0 P ty p.wg child Fin r g) (h:p.Begin ty gs w t f 0) (hsz:gs.size+r=p.top) (hwg:WgAt ty p.wg w ((gs.size - p.base:Nat) * KK) 0):WellEnds P Post (crowd gs w sl) t:=by
 cases r with
 | zero=>
  have e:gs.size=p.top:=hsz
  rw [e] at hwg
  exact hfin gs w t sl f g hg hs h e hwg
 | succ r=>
  obtain ⟨n,hs⟩:=hs
  refine ends_by (r:=Lt2) (Prod.lex Nat.lt_wfRel Nat.lt_wfRel).wf (p.Inv1 ty child Fin) ?_ ?_ ?_ ?_ _ gs w sl t ⟨f,0,r,4,n,g,hg,.inl ⟨rfl,rfl,hs⟩,h,by omega,by simpa [added] using hwg,rfl⟩
  ·
   rintro μ gs w t d ⟨f,d0,r,s,f0,a,ha,hz,h,h1,h2,rfl⟩
   exact ⟨f,d0,r,s,f0,a,ha,hz,h.at d,h1,h2,rfl⟩
  ·
   rintro μ gs w t ⟨f,d0,r,s,f0,a,ha,hz,h,h1,h2,rfl⟩ g hg
   obtain ⟨i,hi,rfl⟩:=Array.mem_iff_getElem.1 hg
   rcases Nat.eq_zero_or_pos i with rfl | hpos
   ·
    have:gs[0]=a:=by simpa [Array.getElem?_eq_getElem hi] using ha
    rw [this]
    exact fun t=>by rw [hz.running];simp
   · exact h.awake hp hpos (Array.getElem?_eq_getElem hi)
  ·
   rintro μ gs w t ⟨f,d0,r,s,f0,a,ha,hz,h,h1,h2,rfl⟩
   exact ⟨0,a,ha,hz.running⟩
  ·
   rintro μ gs w t sl i g ⟨f,d0,r,s,f0,a,ha,hz,h,hsz,hwg,rfl⟩ hg hrun
   rcases Nat.eq_zero_or_pos i with rfl | hpos
   ·
    obtain rfl:a=g:=by rw [ha] at hg;exact Option.some.inj hg
    -- an own step of goroutine 0's
    have go:∀ {a':Goroutine} {w':World} {es:Array Event} {s' f':Nat},stepG P true a w=.go a' w' es → (∀ b,b ≠ p.wg → w'.heap[b]? = w.heap[b]?) → w'.heap.size=w.heap.size → (w'.os=w.os ∧ w'.output=w.output) → WgAt ty p.wg w' ((added p.base gs.size s':Nat) * KK) 0 → (∀ e ∈ es,Ev3 p.wg e) → Z1 P ty p.wg child Fin r s' f' (deafBehind d0 es) a' → (s' < s ∨ (s'=s ∧ f' < f0)) →
      ∃ gs' w' ops,runT P (crowd gs w sl) 0=(.next (crowd gs' w' sl),ops) ∧ ((∃ μ',Lt2 μ' (5 * r+s,f0+Go.ConcN.sumTo gs.size f) ∧ p.Inv1 ty child Fin μ' gs' w' (t ++ ops)) ∨ WellEnds P Post (crowd gs' w' sl) (t ++ ops)):=by
     intro a' w' es s' f' hgo hs hz' ho hwg' hes hZ hlt
     refine ⟨_,w',_,runT_crowd_go (P:=P) (sl:=sl) (i:=0) ha (show stepG P (0 == 0) a w=_ from hgo),.inl ⟨(5 * r+s',f' + Go.ConcN.sumTo gs.size f),?_,f,deafBehind d0 es,r,s',f',a',get_map_set_same _ _ _ (get_zero ha),hZ,h.step0 hp hs hz' ho ⟨_,_,hwg'⟩ hes,by simpa using hsz,by simpa using hwg',by simp⟩⟩
     rcases hlt with hl | ⟨rfl,hl⟩
     · exact Prod.Lex.left _ _ (by omega)
     · exact Prod.Lex.right _ (by omega)
    have walk:∀ {K:Goroutine → Prop} {n:Nat},f0=n+1 → WT0 P ty p.wg K f0 a → (∀ g',WT0 P ty p.wg K n g' → Z1 P ty p.wg child Fin r s n d0 g') →
      ∃ gs' w' ops,runT P (crowd gs w sl) 0=(.next (crowd gs' w' sl),ops) ∧ ((∃ μ',Lt2 μ' (5 * r+s,f0+Go.ConcN.sumTo gs.size f) ∧ p.Inv1 ty child Fin μ' gs' w' (t ++ ops)) ∨ WellEnds P Post (crowd gs' w' sl) (t ++ ops)):=by
     intro K n hf hw hz'
     subst hf
     obtain ⟨g2,⟨-,g1,es,he,hst,hw⟩,hK⟩:=hw
     refine go (hst w h.live.2) (fun _ _=>rfl) rfl ⟨rfl,rfl⟩ hwg (fun e hx=>(ev3_said (he e hx)).1) (s':=s) (f':=n) ?_ (.inr ⟨rfl,by omega⟩)
     rw [deafBehind_idle fun e hx=>(ev3_said (he e hx)).2]
     exact hz' g1 ⟨g2,hw,hK⟩
    rcases hz with ⟨rfl,rfl,hz⟩ | ⟨rfl,rfl,hz⟩ | ⟨rfl,rfl,hz⟩ | ⟨rfl,rfl,hz⟩
    ·
     cases hf:f0 with
     | succ n=>rw [← hf];exact walk hf hz fun g' hx=>.inl ⟨rfl,rfl,hx⟩
     | zero=>
      subst hf
      obtain ⟨g',e,hK⟩:=hz
      cases e
      obtain ⟨-,g1,hst,n,hw⟩:=hK
      refine go (es:=#[Go.ConcR.mk .disable]) (hst w h.live.2) (fun _ _=>rfl) rfl ⟨rfl,rfl⟩ (s':=3) (f':=n) hwg (fun e he=>?_) (.inr (.inl ⟨rfl,rfl,hw⟩)) (.inl (by omega))
      simp at he
      subst he
      exact ev3_bk (.inl rfl)
    ·
     cases hf:f0 with
     | succ n=>rw [← hf];exact walk hf hz fun g' hx=>.inr (.inl ⟨rfl,rfl,hx⟩)
     | zero=>
      subst hf
      obtain ⟨g',e,hK⟩:=hz
      cases e
      have hadd:added p.base gs.size 3=gs.size - p.base:=by simp [added]
      rw [hadd] at hwg
      obtain ⟨g1,hst,n,hw⟩:=hK.2 w (gs.size - p.base) (by omega) hwg
      refine go hst (aside_setCell w (stA p.wg) _).block (aside_setCell w (stA p.wg) _).size ⟨rfl,rfl⟩ (s':=2) (f':=n) ?_ plk2 (.inr (.inr (.inl ⟨rfl,rfl,hw⟩))) (.inl (by omega))
      have e:((added p.base gs.size 2:Nat):Int)=((gs.size - p.base:Nat):Int)+1:=by simp [added]
      rw [e]
      exact hwg.setSt _
    ·
     cases hf:f0 with
     | succ n=>rw [← hf];exact walk hf hz fun g' hx=>.inr (.inr (.inl ⟨rfl,rfl,hx⟩))
     | zero=>
      subst hf
      obtain ⟨g',e,hK⟩:=hz
      cases e
      obtain ⟨-,g1,hst,n,hw⟩:=hK
      refine go (es:=#[Go.ConcR.mk .enable]) (hst w h.live.2) (fun _ _=>rfl) rfl ⟨rfl,rfl⟩ (s':=1) (f':=n) hwg (fun e he=>?_) (.inr (.inr (.inr ⟨rfl,rfl,hw⟩))) (.inl (by omega))
      simp at he
      subst he
      exact ev3_bk (.inr (.inl rfl))
    ·
     cases hf:f0 with
     | succ n=>rw [← hf];exact walk hf hz fun g' hx=>.inr (.inr (.inr ⟨rfl,rfl,hx⟩))
     | zero=>
      subst hf
      obtain ⟨g',e,hK⟩:=hz
      cases e
      obtain ⟨-,g1,hst,hN⟩:=hK
      have hrunT:=runT_crowd_spawn (P:=P) (sl:=sl) (i:=0) ha (show stepG P (0 == 0) a w=_ from hst w h.live.2)
      have hops:((MemOp.ofEvents 0 a.frame.fn a.frame.place #[]).push { g:=0,fn:=a.frame.fn,pos:=a.frame.place,act:=.go gs.size } |>.push { g:=gs.size,fn:=child.frame.fn,pos:=a.frame.place,act:=.start }) = #[{ g:=0,fn:=a.frame.fn,pos:=a.frame.place,act:=.go gs.size },{ g:=gs.size,fn:=child.frame.fn,pos:=a.frame.place,act:=.start }]:=rfl
      rw [hops] at hrunT
      obtain ⟨m,hB⟩:=h.hired hp hborn (a':=g1) a.frame.fn a.frame.place child.frame.fn
      have h0:((gs.setIfInBounds 0 g1).push child)[0]? = some g1:=by
       have:=get_zero ha
       rw [Array.getElem?_push,Array.size_setIfInBounds,if_neg (by omega),Array.getElem?_setIfInBounds_self_of_lt this]
      have hwg2:WgAt ty p.wg w ((((gs.setIfInBounds 0 g1).push child).size - p.base:Nat) * KK) 0:=by
       have e:(((gs.setIfInBounds 0 g1).push child).size - p.base:Nat)=added p.base gs.size 1:=by
        have:=h.size
        simp [added]
        omega
       rw [e]
       exact hwg
      refine ⟨_,w,_,hrunT,?_⟩
      cases r with
      | zero=>
       have e:((gs.setIfInBounds 0 g1).push child).size=p.top:=by simp;omega
       refine .inr (hfin _ w _ sl _ g1 h0 hN hB e ?_)
       rw [e] at hwg2
       exact hwg2
      | succ r=>
       obtain ⟨n,hN⟩:=hN
       exact .inl ⟨_,Prod.Lex.left _ _ (by omega),_,0,r,4,n,g1,h0,.inl ⟨rfl,rfl,hN⟩,hB,by simp;omega,by simpa [added] using hwg2,rfl⟩
   ·
    have hlt:=get_zero hg
    have hi0:(i == 0)=false:=by simp;omega
    have done:∀ {gs':Array Goroutine} {ops:Trace} {m:Nat},runT P (crowd gs w sl) i=(.next (crowd gs' w sl),ops) → gs'[0]? = some a → gs'.size=gs.size → p.Begin ty gs' w (t ++ ops) (upd f i m) d0 → m < f i →
      ∃ gs' w' ops,runT P (crowd gs w sl) i=(.next (crowd gs' w' sl),ops) ∧ ((∃ μ',Lt2 μ' (5 * r+s,f0+Go.ConcN.sumTo gs.size f) ∧ p.Inv1 ty child Fin μ' gs' w' (t ++ ops)) ∨ WellEnds P Post (crowd gs' w' sl) (t ++ ops)):=by
     intro gs' ops m hrunT h0 hsz' hB hm
     have hsum:Go.ConcN.sumTo gs.size (upd f i m)+f i=Go.ConcN.sumTo gs.size f+m:=by
      have:=sumTo_upd f m id hlt
      simpa using this
     refine ⟨gs',w,ops,hrunT,.inl ⟨(5 * r+s,f0+Go.ConcN.sumTo gs.size (upd f i m)),Prod.Lex.right _ (by omega),upd f i m,d0,r,s,f0,a,h0,hz,hB,by rw [hsz'];exact hsz,by rw [hsz'];exact hwg,by rw [hsz']⟩⟩
    have h0:∀ (x x':Goroutine),((gs.map (Go.Conc.woken P x x' w)).setIfInBounds i x')[0]? = some a:=fun x x'=>by
     rw [get_map_set _ _ _ _ (by omega),ha]
     simp [woken_run hz.running]
    rcases h.wk i g hpos hg with ⟨hb,hq⟩ | ⟨hb,hd,⟨m,g',hf,hw,hr⟩ | ⟨-,g',-,rfl⟩⟩
    ·
     generalize hrk:f i=q at hq
     cases q with
     | zero=>rw [hq.1] at hrun;cases hrun
     | succ q=>
      rcases hq with ⟨hf,_⟩ | ⟨_,g',es,hmute,hst,hq⟩
      · rw [hf] at hrun;cases hrun
      refine done (runT_crowd_go (P:=P) (sl:=sl) (i:=i) hg (by rw [hi0];exact hst w)) (h0 g g') (by simp) (h.stepW hp hg (.inl ⟨hb,hq⟩) ?_ fun e he a=>mute_norel (hmute e he) a) (by omega)
      refine h.past.mute (fun op hop=>?_) ?_ (fun op hop=>?_)
      ·
       obtain ⟨e,he,rfl⟩:=Go.Conc.mem_ofEvents hop
       exact touch_mute (hmute e he)
      ·
       rw [Deaf_other t (by omega) _ (g_ofE _ _ _ _)]
       exact h.past.hears
      ·
       obtain ⟨e,he,rfl⟩:=Go.Conc.mem_ofEvents hop
       exact low_mute (hmute e he) _
    ·
     cases m with
     | zero=>
      cases hw
      obtain ⟨s1,tm,hc⟩:=h.open hp
      have hcomm:stepG P (i == 0) g w=.comm g #[rcase p.cn p.zn] true (.recv true) w #[]:=by rw [hi0];exact (hp.recv g hr).2 w
      have hnone:partners (gs.setIfInBounds i ph) p.cn true=[]:=partners_stand fun j x hj hx=>by
       rcases Nat.eq_zero_or_pos j with rfl | hj0
       ·
        rw [ha] at hx
        cases hx
        exact offersAt_of_not_blocked (by rw [hz.running];simp) _ _
       ·
        rcases h.wk j x hj0 hx with ⟨-,hq⟩ | ⟨-,-,⟨m,g',-,hw,hr⟩ | ⟨-,g',-,rfl⟩⟩
        · exact offersAt_of_not_blocked (by rcases hq.status with e | e <;> rw [e] <;> simp) _ _
        · exact offersAt_of_not_blocked (by rw [walk_running hw (hp.recv _ hr).1];simp) _ _
        · exact offersAt_parked_recv' _ _ _ _ _
      have hrunT:=crowd_waits (P:=P) (sl:=sl) hg hcomm fun cc hcc=>by
       simp at hcc
       subst hcc
       exact ways_recv_none hc hnone
      rw [ofEvents_nil] at hrunT
      refine done (m:=0) hrunT (by rw [Array.getElem?_setIfInBounds_ne (by omega)];exact ha) (by simp) ?_ (by omega)
      rw [Array.append_empty]
      refine ⟨by simp [h.size],h.live,h.world,h.wsize,h.chn,fun j y hj hy=>?_,by simpa using h.past,h.norel,fun j hj=>h.above j (by simpa using hj)⟩
      by_cases e:i=j
      ·
       subst e
       rw [Array.getElem?_setIfInBounds_self_of_lt hlt] at hy
       cases hy
       rw [upd_same]
       exact .inr ⟨hb,hd,.inr ⟨rfl,g,hr,rfl⟩⟩
      ·
       rw [Array.getElem?_setIfInBounds_ne e] at hy
       rw [upd_ne f _ (Ne.symm e)]
       exact h.wk j y hj hy
     | succ m=>
      obtain ⟨-,g1,es,he,hst,hw⟩:=hw
      have hev:∀ e ∈ es,evW p.S (fun _=>False) e:=fun e hx=>by
       obtain ⟨ad,h1,h2⟩:=he e hx
       exact .inl ⟨ad,h1,.inl h2⟩
      refine done (runT_crowd_go (P:=P) (sl:=sl) (i:=i) hg (by rw [hi0];exact hst w h.live.1)) (h0 g g1) (by simp) (h.stepW hp hg (.inr ⟨hb,by rw [hd];exact deafBehind_idle (fun e hx=>(hev e hx).quiet) 0,m,g',rfl,hw,hr⟩) ?_ fun e hx a=>(hev e hx).norel a) (by omega)
      refine h.past.ownW (Pool.sets_ok hp (fun _ _ hc=>hc.elim) fun _ _ _ hc=>hc.elim) ⟨hb,hlt⟩ (g_ofE _ _ _ _) (fun op hop y hy=>?_) (fun op hop=>?_)
      ·
       obtain ⟨e,hx,rfl⟩:=Go.Conc.mem_ofEvents hop
       exact (hev e hx).touch hy
      ·
       obtain ⟨e,hx,rfl⟩:=Go.Conc.mem_ofEvents hop
       refine (hev e hx).low fun c hc=>?_
       rcases hc with hc | hc
       · exact Nat.lt_of_lt_of_le (hp.slow c hc) h.live.1.2
       · exact hc.elim
    · simp [parked] at hrun
end
end Go.Proofs.YtbokomeejmnnoaaDoor

namespace Go.Proofs.YtbokomeejmnnoaaDoor
open Go.Conc Go.RowKit Go.Conc.Lib Go.ConcR.Gen
def WTo (P:Program) (main:Bool) (F:World → Prop) (Ev:Event → Prop) (K:Goroutine → Prop) (g:Goroutine):Prop:=∃ n g',Walk P main F Ev n g g' ∧ K g'
section
variable {P:Program} {main:Bool} {F:World → Prop} {Ev:Event → Prop} {K:Goroutine → Prop} {g g':Goroutine}
theorem WTo.stop (h:K g):WTo P main F Ev K g:=⟨0,g,rfl,h⟩
theorem WTo.c (hs:g.status=.running) (h:∀ w,stepG P main g w=.go g' w):WTo P main F Ev K g' → WTo P main F Ev K g
 | ⟨n,g'',h1,h2⟩=>⟨n+1,g'',.c hs h h1,h2⟩
theorem WTo.cF (hs:g.status=.running) (h:∀ w,F w → stepG P main g w=.go g' w):WTo P main F Ev K g' → WTo P main F Ev K g
 | ⟨n,g'',h1,h2⟩=>⟨n+1,g'',.said (es:=#[]) hs (by simp) h h1,h2⟩
theorem WTo.said {es:Array Event} (hs:g.status=.running) (he:∀ e ∈ es,Ev e) (h:∀ w,F w → stepG P main g w=.go g' w es):WTo P main F Ev K g' → WTo P main F Ev K g
 | ⟨n,g'',h1,h2⟩=>⟨n+1,g'',.said hs he h h1,h2⟩
section
variable {b:Frame} {a:Act} {k:List Item} {cs:List Frame} {ops:Array Oper} {i:Nat} {rest:List Nat} {o:Oper}
theorem WTo.value (v:Value) (ho:ops[i]? = some o) (hw:Region.wanted o (yielded ops a.tmps)=true) (hk:b.kind ≠ .early) (hr:∀ w,(execOp a.eval o).run P w=.ok (.value v) w) (he:∀ w,(execOp a.eval o).events P w #[] = #[]) :
  WTo P main F Ev K (G (b.at (a.put o.dst v) (.inRegion ops rest :: k)) cs) → WTo P main F Ev K (G (b.at a (.inRegion ops (i :: rest) :: k)) cs)
 | ⟨n,g'',h1,h2⟩=>⟨n+1,g'',.value v ho hw hk hr he h1,h2⟩
theorem WTo.valueF (v:Value) (ho:ops[i]? = some o) (hw:Region.wanted o (yielded ops a.tmps)=true) (hk:b.kind ≠ .early) (hr:∀ w,F w → (execOp a.eval o).run P w=.ok (.value v) w) (he:∀ w,F w → (execOp a.eval o).events P w #[] = #[]) :
  WTo P main F Ev K (G (b.at (a.put o.dst v) (.inRegion ops rest :: k)) cs) → WTo P main F Ev K (G (b.at a (.inRegion ops (i :: rest) :: k)) cs):=
 .cF rfl fun w hF=>by rw [stepG_value ho hw hk (hr w hF)];unfold listed;rw [he w hF,seen_none]
theorem WTo.skip (ho:ops[i]? = some o) (hw:Region.wanted o (yielded ops a.tmps)=false):WTo P main F Ev K (G (b.at (a.put o.dst undef) (.inRegion ops rest :: k)) cs) → WTo P main F Ev K (G (b.at a (.inRegion ops (i :: rest) :: k)) cs):=.c rfl fun _=>stepG_unwanted ho hw
theorem WTo.call {f:FuncId} {fn:Func} {c:Code} {args:Array Operand} {ats:Array TypeId} (ho:ops[i]? = some o) (hw:Region.wanted o (yielded ops a.tmps)=true) (hk:b.kind ≠ .early) (hop:o.op=.call { callee:=.value (.func f),args,argTypes:=ats })
  (hf:P.funcs[f]? = some fn) (hname:(fn.name == "runtime.NumGoroutine")=false) (hb:fn.body=some c) :
  WTo P main F Ev K (G ((base f).at { tmps:=args.map a.eval ++ Array.replicate (fn.ntmps - (args.map a.eval).size) undef,defers:=[] } [.code c]) (b.at a (.inRegion ops (i :: rest) :: k) :: cs)) → WTo P main F Ev K (G (b.at a (.inRegion ops (i :: rest) :: k)) cs):=
 .c rfl fun w=>by
  have:=goes_call (P:=P) (main:=main) (w:=w) (cs:=cs) (k:=k) (rest:=rest) (K:=fun x w' es=>stepG P main (G (b.at a (.inRegion ops (i :: rest) :: k)) cs) w=.go x w' es ∧ x=(G ((base f).at { tmps:=args.map a.eval ++ Array.replicate (fn.ntmps - (args.map a.eval).size) undef,defers:=[] } [.code c]) (b.at a (.inRegion ops (i :: rest) :: k) :: cs)) ∧ w'=w ∧ es = #[]) ho hw hk hop hf hname hb
  by_cases hx:stepG P main (G (b.at a (.inRegion ops (i :: rest) :: k)) cs) w=.go (G ((base f).at { tmps:=args.map a.eval ++ Array.replicate (fn.ntmps - (args.map a.eval).size) undef,defers:=[] } [.code c]) (b.at a (.inRegion ops (i :: rest) :: k) :: cs)) w #[]
  · exact hx
  ·
   exfalso
   have h2:=goes_call (P:=P) (main:=main) (w:=w) (cs:=cs) (k:=k) (rest:=rest) (K:=fun x w' es=>x=(G ((base f).at { tmps:=args.map a.eval ++ Array.replicate (fn.ntmps - (args.map a.eval).size) undef,defers:=[] } [.code c]) (b.at a (.inRegion ops (i :: rest) :: k) :: cs)) ∧ w'=w ∧ es = #[]) ho hw hk hop hf hname hb ⟨rfl,rfl,rfl⟩
   revert h2
   generalize stepG P main (G (b.at a (.inRegion ops (i :: rest) :: k)) cs) w=st at hx
   cases st <;> simp only [GStep.goes,imp_false,not_false_eq_true]
   rintro ⟨rfl,rfl,rfl⟩
   exact hx rfl
end
section
variable {b b₀:Frame} {a a₀:Act} {k:List Item} {cs:List Frame} {ops:Array Oper} {i:Nat} {rest:List Nat} {todo:List Item} {fn:Func}
theorem WTo.leave0 (hn:b.kind=.normal) (hd:a.defers=[]) (hf:P.funcs[b.fn]? = some fn) (hr:fn.results = #[]) :
  WTo P main F Ev K (G (b₀.at (a₀.put ((ops[i]?).bind (·.dst)) (.tuple #[])) (.inRegion ops rest :: k)) cs) → WTo P main F Ev K (G { b.at a todo with mode:=.returning } (b₀.at a₀ (.inRegion ops (i :: rest) :: k) :: cs)):=
 .c rfl fun w=>by rw [stepG_leave hn hd hf (results_none hr _ P w) (events_results_none hr _ _),Frame.finish_at]
theorem WTo.leave1 {t:Tmp} (hn:b.kind=.normal) (hd:a.defers=[]) (hf:P.funcs[b.fn]? = some fn) (hr:fn.results = #[.tmp t]) :
  WTo P main F Ev K (G (b₀.at (a₀.put ((ops[i]?).bind (·.dst)) (a.tmps.getD t undef)) (.inRegion ops rest :: k)) cs) → WTo P main F Ev K (G { b.at a todo with mode:=.returning } (b₀.at a₀ (.inRegion ops (i :: rest) :: k) :: cs)):=
 .c rfl fun w=>by rw [stepG_leave hn hd hf (results_tmp hr _ P w) (events_results_tmp hr _ _),Frame.finish_at]
end
end
end Go.Proofs.YtbokomeejmnnoaaDoor
