/- Own facts, put together: no statement of its own. -/
import Derived.Test.YtbokomeejmnnoaaDoorD28
import Derived.Test.YtbokomeejmnnoaaDoorD25

namespace Go.Proofs.YtbokomeejmnnoaaDoor
open Go.Conc
open Go.ConcN (sumTo upd sumTo_upd upd_ne upd_same sumTo_congr get_map_set get_map_set_same deafBehind_idle le_sumTo)
section
variable {P:Program} {p:Pool P} {gs:Array Goroutine} {w w':World} {t:Trace} {a b:Nat} {dn:Nat → Option Value} {Fx K:Nat → Prop} {D:Nat → Wk P} {m:Nat}
theorem Pool.Hand.selects (hp:p.Ok) (h:p.Hand gs w t a b dn Fx K D) {sl:Option (Nat × Nat)} {g:Goroutine} (hg:gs[0]? = some g) (hsel:p.Sel a b dn Fx K g w) (hbn:b < p.n) (hm:0 < m):p.Goal gs w t sl 0 a b m D:=by
 obtain ⟨s,tm,hc⟩:=h.chn
 obtain ⟨s',tm',hc'⟩:=h.chr
 have hlt:=get_zero hg
 have hcomm:stepG P (0 == 0) g w=.comm g (p.cases a) true .select w #[]:=(hp.sel _ _ _ _ _ _ _ hsel).2 w
 have hmade:∀ cc ∈ p.cases a,illMade w cc=false:=fun cc hcc=>by
  simp only [Pool.cases,List.mem_toArray,List.mem_cons,List.not_mem_nil,or_false] at hcc
  rcases hcc with rfl | rfl
  ·
   by_cases han:a < p.n
   · simp [illMade,han,hc]
   · simp [illMade,han]
  · exact made_recv _ hc'
 have hways:∀ cc ∈ p.cases a,∃ c snd,ways w (gs.setIfInBounds 0 ph) cc=(partners (gs.setIfInBounds 0 ph) c snd).map (fun x=>.partner x.1 x.2) ∨ ways w (gs.setIfInBounds 0 ph) cc=[]:=fun cc hcc=>by
  simp only [Pool.cases,List.mem_toArray,List.mem_cons,List.not_mem_nil,or_false] at hcc
  rcases hcc with rfl | rfl
  ·
   by_cases han:a < p.n
   ·
    simp only [han,if_true]
    exact ⟨p.cn,false,.inl (ways_send _ _ hc)⟩
   ·
    simp only [han,if_false]
    exact ⟨0,false,.inr rfl⟩
  · exact ⟨p.cr,true,.inl (ways_recv _ hc')⟩
 by_cases hsome:∃ cc ∈ p.cases a,ways w (gs.setIfInBounds 0 ph) cc ≠ []
 ·
  obtain ⟨k,cc,j,jk,d,hk,hway,hrun⟩:=crowd_meets (P:=P) (sl:=sl) hg hcomm hmade hsome (fun cc hcc y hy=>by
   obtain ⟨c,snd,e | e⟩:=hways cc hcc
   ·
    rw [e] at hy
    obtain ⟨⟨x1,x2⟩,-,rfl⟩:=List.mem_map.1 hy
    exact ⟨x1,x2,rfl⟩
   · rw [e] at hy;cases hy)
  rcases k with _ | _ | k
  ·
   -- a number is handed out
   have hcc:(⟨if a < p.n then .chan (some p.cn) else .chan none,some (.int .i64 a),p.z0⟩:CommCase)=cc:=by simpa [Pool.cases] using hk
   by_cases han:a < p.n
   ·
    simp only [han,if_true] at hcc
    subst hcc
    rw [ways_send _ _ hc] at hway
    obtain ⟨⟨x1,x2⟩,hx,he⟩:=List.mem_map.1 hway
    simp only [Way.partner.injEq] at he
    obtain ⟨rfl,rfl⟩:=he
    obtain ⟨y,y1,y2,y3⟩:=partner_in hx
    have hsit:=h.sit x1 y (by omega) y2
    obtain ⟨e0,hjb,hB1,hB2,g',hB3,rfl⟩:=(hsit.offers hp).2.2.1 x2 y3
    subst e0
    have hd:Deaf t x1=0:=by
     rcases hsit with ⟨q,-⟩ | ⟨-,q,-⟩
     · omega
     · exact q
    have hrun:=hrun p.cn 0 #[] false s s tm rfl hc
    rw [metAt_send y1 y2 (cj:=rcase p.cn p.zn) (v:=.int .i64 a) (by simp) rfl rfl] at hrun
    obtain ⟨q1,q2,q3,q4⟩:=get_set2 (gs:=gs) (i:=0) (j:=x1) (x:=g.finishComm P (p.cases a) .select (0:Nat) undef false) (y:=g'.finishComm P #[rcase p.cn p.zn] (.recv true) (0:Nat) (.int .i64 a) true) y1 hlt (get_zero y2)
    refine ⟨_,_,_,hrun,?_⟩
    rw [ofEvents_nil,Array.empty_append]
    exact Pool.Inv.handed hp h hsel hbn hjb (by rw [← h.size];exact get_zero y2) hB1 hB2 hd hB3 han hc q1 q4 q3 q2 _ _ _ _ d
   ·
    simp only [han,if_false] at hcc
    subst hcc
    cases hway
  ·
   -- an answer is taken in
   have hcc:rcase p.cr p.z1=cc:=by simpa [Pool.cases] using hk
   subst hcc
   rw [ways_recv _ hc'] at hway
   obtain ⟨⟨x1,x2⟩,hx,he⟩:=List.mem_map.1 hway
   simp only [Way.partner.injEq] at he
   obtain ⟨rfl,rfl⟩:=he
   obtain ⟨y,y1,y2,y3⟩:=partner_in hx
   have hsit:=h.sit x1 y (by omega) y2
   obtain ⟨e0,hjb,hF1,hF2,g',v,hF3,rfl,hF4⟩:=(hsit.offers hp).2.2.2 x2 y3
   subst e0
   have hd:Deaf t x1=0:=by
    rcases hsit with ⟨q,-⟩ | ⟨-,q,-⟩
    · omega
    · exact q
   have hrun:=hrun p.cr 0 #[] false s' s' tm' rfl hc'
   rw [metAt_recv y1 y2 (cj:=scase p.cr (p.val (D x1).num v) p.zr) (v:=p.val (D x1).num v) (by simp) rfl rfl] at hrun
   obtain ⟨q1,q2,q3,q4⟩:=get_set2 (gs:=gs) (i:=0) (j:=x1) (x:=g.finishComm P (p.cases a) .select (1:Nat) (p.val (D x1).num v) true) (y:=g'.finishComm P #[scase p.cr (p.val (D x1).num v) p.zr] .send (0:Nat) undef false) y1 hlt (get_zero y2)
   refine ⟨_,_,_,hrun,?_⟩
   rw [ofEvents_nil,Array.empty_append]
   exact Pool.Inv.took hp h hsel hbn hjb (by rw [← h.size];exact get_zero y2) hF1 hF2 hF4 hd hF3 hc' q1 q4 q3 q2 _ _ _ _ d
  · simp [Pool.cases] at hk
 ·
  have hno:∀ cc ∈ p.cases a,ways w (gs.setIfInBounds 0 ph) cc=[]:=fun cc hcc=>Classical.byContradiction fun hne=>hsome ⟨cc,hcc,hne⟩
  have hrun:=crowd_waits (P:=P) (sl:=sl) hg hcomm fun cc hcc=>⟨hmade cc hcc,hno cc hcc⟩
  refine ⟨_,w,_,hrun,?_⟩
  rw [ofEvents_nil,Array.append_empty]
  refine ⟨_,lower_one (f':=fun i=>if i=0 then (0,none) else (D i).rank) (i:=0) (by have:=hp.pos;have:=hp.top;omega) ?_ fun j hj=>?_,a,b,dn,Fx,K,D,0,h.set0,⟨_,by rw [Array.getElem?_setIfInBounds_self_of_lt hlt],.inr ⟨rfl,g,hsel,hbn,rfl,fun j x hj hx=>?_⟩⟩,rfl⟩
  · exact .inl (by simpa using hm)
  · simp [hj]
  ·
   rw [Array.getElem?_setIfInBounds_ne (by omega)] at hx
   have empty:∀ {c:Nat} {snd:Bool},partners (gs.setIfInBounds 0 ph) c snd=[] → offersAt x c snd=[]:=fun {c snd} he=>by
    refine List.eq_nil_iff_forall_not_mem.2 fun k hk=>?_
    have:(j,k) ∈ partners (gs.setIfInBounds 0 ph) c snd:=mem_partners.2 ⟨x,stand_get (by omega) hx,hk⟩
    rw [he] at this
    cases this
   refine ⟨empty ?_,fun han=>empty ?_⟩
   ·
    have:=hno (rcase p.cr p.z1) (by simp [Pool.cases])
    rw [ways_recv _ hc',List.map_eq_nil_iff] at this
    exact this
   ·
    have:=hno ⟨.chan (some p.cn),some (.int .i64 a),p.z0⟩ (by simp [Pool.cases,han])
    rw [ways_send _ _ hc,List.map_eq_nil_iff] at this
    exact this
theorem Pool.Hand.other (hp:p.Ok) (h:p.Hand gs w t a b dn Fx K D) (hz:p.Zero0 gs w a b dn Fx K m) {sl:Option (Nat × Nat)} {i:Nat} {g:Goroutine} (hi:0 < i) (hg:gs[i]? = some g) (hrun:g.status=.running):p.Goal gs w t sl i a b m D:=by
 have hlt:=get_zero hg
 have hi0:(i == 0)=false:=by simp;omega
 rcases h.sit i g hi hg with ⟨hb,k1,k2,hq⟩ | ⟨hb,hd,hs | hs | hs | hs | hs | hs⟩
 ·
  generalize hrk:(D i).rank.1=q at hq
  cases q with
  | zero=>rw [hq.1] at hrun;cases hrun
  | succ q=>
   rcases hq with ⟨hf,_⟩ | ⟨_,g',es,hmute,hst,hq⟩
   · rw [hf] at hrun;cases hrun
   refine ⟨_,w,_,runT_crowd_go (P:=P) (sl:=sl) (i:=i) hg (by rw [hi0];exact hst w),?_⟩
   refine Pool.Inv.worker hi (by rw [← h.size];exact hlt) (.inl (by rw [hrk];exact Nat.lt_succ_self q)) (h.stepL hp hi hb hg hmute hq _ _) (hz.step hp h (Sees.refl K w) h.chn h.chr hi ?_)
   rcases hq.status with e | e <;> rw [e] <;> simp
 ·
  obtain ⟨k1,k2,mm,g',k3,k4,k5⟩:=hs
  cases mm with
  | zero=>
   cases k4
   exact h.asks hp hz hb hg hd k1 k2 k3 k5
  | succ mm=>
   obtain ⟨-,g1,es,he,hst,hw⟩:=k4
   refine h.walk hp hz (x':={ D i with rank:=(mm+1,none) }) hb hg hst he rfl rfl (fun _=>Iff.rfl) (.inr ⟨hb,rfl,.inl ⟨k1,k2,mm,g',rfl,hw,k5⟩⟩) ?_ (.inl (by rw [k3];exact Nat.lt_succ_self _))
   rw [walk_running hw (hp.recv _ k5).1]
   simp
 ·
  obtain ⟨-,-,g',-,rfl⟩:=hs
  simp [parked] at hrun
 ·
  obtain ⟨k1,k2,k3,mm,c,k4,k5,-,g1,es,he,hst,hw⟩:=hs
  cases mm with
  | zero=>
   cases hw
   have hbeg:=hp.begins (D i).num w (c :: p.bot) k2 h.still
   have hacc:=acc_start hp.fns (Nat.le_trans hp.glob h.still.2) (hp.ends _ _ k2 h.still) hbeg.ok
   refine h.walk hp hz (x':={ D i with rank:=(60,some ⟨_,hacc⟩) }) hb hg hst he rfl rfl (fun _=>Iff.rfl) (.inr ⟨hb,rfl,.inr (.inr (.inr (.inl ⟨k1,k2,c,w,⟨_,hacc⟩,_,_,_,k5,h.still,rfl,hbeg,rfl,fun e=>?_,fun u e hr _=>?_⟩)))⟩) (by simp [G]) (.inl (by rw [k4];show 60 < 0+61;omega))
   ·
    constructor
    · exact fun hx=>absurd hx (k3 e)
    ·
     rintro ⟨u,hu,rfl,hS⟩
     have:=hp.slow u (hp.rs u hS)
     have:=h.still.2
     omega
   · exact hp.rs _ (hr.1 ▸ hr.2)
  | succ mm=>
   refine h.walk hp hz (x':={ D i with rank:=(mm+61,none) }) hb hg hst he rfl rfl (fun _=>Iff.rfl) (.inr ⟨hb,rfl,.inr (.inr (.inl ⟨k1,k2,k3,mm,c,rfl,k5,hw⟩))⟩) ?_ (.inl (by rw [k4];show mm+61 < mm+1+61;omega))
   rw [hw.1]
   simp
 · exact h.call hp hz hb hg hs
 ·
  obtain ⟨k1,k2,mm,g',v,k3,k4,k5,k6⟩:=hs
  cases mm with
  | zero=>
   cases k4
   exact h.gives hp hz hb hg hd k1 k2 k3 k5 k6
  | succ mm=>
   obtain ⟨-,g1,es,he,hst,hw⟩:=k4
   refine h.walk hp hz (x':={ D i with rank:=(mm+1,none) }) hb hg hst he rfl rfl (fun _=>Iff.rfl) (.inr ⟨hb,rfl,.inr (.inr (.inr (.inr (.inl ⟨k1,k2,mm,g',v,rfl,hw,k5,k6⟩))))⟩) ?_ (.inl (by rw [k3];exact Nat.lt_succ_self _))
   rw [walk_running hw (hp.send _ _ k5).1]
   simp
 ·
  obtain ⟨-,-,g',v,-,rfl,-⟩:=hs
  simp [parked] at hrun
theorem Pool.Hand.runs (hp:p.Ok) (hw:0 < p.n → p.base < p.top) (h:p.Hand gs w t a b dn Fx K D) (hz:p.Zero0 gs w a b dn Fx K m):∃ (i:Nat) (g:Goroutine),gs[i]? = some g ∧ g.status=.running:=by
 obtain ⟨g0,h0,⟨k,-,hgo⟩ | ⟨-,g1,hsel,hbn,rfl,hno⟩⟩:=hz
 · exact ⟨0,g0,h0,hgo.running fun _ _ _=>Pool.next_running hp⟩
 ·
  -- a worker that is not parked at a send,and that holds a number,or is not parked at all
  have hall:∀ (j:Nat) x,p.base ≤ j → gs[j]? = some x → x.status=.running ∨ (p.SitB (D j) x ∧ ¬ a < p.n):=fun j x hj hx=>by
   have hpos:0 < j:=by have:=hp.pos;omega
   have hsit:=h.sit j x hpos hx
   obtain ⟨hn1,hn2⟩:=hno j x hpos hx
   rcases hsit with ⟨q,-⟩ | ⟨-,hd,hs⟩
   · omega
   ·
    rcases hs with hs | hs | hs | hs | hs | hs
    ·
     obtain ⟨-,-,mm,g',-,k4,k5⟩:=hs
     exact .inl (walk_running k4 (hp.recv _ k5).1)
    ·
     refine .inr ⟨hs,fun han=>?_⟩
     obtain ⟨-,-,g',-,rfl⟩:=hs
     have:=hn2 han
     rw [offersAt_parked_recv,if_pos rfl] at this
     cases this
    ·
     obtain ⟨-,-,-,mm,c,-,-,k6⟩:=hs
     exact .inl k6.1
    ·
     obtain ⟨-,-,c,wo,y,r,fr,cs,-,-,-,-,rfl,-⟩:=hs
     exact .inl rfl
    ·
     obtain ⟨-,-,mm,g',v,-,k4,k5,-⟩:=hs
     exact .inl (walk_running k4 (hp.send _ _ k5).1)
    ·
     obtain ⟨-,-,g',v,-,rfl,-⟩:=hs
     rw [offersAt_parked_send,if_pos rfl] at hn1
     cases hn1
  by_cases han:a < p.n
  ·
   have hbt:=hw (by omega)
   obtain ⟨x,hx⟩:∃ x,gs[p.base]? = some x:=⟨_,Array.getElem?_eq_getElem (by rw [h.size];exact hbt)⟩
   rcases hall p.base x (Nat.le_refl _) hx with e | ⟨-,e⟩
   · exact ⟨_,x,hx,e⟩
   · exact absurd han e
  ·
   -- all numbers are out: somebody holds one
   have hcnt:=h.count
   have hle:=h.an
   have hex:∃ j,j < p.top ∧ (D j).hold ≠ 0:=Classical.byContradiction fun hne=>by
    have hz:∀ k,k ≤ p.top → Go.ConcN.sumTo k (fun j=>(D j).hold)=0:=fun k=>by
     induction k with
     | zero=>intro _;rfl
     | succ k ih=>
      intro hk
      have:(D k).hold=0:=Classical.byContradiction fun e=>hne ⟨k,by omega,e⟩
      simp only [Go.ConcN.sumTo]
      rw [ih (by omega),this]
    have:=hz p.top (Nat.le_refl _)
    omega
   obtain ⟨j,hj,hjh⟩:=hex
   obtain ⟨x,hx⟩:∃ x,gs[j]? = some x:=⟨_,Array.getElem?_eq_getElem (by rw [h.size];exact hj)⟩
   have hj0:0 < j:=by
    rcases Nat.eq_zero_or_pos j with e | e
    · subst e;exact absurd h.zero hjh
    · exact e
   rcases h.sit j x hj0 hx with ⟨-,q,-⟩ | ⟨hb,-⟩
   · exact absurd q hjh
   ·
    rcases hall j x hb hx with e | ⟨e,-⟩
    · exact ⟨_,x,hx,e⟩
    · exact absurd e.1 hjh
theorem Pool.hand_ends (hp:p.Ok) (hw:0 < p.n → p.base < p.top) {Post:Value → World → Prop}
  (hshut:∀ gs w t sl dn Fx K D g,p.Hand gs w t p.n p.n dn Fx K D → gs[0]? = some g → p.Shut dn Fx K g w → ∃ gs' w' ops,runT P (crowd gs w sl) 0=(.next (crowd gs' w' sl),ops) ∧ WellEnds P Post (crowd gs' w' sl) (t ++ ops)) {sl:Option (Nat × Nat)}
  (h:p.Hand gs w t a b dn Fx K D) (hz:p.Zero0 gs w a b dn Fx K m):WellEnds P Post (crowd gs w sl) t:=by
 refine ends_by (wf_lower (wf_near (P:=P)) p.top) p.Inv ?_ ?_ ?_ ?_ _ gs w sl t ⟨a,b,dn,Fx,K,D,m,h,hz,rfl⟩
 ·
  rintro μ gs w t d ⟨a,b,dn,Fx,K,D,m,h,hz,rfl⟩
  refine ⟨a,b,dn,Fx,K,D,m,⟨h.size,h.still.sees (sees_at _ w d),h.chn,h.chr,⟨h.keeps.fk,h.keeps.sf,h.keeps.kc,h.keeps.kl⟩,fun i g hi hg=>(h.sit i g hi hg).stay (sees_at _ w d),h.own,h.one,h.zero,h.idle,h.above,h.past,h.norel,h.cover,h.count,h.an,fun i v hv=>⟨(h.res i v hv).1,(h.res i v hv).2.stay (fun _=>id) (sees_at _ w d)⟩⟩,?_,rfl⟩
  obtain ⟨g0,h0,⟨k,hk,hgo⟩ | ⟨hm,g1,hsel,hbn,e,hno⟩⟩:=hz
  · exact ⟨g0,h0,.inl ⟨k,hk,hgo.rely (sees_at K w d)⟩⟩
  · exact ⟨g0,h0,.inr ⟨hm,g1,hp.sees _ _ _ _ _ _ _ _ hsel (sees_at K w d),hbn,e,hno⟩⟩
 ·
  rintro μ gs w t ⟨a,b,dn,Fx,K,D,m,h,hz,rfl⟩ g hg
  obtain ⟨i,hi,rfl⟩:=Array.mem_iff_getElem.1 hg
  rcases Nat.eq_zero_or_pos i with rfl | hpos
  ·
   obtain ⟨g0,h0,hz⟩:=hz
   have:gs[0]=g0:=by simpa [Array.getElem?_eq_getElem hi] using h0
   rw [this]
   rcases hz with ⟨k,-,hgo⟩ | ⟨-,g1,-,-,rfl,-⟩
   · exact fun t=>by rw [hgo.running fun _ _ _=>Pool.next_running hp];simp
   · exact fun t=>by simp [parked]
  · exact (h.sit i _ hpos (Array.getElem?_eq_getElem hi)).awake hp
 ·
  rintro μ gs w t ⟨a,b,dn,Fx,K,D,m,h,hz,rfl⟩
  exact h.runs hp hw hz
 ·
  rintro μ gs w t sl i g ⟨a,b,dn,Fx,K,D,m,h,hz,rfl⟩ hg hrun
  have fin:p.Goal gs w t sl i a b m D → ∃ gs' w' ops,runT P (crowd gs w sl) i=(.next (crowd gs' w' sl),ops) ∧ ((∃ μ',LowerW (Near P) p.top μ' (2 * p.n - (a+b),fun i=>if i=0 then (m,none) else (D i).rank) ∧ p.Inv μ' gs' w' (t ++ ops)) ∨ WellEnds P Post (crowd gs' w' sl) (t ++ ops)):=fun ⟨gs',w',ops,h1,h2⟩=>⟨gs',w',ops,h1,.inl h2⟩
  rcases Nat.eq_zero_or_pos i with rfl | hpos
  ·
   obtain ⟨g0,h0,hzz⟩:=id hz
   rw [hg] at h0
   cases h0
   rcases hzz with ⟨k,hk,hgo⟩ | ⟨-,g1,-,-,rfl,-⟩
   ·
    rcases hgo.cases with hstop | ⟨k',rfl,-,g',w',es,hst,ho,hgo'⟩
    ·
     rcases hstop with ⟨hbn,hsel⟩ | ⟨hbn,hsh⟩
     · exact fin (h.selects hp hg hsel hbn (by omega))
     ·
      subst hbn
      have hba:=h.ba
      have han:=h.an
      obtain rfl:a=p.n:=by omega
      obtain ⟨gs',w',ops,h1,h2⟩:=hshut gs w t sl dn Fx K D g h hg hsh
      exact ⟨gs',w',ops,h1,.inr h2⟩
    ·
     refine fin ⟨_,w',_,runT_crowd_go (P:=P) (sl:=sl) (i:=0) hg (show stepG P (0 == 0) g w=_ from hst),?_⟩
     refine ⟨_,lower_one (f':=fun i=>if i=0 then (k' + 1,none) else (D i).rank) (i:=0) (by have:=hp.pos;have:=hp.top;omega) (.inl ?_) fun j hj=>by simp [hj],a,b,dn,Fx,_,D,k' + 1,h.step0 hp ho _ _,⟨g',?_,.inl ⟨k',rfl,hgo'⟩⟩,rfl⟩
     ·
      simp only [if_true]
      omega
     · rw [get_map_set_same _ _ _ (get_zero hg)]
   · simp [parked] at hrun
  · exact fin (h.other hp hz hpos hg hrun)
end
end Go.Proofs.YtbokomeejmnnoaaDoor

namespace Go.Proofs.YtbokomeejmnnoaaDoor
open Go.Conc
def FinW (P:Program) (Post:Value → World → Prop) (H:Nat → Prop) (g:Goroutine) (w:World):Prop:=∀ gs sl t q B,gs[0]? = some g → Leavers P t gs q → Past (shunOf H) B t → B ≤ w.heap.size → WellEnds P Post (crowd gs w sl) t
def Pend (H:Nat → Prop) (w w':World):Prop:=(∀ (b:Nat) o,w.heap[b]? = some o → (∀ c t fz,o ≠ .cells c t fz) → w'.heap[b]? = some o) ∧ (∀ b,H b → w'.heap[b]? = w.heap[b]?) ∧ w'.os=w.os ∧ w'.output=w.output
def MaskT (H:Nat → Prop) (v w:World):Prop:=∃ t t',Mask H (taped v t) (taped w t')
section
variable {P:Program} {Post:Value → World → Prop} {H:Nat → Prop} {p:Plan} {x0:LnSt} {PostP:LnSt → Prop}
theorem MaskT.lead {v w:World} (h:MaskT H v w) (d:Nat):Mask H (taped v fun j q=>w.tape (j - v.drawn+d) q) (w.at d):=by
 obtain ⟨t,t',hm⟩:=h
 refine ⟨hm.size,hm.seen,hm.hid,fun j q=>?_,hm.os,hm.output⟩
 show w.tape (d+j) q=w.tape (v.drawn+j - v.drawn+d) q
 rw [Nat.add_sub_cancel_left,Nat.add_comm]
theorem Mask.some {v w:World} (h:Mask H v w):MaskT H v w:=⟨v.tape,w.tape,h⟩
theorem MaskT.retape {v w:World} (h:MaskT H v w) (u u':Nat → Question → Nat):MaskT H (taped v u) (taped w u'):=by
 obtain ⟨t,t',hm⟩:=h
 exact ⟨t,t',hm⟩
theorem form_sw (k:List Item) {f:Frame} (h:FrameM P p f) (hn:¬ (f.mode=.run ∧ f.todo=[pitK])):FrameForm P (swF k f):=by
 have hf:=h.form hn
 refine ⟨hf.isIn,fun hm x hx=>?_,hf.defers,hf.modes,hf.kind,hf.round⟩
 obtain ⟨l,q,h1,h2,h3⟩:=h.items
 obtain ⟨sq,hsq⟩:=sw_rest (P:=P) (p:=p) k q h2
 have e:(swF k f).todo=l ++ sq:=by
  show swK k f.todo=_
  rw [h1]
  exact hsq _ l h3
 cases l with
 | nil=>
  rcases h2 with rfl | rfl
  ·
   have:sq=[]:=by
    have:=hsq [] [] (by simp)
    simpa [swK] using this.symm
   subst this
   rw [e] at hx
   cases hx
  · exact absurd ⟨hm,h1⟩ hn
 | cons y l=>
  rw [e] at hx
  cases hx
  exact hf.items hm x (by rw [h1];rfl)
theorem fin_piece (hF:∀ H,FnsOkM P p H) (he:EndsAt P x0 PostP) (h0:InvSt P p x0) (k:List Item) (c:List Frame)
  {w0:World} (hend:∀ (y:LnSt) w,PostP y → MaskT H y.2 w → Pend H w0 w → FinW P Post H (G (swF k y.1.1) (swS k c y.1.2)) w) (hw:MaskT H x0.2 w0):FinW P Post H (G (swF k x0.1.1) (swS k c x0.1.2)) w0:=by
 have hacc:=inv_acc (hF _) he h0
 have main:∀ x,Acc (fun y x=>LStep P x y) x → Came P x0 x → ∀ w,MaskT H x.2 w → Pend H w0 w → FinW P Post H (G (swF k x.1.1) (swS k c x.1.2)) w:=fun x hx=>by
  induction hx with
  |
   intro x _ ih=>
   intro hc w hm hpd
   by_cases hs:Stopped x ∨ AtPit x
   ·
    obtain ⟨T,hT⟩:=inv_post (hF _) he h0 hc hs
    exact hend (x.1,taped x.2 T) w hT (hm.retape T w.tape) hpd
   ·
    have hn:¬ Stopped x:=fun h=>hs (.inl h)
    have hp:¬ AtPit x:=fun h=>hs (.inr h)
    have hok:=hc.inv (hF _) h0
    intro gs sl t q B hg hL hP hB
    refine beside_one (P:=P) (Shun:=shunOf H) (a:=G (swF k x.1.1) (swS k c x.1.2)) rfl (fun a' w' B'=>B' ≤ w'.heap.size ∧ ∃ y,LStep P x y ∧ MaskT H y.2 w' ∧ Pend H w0 w' ∧ a'=G (swF k y.1.1) (swS k c y.1.2)) ?_ _ gs w sl t q B rfl hg hL hP fun d=>?_
    ·
     rintro gs' a' w' sl' t' q' B' ⟨hB',y,hl,hmy,hpy,rfl⟩ hg' hL' hP'
     exact ih y hl (hc.next hl) w' hmy hpy gs' sl' t' q' B' hg' hL' hP' hB'
    ·
     have hmask:=hm.lead d
     rcases msim_own (hF H) k c hok.inv hn hp _ _ hmask with h1 | ⟨a,v',w',u,e0,hI,e1,e2,e3,e4,e5,e6⟩
     · exact absurd h1 (inv_goes (hF _) he h0 hc hn hp _)
     ·
      have hgo:=form_go (main:=true) (form_sw k hok.inv.top hp) e1
      rw [e4 #[]] at hgo
      refine ⟨_,w',_,w'.heap.size,hgo,fun e he=>?_,Nat.le_trans hB e3.size,Nat.le_refl _,(a,v'),⟨hn,_,e0⟩,e2.some,⟨fun b o hb ho=>e3.others b o (hpd.1 b o hb ho) ho,fun b hb=>(e3.hid b hb).trans (hpd.2.1 b hb),e3.os.trans hpd.2.2.1,e3.output.trans hpd.2.2.2⟩,rfl⟩
      have:=mem_seen he
      rw [Array.empty_append] at this
      exact off_evL (e5 e this)
 exact main x0 hacc (Came.refl _) w0 hw ⟨fun _ _ h _=>h,fun _ _=>rfl,rfl,rfl⟩
end
end Go.Proofs.YtbokomeejmnnoaaDoor

namespace Go.Proofs.YtbokomeejmnnoaaDoor
open Go.Conc
open Go.ConcN (sumTo upd sumTo_upd upd_ne upd_same sumTo_congr get_map_set get_map_set_same deafBehind_idle le_sumTo WD cnt Vc phi isOpen isW3 isFin OpenSt AllQuit CTag WSit RW AtR0 AtK1 RelBy WgLive PayAt Has)
open Go.ConcR (KK WgAt stA smA rd wr mk Payload)
section
variable (P:Program) (ty:TypeId) (wg:Nat)
def EvS (e:Event):Prop:=e=⟨.mark (.write ⟨wg,1,none⟩),false,true⟩ ∨ e=⟨.mark (.read ⟨wg,1,none⟩),false,true⟩
def WT0 (K:Goroutine → Prop) (n:Nat) (g:Goroutine):Prop:=∃ g',Walk P true (WgLive ty wg) (EvS wg) n g g' ∧ K g'
variable (An Nx:Goroutine → Prop)
def AtAcq0 (g:Goroutine):Prop:=g.status=.running ∧ ∃ g',(∀ w,WgLive ty wg w → stepG P true g w=.go g' w #[mk (.acquire (stA wg))]) ∧ ∃ n g'',Walk P true (WgLive ty wg) (fun _=>False) n g' g'' ∧ Nx g''
def AtKe0 (g:Goroutine):Prop:=g.status=.running ∧ ∃ g',(∀ w,WgLive ty wg w → stepG P true g w=.go g' w #[mk .enable]) ∧ ∃ n,WT0 P ty wg (AtAcq0 P ty wg Nx) n g'
def AtW40 (g:Goroutine):Prop:=g.status=.running ∧ ∀ w,WgAt ty wg w 0 0 → ∃ g',stepG P true g w=.go g' w #[rd (stA wg)] ∧ ∃ n,WT0 P ty wg (AtKe0 P ty wg Nx) n g'
def AtW30 (g:Goroutine):Prop:=g.status=.running ∧ g.offers=none ∧ (∀ w st,WgAt ty wg w st 0 → stepG P true g w=.go { g with status:=.blocked } w #[]) ∧
 ∀ w,WgAt ty wg w 0 1 → ∃ g',stepG P true g w=.go g' (w.setCell (smA wg) (.int .u32 0)) (semEvents (smA wg)) ∧ ∃ n,WT0 P ty wg (AtW40 P ty wg Nx) n g'
def AtW20 (vs:Nat) (g:Goroutine):Prop:=g.status=.running ∧ ∀ w (v:Nat),v < 2147483648 → WgAt ty wg w (v * KK) 0 →
 (v=vs → ∃ g',stepG P true g w=.go g' (w.setCell (stA wg) (.int .u64 (v * KK+1))) #[rd (stA wg),wr (stA wg)] ∧ ∃ n,WT0 P ty wg (AtW30 P ty wg Nx) n g') ∧ (v ≠ vs → ∃ g',stepG P true g w=.go g' w #[rd (stA wg)] ∧ ∃ n,WT0 P ty wg An n g')
def AtW10 (g:Goroutine):Prop:=g.status=.running ∧ ∀ w (v:Nat),v < 2147483648 → WgAt ty wg w (v * KK) 0 → ∃ g',stepG P true g w=.go g' w #[rd (stA wg)] ∧
 (v=0 → ∃ n,WT0 P ty wg (AtKe0 P ty wg Nx) n g') ∧ (v ≠ 0 → ∃ n,WT0 P ty wg (AtW20 P ty wg An Nx v) n g')
def AtKd0 (g:Goroutine):Prop:=g.status=.running ∧ ∃ g',(∀ w,WgLive ty wg w → stepG P true g w=.go g' w #[mk .disable]) ∧ ∃ n,WT0 P ty wg An n g'
def Z0 (tag:CTag) (f d:Nat) (g:Goroutine):Prop:=match tag with
 | .kd=>d=0 ∧ WT0 P ty wg (AtKd0 P ty wg An) f g
 | .w1=>d=1 ∧ WT0 P ty wg (AtW10 P ty wg An Nx) f g
 | .w2 vs=>d=1 ∧ WT0 P ty wg (AtW20 P ty wg An Nx vs) f g
 | .w3=>d=1 ∧ ∃ f',f=f' + 1 ∧ WT0 P ty wg (AtW30 P ty wg Nx) f' g
 | .blk=>d=1 ∧ f=0 ∧ ∃ g',AtW30 P ty wg Nx g' ∧ g={ g' with status:=.blocked }
 | .w4=>d=1 ∧ WT0 P ty wg (AtW40 P ty wg Nx) f g
 | .ke=>d=1 ∧ WT0 P ty wg (AtKe0 P ty wg Nx) f g
 | .acq=>d=0 ∧ WT0 P ty wg (AtAcq0 P ty wg Nx) f g
 | _=>False
end
section
variable {P:Program} {ty:TypeId} {wg:Nat} {An Nx:Goroutine → Prop}
theorem WT0.running {K:Goroutine → Prop} (hK:∀ g,K g → g.status=.running) {n:Nat} {g:Goroutine} (h:WT0 P ty wg K n g):g.status=.running:=by
 obtain ⟨g',h1,h2⟩:=h
 exact walk_running h1 (hK g' h2)
theorem WT0.then {K K':Goroutine → Prop} (hK:∀ g,K g → ∃ n,WT0 P ty wg K' n g) {n:Nat} {g:Goroutine} (h:WT0 P ty wg K n g):∃ n,WT0 P ty wg K' n g:=by
 obtain ⟨g',h1,h2⟩:=h
 obtain ⟨m,g'',h3,h4⟩:=hK g' h2
 exact ⟨n+m,g'',h1.app h3,h4⟩
theorem Z0.status {tag:CTag} {f d:Nat} {g:Goroutine} (h:Z0 P ty wg An Nx tag f d g):(g.status=.running ∧ tag ≠ .blk) ∨ (tag=.blk ∧ g.status=.blocked):=by
 cases tag <;> simp only [Z0] at h
 case kd=>exact .inl ⟨h.2.running fun _ x=>x.1,by simp⟩
 case w1=>exact .inl ⟨h.2.running fun _ x=>x.1,by simp⟩
 case w2=>exact .inl ⟨h.2.running fun _ x=>x.1,by simp⟩
 case w3=>obtain ⟨-,f',-,h⟩:=h;exact .inl ⟨h.running fun _ x=>x.1,by simp⟩
 case blk=>obtain ⟨-,-,g',-,rfl⟩:=h;exact .inr ⟨rfl,rfl⟩
 case w4=>exact .inl ⟨h.2.running fun _ x=>x.1,by simp⟩
 case ke=>exact .inl ⟨h.2.running fun _ x=>x.1,by simp⟩
 case acq=>exact .inl ⟨h.2.running fun _ x=>x.1,by simp⟩
theorem Z0.woken {tag:CTag} {f d:Nat} {g:Goroutine} (h:Z0 P ty wg An Nx tag f d g) (x x':Goroutine) (w':World):∃ tag' f',Z0 P ty wg An Nx tag' f' d (Go.Conc.woken P x x' w' g) ∧ f' ≤ f+1 ∧ (tag'=tag ∨ (tag=.blk ∧ tag'=.w3)) ∧ (mayWake P x=true → x'.status=.running → tag' ≠ .blk):=by
 rcases h.status with ⟨hr,hn⟩ | ⟨rfl,hb⟩
 ·
  refine ⟨tag,f,?_,by omega,.inl rfl,fun _ _=>hn⟩
  rw [woken_run hr]
  exact h
 ·
  simp only [Z0] at h
  obtain ⟨hd,hf,g',h1,rfl⟩:=h
  by_cases hw:(mayWake P x && x'.status != .blocked && x'.status != .waiting)=true
  ·
   refine ⟨.w3,1,?_,by omega,.inr ⟨rfl,rfl⟩,fun _ _=>by simp⟩
   have e:Go.Conc.woken P x x' w' { g' with status:=.blocked }=g':=by
    unfold Go.Conc.woken
    rw [if_pos hw]
    have ho:=h1.2.1
    have hs:=h1.1
    obtain ⟨fr,cs,st,dy,off⟩:=g'
    simp only at ho hs
    subst ho hs
    rfl
   rw [e]
   exact ⟨hd,0,rfl,g',rfl,h1⟩
  ·
   refine ⟨.blk,f,?_,by omega,.inl rfl,fun h2 h3=>?_⟩
   ·
    have e:Go.Conc.woken P x x' w' { g' with status:=.blocked }={ g' with status:=.blocked }:=by
     unfold Go.Conc.woken
     rw [if_neg hw]
    rw [e]
    exact ⟨hd,hf,g',h1,rfl⟩
   · simp [h2,h3] at hw
end
/-! ### a worker -/
abbrev noL:Nat → Loc → Prop:=fun _ _=>False
def noW (P:Program):Nat → Wk P:=fun _=>⟨0,(0,none),fun _=>False,0⟩
section
variable {P:Program}
def Pool.Asks (p:Pool P) (g:Goroutine):Prop:=g.status=.running ∧ ∃ g2,p.Recv g2 ∧ ∀ w,stepG P false g w=.comm g2 #[rcase p.cn p.zn] true (.recv true) w #[]
def Pool.Live (p:Pool P) (ty:TypeId) (w:World):Prop:=p.Still w ∧ WgLive ty p.wg w
theorem Pool.Live.stay {p:Pool P} {ty:TypeId} {w w':World} (hp:p.Ok) (h:p.Live ty w) (hs:∀ b,b ≠ p.wg → w'.heap[b]? = w.heap[b]?) (hz:w'.heap.size=w.heap.size) (ho:w'.os=w.os ∧ w'.output=w.output) (hl:WgLive ty p.wg w'):p.Live ty w':=
 ⟨h.1.sees ⟨fun b hb=>hs b fun e=>hp.parted b hb (e ▸ hp.shwg),Nat.le_of_eq hz.symm,ho⟩,hl⟩
variable [Payload]
def Pool.R0 (p:Pool P) (ty:TypeId) (C:Nat) (val:Value) (g:Goroutine):Prop:=∀ w,p.Live ty w → AtR0 P ty p.wg C 1 0 1 val g w
def Pool.Sit3 (p:Pool P) (ty:TypeId) (C:Nat) (val:Value) (s m d pre:Nat) (g:Goroutine) (w:World):Prop:=
 (s=7 ∧ d=0 ∧ ((pre=1 ∧ ∃ n g',m=n+1 ∧ Walk P false p.Still p.Ev n g g' ∧ p.Asks g') ∨ (pre=0 ∧ ∃ g',Walk P false (p.Live ty) p.Ev m g g' ∧ p.R0 ty C val g'))) ∨
 (pre=0 ∧ s ≤ 6 ∧ WSit P ty p.wg C 1 noL noL 0 1 val s m d g w)
variable {p:Pool P} {ty:TypeId} {C:Nat} {val:Value} {s m d pre:Nat} {g:Goroutine} {w w':World}
theorem rw_of {wg:Nat} (h:∀ b,b ≠ wg → w'.heap[b]? = w.heap[b]?) (hl:WgLive ty wg w') (hC:C ≠ wg):RW ty wg C 1 0 0 w w':=by
 refine ⟨fun b hb=>absurd hb (Nat.not_lt_zero _),fun _=>hl,?_,by simp [World.cell?,h C hC]⟩
 rintro ⟨cs,h1,h2⟩
 exact ⟨cs,(h C hC).trans h1,h2⟩
theorem Pool.Sit3.stay (h:p.Sit3 ty C val s m d pre g w) (hs:∀ b,b ≠ p.wg → w'.heap[b]? = w.heap[b]?) (hl:WgLive ty p.wg w') (hC:C ≠ p.wg):p.Sit3 ty C val s m d pre g w':=by
 rcases h with h | ⟨h0,h1,h2⟩
 · exact .inl h
 · exact .inr ⟨h0,h1,h2.rely (rw_of hs hl hC)⟩
theorem Pool.Sit3.status (h:p.Sit3 ty C val s m d pre g w) (hl:p.Live ty w):g.status=.running ∨ g.status=.finished:=by
 rcases h with ⟨-,-,⟨-,n,g',-,h1,h2⟩ | ⟨-,g',h1,h2⟩⟩ | ⟨-,-,h⟩
 · exact .inl (walk_running h1 h2.1)
 · exact .inl (walk_running h1 (h2 w hl).1)
 · exact h.status
theorem Pool.Sit3.woken (h:p.Sit3 ty C val s m d pre g w) (hl:p.Live ty w) (a a':Goroutine) (w':World):woken P a a' w' g=g:=by
 unfold Go.Conc.woken
 split
 · exact again_running _ (h.status hl)
 · rfl
structure Pool.Join (p:Pool P) (ty:TypeId) (C:Nat) (val:Value) (wc:World) (gs:Array Goroutine) (w:World) (t:Trace) (D:Nat → WD) (pre:Nat → Nat) (d0:Nat):Prop where
 size:gs.size=p.top
 live:p.Live ty w
 world:∀ b,b ≠ p.wg → w.heap[b]? = wc.heap[b]?
 wsize:w.heap.size=wc.heap.size
 chn:∃ s tm,wc.heap[p.cn]? = some (.chan 0 #[] true s s tm)
 wk:∀ i,i+1 < p.top → ∃ g,gs[i+1]? = some g ∧ p.Sit3 ty C val (D i).stage (D i).fuel (D i).deaf (pre i) g w
 past:PastP (p.sets p.top (noW P)) w.heap.size d0 t
 norel:NoRelease (stA p.wg) t
 deaf:∀ i,i+1 < p.top → Deaf t (i+1)=(D i).deaf
 above:∀ j,p.top ≤ j → Deaf t j=0
 rel:∀ i,p.base ≤ i+1 → i+1 < p.top → (D i).stage ≤ 6 → ∃ r,RelBy (stA p.wg) t (i+1) r
 old:∀ i,i+1 < p.base → (D i).stage=1
variable {wc:World} {gs:Array Goroutine} {t:Trace} {D:Nat → WD} {pre:Nat → Nat} {d0:Nat}
theorem Pool.Join.at (h:p.Join ty C val wc gs w t D pre d0) (hC:C ≠ p.wg) (d:Nat):p.Join ty C val wc gs (w.at d) t D pre d0:=
 ⟨h.size,⟨h.live.1.sees (sees_at _ w d),h.live.2⟩,h.world,h.wsize,h.chn,fun i hi=>let ⟨g,hg,hs⟩:=h.wk i hi;⟨g,hg,hs.stay (fun _ _=>rfl) h.live.2 hC⟩,h.past,h.norel,h.deaf,h.above,h.rel,h.old⟩
theorem Pool.Join.stepW (hp:p.Ok) (hC:C ≠ p.wg) (h:p.Join ty C val wc gs w t D pre d0) {i:Nat} (hi:i+1 < p.top) {g':Goroutine} {es:Array Event} {s' m' dd' pre':Nat} (hs:∀ b,b ≠ p.wg → w'.heap[b]? = w.heap[b]?) (hz:w'.heap.size=w.heap.size) (ho:w'.os=w.os ∧ w'.output=w.output) (hl:WgLive ty p.wg w')
  (hs':p.Sit3 ty C val s' m' dd' pre' g' w') {fn:FuncId} {pos:String} (hpast:PastP (p.sets p.top (noW P)) w'.heap.size d0 (t ++ MemOp.ofEvents (i+1) fn pos es)) (hnr:NoRelease (stA p.wg) (t ++ MemOp.ofEvents (i+1) fn pos es))
  (hdeaf:deafBehind (D i).deaf es=dd') (hrel:p.base ≤ i+1 → s' ≤ 6 → ∃ r,RelBy (stA p.wg) (t ++ MemOp.ofEvents (i+1) fn pos es) (i+1) r) (hold:i+1 < p.base → s'=1) :
  p.Join ty C val wc ((gs.map (woken P g g' w')).setIfInBounds (i+1) g') w' (t ++ MemOp.ofEvents (i+1) fn pos es) (upd D i ⟨s',m',dd'⟩) (upd pre i pre') d0:=by
 have hlt:i+1 < gs.size:=by rw [h.size];exact hi
 refine ⟨by simp [h.size],h.live.stay hp hs hz ho hl,fun b hb=>(hs b hb).trans (h.world b hb),hz.trans h.wsize,h.chn,fun k hk=>?_,hpast,hnr,fun k hk=>?_,fun j hj=>?_,fun k hk1 hk2 hst=>?_,fun k hk=>?_⟩
 ·
  by_cases e:k=i
  ·
   subst e
   exact ⟨g',get_map_set_same _ _ _ hlt,by rw [upd_same,upd_same];exact hs'⟩
  ·
   obtain ⟨x,hx,hsx⟩:=h.wk k hk
   refine ⟨x,by rw [get_map_set _ _ _ _ (by omega),hx,Option.map_some,hsx.woken h.live],?_⟩
   rw [upd_ne D _ e,upd_ne pre _ e]
   exact hsx.stay hs hl hC
 ·
  by_cases e:k=i
  · subst e;rw [Deaf_own,h.deaf k hk,upd_same];exact hdeaf
  · rw [Deaf_other t (by omega) _ (g_ofE _ _ _ _),h.deaf k hk,upd_ne D _ e]
 ·
  rw [Deaf_other t (by omega) _ (g_ofE _ _ _ _)]
  exact h.above j hj
 ·
  by_cases e:k=i
  · subst e;rw [upd_same] at hst;exact hrel hk1 hst
  ·
   rw [upd_ne D _ e] at hst
   obtain ⟨r,hr⟩:=h.rel k hk1 hk2 hst
   exact ⟨r,hr.appOther (g_ofE _ _ _ _) (by omega)⟩
 ·
  by_cases e:k=i
  · subst e;rw [upd_same];exact hold hk
  · rw [upd_ne D _ e];exact h.old k hk
theorem Pool.Join.step0 (hp:p.Ok) (hC:C ≠ p.wg) (h:p.Join ty C val wc gs w t D pre d0) {a':Goroutine} {es:Array Event} {d':Nat} (hs:∀ b,b ≠ p.wg → w'.heap[b]? = w.heap[b]?) (hz:w'.heap.size=w.heap.size) (ho:w'.os=w.os ∧ w'.output=w.output) (hl:WgLive ty p.wg w')
  {fn:FuncId} {pos:String} (hpast:PastP (p.sets p.top (noW P)) w'.heap.size d' (t ++ MemOp.ofEvents 0 fn pos es)) (hnr:NoRelease (stA p.wg) (t ++ MemOp.ofEvents 0 fn pos es)) :
  p.Join ty C val wc ((gs.map (woken P g a' w')).setIfInBounds 0 a') w' (t ++ MemOp.ofEvents 0 fn pos es) D pre d':=by
 refine ⟨by simp [h.size],h.live.stay hp hs hz ho hl,fun b hb=>(hs b hb).trans (h.world b hb),hz.trans h.wsize,h.chn,fun k hk=>?_,hpast,hnr,fun k hk=>?_,fun j hj=>?_,fun k hk1 hk2 hst=>?_,h.old⟩
 ·
  obtain ⟨x,hx,hsx⟩:=h.wk k hk
  exact ⟨x,by rw [get_map_set _ _ _ _ (by omega),hx,Option.map_some,hsx.woken h.live],hsx.stay hs hl hC⟩
 · rw [Deaf_other t (by omega) _ (g_ofE _ _ _ _),h.deaf k hk]
 ·
  rw [Deaf_other t (by have:=hp.pos;have:=hp.top;omega) _ (g_ofE _ _ _ _)]
  exact h.above j hj
 ·
  obtain ⟨r,hr⟩:=h.rel k hk1 hk2 hst
  exact ⟨r,hr.appOther (g_ofE _ _ _ _) (by omega)⟩
end
end Go.Proofs.YtbokomeejmnnoaaDoor
