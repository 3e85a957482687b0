/- Own facts, put together: no statement of its own. -/
import Derived.Test.YtbokomeejmnnoaaDoorD37
import Derived.Test.YtbokomeejmnnoaaDoorD31
import Derived.Test.YtbokomeejmnnoaaDoorD35
import Derived.Test.YtbokomeejmnnoaaDoorD23

set_option maxRecDepth 100000
set_option linter.unusedSimpArgs false
namespace Go.Proofs.YtbokomeejmnnoaaDoor
open Go.Conc Go.RowKit Go.Conc.Lib Go.ConcR.Gen
open Go.ConcN (WgLive upd upd_same upd_ne Has)
open Go.ConcR (KK WgAt stA smA rd wr mk Payload)
section
variable {H R:Nat → Prop} {T:Nat → Nat} {z:OeV} {l:OeL} {ad:Nat → Addr} {per:Int} {cs:List Frame} {w:World} {Post:Value → World → Prop}
structure OeEnd (z:OeV) (l:OeL) (ad:Nat → Addr) (per:Int) (w:World) (bo:Nat) (cur:Array Value) (w':World):Prop where
 big:w.heap.size < bo
 row:w'.heap[bo]? = some (.cells cur 67 (0,0))
 size:cur.size=z.n * 3
 vals:∀ i,i < z.n → ∃ u y,cur[i * 3]? = some (.int .i64 i) ∧ cur[i * 3+1]? = some u ∧ cur[i * 3+2]? = some y ∧ DelayEnd per (l.ls i) ad (.returned (.tuple #[u,y])) w'
 old:∀ b,b < w.heap.size → b ≠ z.v.cn → b ≠ z.v.cr → w'.heap[b]? = w.heap[b]?
 grown:w.heap.size < w'.heap.size
 wg:WgAt 64 z.v.wg w' 0 0
 out:w'.os=w.os ∧ w'.output=w.output
theorem oe_crowd (h:OeOk H R T z l ad per w) (hm:(if (z.n:Int) < z.wks then (z.n:Int) else z.wks)=(z.m:Int))
  (hend:∀ x bo cur w',OeEnd z l ad per w bo cur w' → FinW Tryd.prog Post (fun b=>H b ∨ b=z.v.wg) (oeBack Tryd.f14 z (some ⟨bo,0,none⟩) x cs) w'):FinW Tryd.prog Post H (oeNew Tryd.f14 z cs) w:=by
 intro gs sl t q B hg hL hP hB
 refine beside_one (P:=Tryd.prog) (Shun:=shunOf H) (a:=oeNew Tryd.f14 z cs) rfl (fun a' w' B'=>a'=oeBorn Tryd.f14 z cs ∧ B'=B ∧ ∃ d,w'=(w.at d).alloc wgNew) ?_ _ gs w sl t q B rfl hg hL hP fun d=>⟨_,_,#[],B,oe_alloc h.wg,by simp,Nat.le_refl _,rfl,rfl,d,rfl⟩
 clear hg hL hP gs sl t q
 rintro gs a' w0 sl t q B' ⟨rfl,hB',d,hw0⟩ hg hL hP
 rw [hB'] at hP
 clear hB' B'
 have hsz0:w0.heap.size=w.heap.size+1:=by rw [hw0];exact alloc_size _ _
 have hold0:∀ b,b < w.heap.size → w0.heap[b]? = w.heap[b]?:=fun b hb=>by rw [hw0];exact alloc_old (w.at d) wgNew hb
 have hat0:WgAt 64 z.v.wg w0 0 0:=by
  rw [h.wg,hw0]
  exact alloc_at (w.at d) wgNew
 have hout0:w0.os=w.os ∧ w0.output=w.output:=by rw [hw0];exact ⟨rfl,rfl⟩
 have hnew:NewWg z.v w w0:=⟨hsz0,hold0,hat0,hout0⟩
 clear hw0
 have hpos:0 < gs.size:=get_zero hg
 have hn100:=h.n100
 have hm16:=h.m16
 have ewg:=h.wg
 obtain ⟨s1,tm1,hcn⟩:=h.chn
 obtain ⟨s2,tm2,hcr⟩:=h.chr
 have lcn:=get_zero hcn
 have lcr:=get_zero hcr
 have hlow:∀ b,H b → b < w.heap.size:=fun b hb=>by
  obtain ⟨c,e,h1⟩:=h.hid b hb
  exact get_zero h1
 obtain ⟨p,hpd⟩:∃ p,p=oePool Tryd.prog Tryd.f23 Tryd.f14 Tryd.f25 H R T z l ad per cs w w0 gs.size (gs.size+z.m):=⟨_,rfl⟩
 have hp:p.Ok:=by rw [hpd];exact oe_ok h hnew hpos (Nat.le_add_right _ _)
 have hS:∀ w1,p.Still w1 → Sees (OeS H z.v w) w w1:=fun w1 h1=>by
  subst hpd
  exact ⟨fun b hb=>(h1.1 b hb).trans (hold0 b hb.1),by have:w0.heap.size ≤ w1.heap.size:=h1.2;omega,h1.out.1.trans hout0.1,h1.out.2.trans hout0.2⟩
 have hcell:∀ w1,p.Still w1 → WkF z.v w1:=fun w1 h1=>
  ⟨((hS w1 h1).cell (a:=⟨z.v.bn,0,none⟩) h.vn).trans h.f.bn,((hS w1 h1).cell (a:=⟨z.v.ba,0,none⟩) h.va).trans h.f.ba,((hS w1 h1).cell (a:=⟨z.v.br,0,none⟩) h.vr).trans h.f.br⟩
 have hE:∀ e,WkE z.v e → p.Ev e:=by
  rintro e ⟨b,hb,rfl⟩
  subst hpd
  refine ⟨⟨b,0,none⟩,rfl,?_⟩
  rcases hb with rfl | rfl | rfl
  · exact h.vn
  · exact h.va
  · exact h.vr
 have hcc:¬ (p.S p.cn ∨ p.Sh p.cn) ∧ ¬ (p.S p.cr ∨ p.Sh p.cr):=by
  subst hpd
  refine ⟨?_,?_⟩
  ·
   rintro (⟨-,-,h1,-⟩ | h1 | h1)
   · exact h1 rfl
   · exact h.hc.1 h1
   ·
    have h1:z.v.cn=z.v.wg:=h1
    omega
  ·
   rintro (⟨-,-,-,h1⟩ | h1 | h1)
   · exact h1 rfl
   · exact h.hc.2 h1
   ·
    have h1:z.v.cr=z.v.wg:=h1
    omega
 have hbt:p.top - p.base=z.m:=by
  subst hpd
  show gs.size+z.m - gs.size=z.m
  omega
 have hglob:∀ b,b < Tryd.prog.globals.size → OeS H z.v w b:=h.globs
 -- where numbers are handed out,until the close
 have hshut:∀ gs w1 t sl dn Fx K D g,p.Hand gs w1 t p.n p.n dn Fx K D → gs[0]? = some g → p.Shut dn Fx K g w1 → ∃ gs' w' ops,runT Tryd.prog (crowd gs w1 sl) 0=(.next (crowd gs' w' sl),ops) ∧ WellEnds Tryd.prog Post (crowd gs' w' sl) (t ++ ops):=by
  intro gs w1 t sl dn Fx K D g hH hg hs
  have hemp:=hH.empty
  have hstill:=hH.still
  have hcov:=hH.cover
  have hres:=hH.res
  have hkeeps:=hH.keeps
  obtain ⟨s,tm,hc⟩:=hH.chn
  letI:Payload:=⟨0⟩
  obtain ⟨bo,a,op8,x,y,cur,rfl,ho⟩:oeShutP Tryd.f14 Tryd.f25 H z cs w0 dn Fx K g w1:=by
   subst hpd
   exact hs
  obtain ⟨es,hes,hclose⟩:=ho_close (z:=z) (a:=a) (b:=z.n) (cs:=oeCall Tryd.f14 z x :: cs) (ob:=some ⟨bo,0,none⟩) (op8:=op8) (y:=y) (s:=s) (tm:=tm) (w:=w1) (by subst hpd;exact hc)
  obtain ⟨n,g1,hw1,hk1⟩:=ho_out (z:=z) (a:=a) (b:=z.n) (x:=x) (cs:=cs) (ob:=some ⟨bo,0,none⟩) (op8:=op8) (y:=y)
  refine Pool.shut_ends (ty:=Tryd.link.tWg) (C:=z.v.bn) (val:=.chan (some z.v.cn)) (An:=AnchW Tryd.link z.v.wg (oeWait Tryd.f14 z (some ⟨bo,0,none⟩) x) cs) (Nx:=fun g=>g=oeBack Tryd.f14 z (some ⟨bo,0,none⟩) x cs) (n:=n) (s:=s) (tm:=tm) (es:=es) (g':=hoClosed Tryd.f25 z (some ⟨bo,0,none⟩) op8 a z.n y (oeCall Tryd.f14 z x :: cs)) hp ?_ ?_ hH hg hc ?_ ?_ ho_wakes rfl ?_ ?_ ?_ ?_ ?_
  ·
   subst hpd
   have:=h.vn.1
   show z.v.bn ≠ z.v.wg
   omega
  · omega
  ·
   subst hpd
   exact hes
  ·
   subst hpd
   exact hclose
  ·
   subst hpd
   exact ⟨g1,hw1,hk1⟩
  ·
   rw [hbt]
   subst hpd
   exact ho.wg
  ·
   intro g hg
   subst hpd
   obtain ⟨n,g',h1,h2⟩:=wait_round (P:=Tryd.prog) (L:=Tryd.link) (Wg:=z.v.wg) (b₀:=base 14) (a₀:=oeWaitA z (some ⟨bo,0,none⟩) x) (ops₀:=oeOps9 Tryd.f14) (i₀:=0) (rest₀:=[]) (k₀:=[.code (oeEnd Tryd.f14)]) (cs:=cs) Tryd.wgLib g hg
   exact ⟨n,g',h1,h2⟩
  ·
   rintro g w' rfl h1 h2 h3 h3'
   have hwl:w0.heap.size ≤ w1.heap.size:=by
    subst hpd
    exact hstill.2
   have hne:∀ b,b ≠ z.v.wg → b ≠ z.v.cn → w'.heap[b]? = w1.heap[b]?:=fun b hb hb'=>by
    subst hpd
    rw [h1 b hb]
    exact heap_setChan_ne hb' _ _ _ _ _ _
   have hold:∀ b,b < w.heap.size → b ≠ z.v.cn → b ≠ z.v.cr → w'.heap[b]? = w.heap[b]?:=fun b hb e1 e2=>by
    rw [hne b (by omega) e1]
    by_cases hHb:H b
    ·
     rw [ho.hid b hHb]
     exact hold0 b hb
    · exact (hS w1 hstill).1 b ⟨hb,hHb,e1,e2⟩
   have herr:Errs9 w' ad:=by
    refine h.errs.sees (K:=OeS H z.v w) ⟨fun b hb=>hold b hb.1 hb.2.2.1 hb.2.2.2,by rw [h2];omega,(hS w' h3').out⟩ h.globs
   have hbig:=ho.big
   have hfin:=hend x bo cur w' ⟨by omega,by rw [hne bo (by omega) (by omega)];exact ho.row,ho.size,fun i hi=>?_,hold,by rw [h2];omega,by subst hpd;exact h3,(hS w' h3').out⟩
   ·
    subst hpd
    exact hfin
   ·
    have hdn:∃ v,dn i=some v:=by
     rcases hcov i (by subst hpd;exact hi) with h4 | ⟨j,-,h5,h6,-⟩
     ·
      cases hd:dn i with
      | none=>exact absurd hd h4
      | some v=>exact ⟨v,rfl⟩
     ·
      have:=hemp j h5
      omega
    obtain ⟨v,hv⟩:=hdn
    obtain ⟨u,y,rfl,e0,e1,e2⟩:=ho.vals i v hv hi
    obtain ⟨-,hmade⟩:=hres i _ hv
    refine ⟨u,y,e0,e1,e2,?_⟩
    have hsh:∀ c,c=z.v.wg → p.Sh c:=fun c hcw=>by
     subst hpd
     exact .inr hcw
    have hkc:¬ K z.v.cn:=by
     have:=hkeeps.kc.1
     subst hpd
     exact this
    have hsee:Sees (fun c=>Fx c ∧ ¬ p.Sh c) w1 w':=⟨fun c hc=>hne c (fun e=>hc.2 (hsh c e)) (fun e=>hkc (e ▸ hkeeps.fk c hc.1)),Nat.le_of_eq h2.symm,((hS w' h3').out.1).trans ((hS w1 hstill).out.1).symm,((hS w' h3').out.2).trans ((hS w1 hstill).out.2).symm⟩
    subst hpd
    exact made_end hmade hsee herr
  ·
   intro g hr
   have hF:∀ w1,p.Live Tryd.link.tWg w1 → WgLive Tryd.link.tWg z.v.wg w1:=fun w1 hl=>by
    subst hpd
    exact hl.2
   have hC:∀ w1,p.Live Tryd.link.tWg w1 → Has z.v.bn 0 (.chan (some z.v.cn)) w1:=fun w1 hl=>(hcell w1 hl.1).bn
   have hr':∃ t,g=wkRecv Tryd.f23 Tryd.prog z.v t:=by
    subst hpd
    exact hr
   obtain ⟨t,rfl⟩:=hr'
   obtain ⟨t',hk⟩:=wk_leaves (v:=z.v) (t:=t)
   have hk:=hk.mono (fun w1 (hl:p.Live Tryd.link.tWg w1)=>hcell w1 hl.1) hE
   obtain ⟨n,g',h1,h2⟩:=wk_done (v:=z.v) (t:=t') (Ev:=p.Ev) hF hC
   refine ⟨6+n,g',?_,?_⟩
   ·
    have e:(wkRecv Tryd.f23 Tryd.prog z.v t).finishComm Tryd.prog #[rcase z.v.cn (.int .i64 0)] (.recv true) 0 (.int .i64 0) false=wkGot Tryd.f23 Tryd.prog z.v t (.int .i64 0) false:=wk_takes _ rfl
    have hw2:=hk.app h1
    rw [← e] at hw2
    subst hpd
    exact hw2
   ·
    subst hpd
    exact h2
 -- all are started
 have hfin:∀ gs w1 t sl f g,gs[0]? = some g → OeFin Tryd.prog Tryd.f14 z cs z.m g → p.Begin Tryd.link.tWg gs w1 t f 0 → gs.size=p.top → WgAt Tryd.link.tWg p.wg w1 ((p.top - p.base:Nat) * KK) 0 → WellEnds Tryd.prog Post (crowd gs w1 sl) t:=by
  intro gs w1 t sl f g hg hF hB hsz hwg
  have hchr:∃ s tm,p.w0.heap[p.cr]? = some (.chan 0 #[] false s s tm):=by
   subst hpd
   exact ⟨s2,tm2,(hold0 _ lcr).trans hcr⟩
  have hH:=hB.hand hp hcc hchr hsz
  have hst:=hS w1 hH.still
  have hwl:w0.heap.size ≤ w1.heap.size:=by
   have:=hH.still.2
   subst hpd
   exact this
  have hgo:∃ M,Goes0 Tryd.prog (fun b=>p.S b ∨ p.Sh b) p.Sh (p.Next 0 0 (fun _=>none) (fun b=>p.S b ∨ p.Sh b)) M (fun b=>p.S b ∨ p.Sh b) g w1:=by
   refine Goes0.wto hF (fun _ _ _ _=>trivial) (fun _ hf=>hf.elim) trivial hH.keeps.kl (m:=0+60+60) ?_
   rintro g' ⟨x,rfl⟩
   have hkn:∀ b,OeS H z.v w b → (p.S b ∨ p.Sh b) ∧ ¬ p.Sh b:=fun b hb=>by
    have:p.S b:=by
     subst hpd
     exact hb
    exact ⟨.inl this,hp.parted b this⟩
   refine ho_begin (by omega) hH.keeps.kl (hkn _ h.vn) (hkn _ h.vr) (hcell w1 hH.still).bn (hcell w1 hH.still).br fun x' y' w2 h2=>?_
   have hout:OutRow H z w0 (fun _=>none) (fun b=>p.S b ∨ p.Sh b) (fun b=>(p.S b ∨ p.Sh b) ∨ b=w2.heap.size) w2.heap.size (zeros3 z.n) (w2.alloc (.cells (zeros3 z.n) 67 (0,0))):=by
    have hl2:w1.heap.size ≤ w2.heap.size:=h2.2
    have hkl:∀ b,p.S b ∨ p.Sh b → b < w1.heap.size:=hH.keeps.kl
    refine ⟨.inr rfl,fun hx=>?_,by omega,alloc_at _ _,by simp [zeros3,size_madeCells],(fun _ _ hv=>by cases hv),fun b hb=>.inl (.inr ?_),fun b hb=>?_,?_⟩
    ·
     have:=hkl _ hx
     omega
    ·
     subst hpd
     exact hb
    ·
     have hb':p.Sh b:=by
      subst hpd
      exact .inl hb
     have:=hkl b (.inr hb')
     have hne:b ≠ p.wg:=by
      have:=hlow b hb
      subst hpd
      show b ≠ z.v.wg
      omega
     rw [alloc_old _ _ (by omega),h2.1 b (.inr hb'),hB.world b hne]
     subst hpd
     rfl
    ·
     have hb':p.Sh p.wg:=hp.shwg
     have:=hkl _ (.inr hb')
     rw [hbt] at hwg
     have e1:(w2.alloc (.cells (zeros3 z.n) 67 (0,0))).heap[p.wg]? = w1.heap[p.wg]?:=by rw [alloc_old _ _ (by omega),h2.1 _ (.inr hb')]
     have hx:WgAt Tryd.link.tWg p.wg (w2.alloc (.cells (zeros3 z.n) 67 (0,0))) ((z.m:Int) * KK) 0:=e1.trans hwg
     subst hpd
     exact hx
   by_cases hn0:0 < z.n
   ·
    refine ho_round hn0 (by omega) (fun _=>rfl) fun y''=>?_
    refine Goes0.stop fun w3 h3=>?_
    have hx:=hout.sees h3
    subst hpd
    exact Or.inl ⟨hn0,by show 0 ≤ z.n;omega,w2.heap.size,x',y'',_,rfl,hx⟩
   ·
    have hn0:z.n=0:=by omega
    have key:Goes0 Tryd.prog (fun b=>p.S b ∨ p.Sh b) p.Sh (p.Next 0 0 (fun _=>none) (fun b=>p.S b ∨ p.Sh b)) (0+60) (fun b=>(p.S b ∨ p.Sh b) ∨ b=w2.heap.size) (hoHead Tryd.f25 z (some ⟨w2.heap.size,0,none⟩) (.chan (some z.v.cn)) 0 z.n y' (oeCall Tryd.f14 z x' :: cs)) (w2.alloc (.cells (zeros3 z.n) 67 (0,0))):=by
     refine ho_over fun y''=>?_
     refine Goes0.stop fun w3 h3=>?_
     have hx:=hout.sees h3
     subst hpd
     exact Or.inr ⟨hn0.symm,w2.heap.size,0,_,x',y'',_,rfl,hx⟩
    rw [hn0] at key
    rw [hn0]
    exact key
  obtain ⟨M,hgo⟩:=hgo
  refine Pool.hand_ends hp (fun hn=>?_) hshut hH ⟨g,hg,.inl ⟨M,rfl,hgo⟩⟩
  have:=h.pos (by subst hpd;exact hn)
  have:=hp.top
  omega
 have hpast:PastP (p.sets gs.size (noW Tryd.prog)) w0.heap.size 0 t:=by
  refine past_more (B:=B) (PastP.ofPast hP (fun lc hlc=>?_) (fun _ _ hx=>hx) (fun g hg=>?_) fun lc hlc=>?_) (by omega)
  ·
   obtain ⟨a,e1,e2⟩:=hlc
   subst hpd
   exact ⟨a,e1,.inl e2⟩
  ·
   subst hpd
   have h1:gs.size ≤ g ∧ g < gs.size:=hg
   omega
  ·
   obtain ⟨a,rfl,e2⟩:=hlc
   subst hpd
   have e2:a.block=z.v.wg:=e2
   show ¬ a.block < B
   omega
 have hbegin:p.Begin Tryd.link.tWg gs w0 t q 0:=by
  refine ⟨?_,⟨⟨fun _ _=>?_,?_,?_⟩,0,0,?_⟩,fun _ _=>?_,?_,?_,fun i g hi hg=>.inl ⟨?_,hL.old i g hi hg⟩,hpast,norel_of hP.seen ?_,hL.above⟩
  ·
   subst hpd
   exact Nat.le_refl _
  ·
   subst hpd
   rfl
  ·
   subst hpd
   exact Nat.le_refl _
  ·
   subst hpd
   exact ⟨rfl,rfl⟩
  ·
   subst hpd
   exact hat0
  ·
   subst hpd
   rfl
  ·
   subst hpd
   rfl
  ·
   subst hpd
   exact ⟨s1,tm1,(hold0 _ lcn).trans hcn⟩
  ·
   have:=get_zero hg
   subst hpd
   exact this
  ·
   subst hpd
   show B ≤ z.v.wg
   omega
 refine Pool.starts (ty:=Tryd.link.tWg) (child:=born Tryd.prog (wkCall z.v.wg z.v.bn z.v.ba z.v.br)) (Fin:=OeFin Tryd.prog Tryd.f14 z cs z.m) (r:=z.m) (g:=oeBorn Tryd.f14 z cs) hp (by omega) ?_ hfin hg ?_ hbegin ?_ ?_
 ·
  obtain ⟨t',hk⟩:=wk_born (v:=z.v)
  refine ⟨13,_,hk.mono hcell hE,?_⟩
  subst hpd
  exact ⟨t',rfl⟩
 ·
  have:=oe_spawns (z:=z) (cs:=cs) hm16 (r:=z.m) (j:=0) (by omega) (oe_in hm fun x'=>WTo.stop ⟨x',rfl⟩)
  subst hpd
  exact this
 ·
  subst hpd
  rfl
 ·
  have e:(gs.size - p.base:Nat)=0:=by
   subst hpd
   show gs.size - gs.size=0
   omega
  have e2:(((0:Nat):Int) * KK)=0:=by simp
  rw [e,e2]
  subst hpd
  exact hat0
end
end Go.Proofs.YtbokomeejmnnoaaDoor

namespace Go.Proofs.YtbokomeejmnnoaaDoor
open Go.Conc Go.RowKit Go.Conc.Lib Go.ConcR.Gen
section
variable {P:Program} {Post:Value → World → Prop} {H:Nat → Prop} {p:Plan}
def FinA (P:Program) (Post:Value → World → Prop) (H:Nat → Prop) (g:Goroutine) (w:World):Prop:=∀ d,FinW P Post H g (w.at d)
theorem FinA.now {g:Goroutine} {w:World} (h:FinA P Post H g w):FinW P Post H g w:=h w.drawn
theorem MaskT.at {v w:World} (h:MaskT H v w) (d:Nat):MaskT H v (w.at d):=by
 obtain ⟨t,t',hm⟩:=h
 refine ⟨t,fun j q=>t (j - d+v.drawn) q,hm.size,hm.seen,hm.hid,fun j q=>?_,hm.os,hm.output⟩
 show t (d+j - d+v.drawn) q=t (v.drawn+j) q
 rw [Nat.add_sub_cancel_left,Nat.add_comm]
theorem MaskT.size {v w:World} (h:MaskT H v w):w.heap.size=v.heap.size:=by
 obtain ⟨t,t',hm⟩:=h
 exact hm.size
theorem MaskT.row {v w:World} (h:MaskT H v w) {b:Nat} (hb:¬ H b) {o:Obj} (ho:w.heap[b]? = some o) (hp:∀ c e,o ≠ .pending c e):v.heap[b]? = some o:=by
 obtain ⟨t,t',hm⟩:=h
 rcases hm.seen b hb with ⟨h1,-⟩ | ⟨c,e,h1,-⟩
 · exact (show v.heap[b]? = w.heap[b]? from h1.symm).trans ho
 ·
  have h1:w.heap[b]? = some (.pending c e):=h1
  rw [h1] at ho
  exact absurd (Option.some.inj ho).symm (hp c e)
theorem MaskT.rowBack {v w:World} (h:MaskT H v w) {b:Nat} {c:Array Value} {t:TypeId} {fz:Nat × Nat} (ho:v.heap[b]? = some (.cells c t fz)) (hb:¬ H b):w.heap[b]? = some (.cells c t fz):=by
 obtain ⟨t1,t',hm⟩:=h
 rcases hm.seen b hb with ⟨h1,-⟩ | ⟨c,e,-,h1⟩
 · exact (show w.heap[b]? = v.heap[b]? from h1).trans ho
 ·
  have h1:v.heap[b]? = some (.coro none):=h1
  rw [h1] at ho
  cases ho
theorem MaskT.cellOf {v w:World} (h:MaskT H v w) {a:Addr} {x:Value} (hb:¬ H a.block) (hc:w.cell? a=some x):v.cell? a=some x:=by
 unfold World.cell? at hc ⊢
 cases ho:w.heap[a.block]? with
 | none=>rw [ho] at hc;cases hc
 | some o=>
  rw [h.row hb ho (fun c e he=>by rw [ho,he] at hc;cases hc)]
  rw [ho] at hc
  exact hc
theorem MaskT.below {v v' w w':World} (h:MaskT H v w) (h':MaskT H v' w') (hp:Pend H w w') (hb:∀ b,b < v.heap.size → v'.heap[b]? = v.heap[b]?) {b:Nat} (hl:b < w.heap.size) (hh:¬ H b):w'.heap[b]? = w.heap[b]?:=by
 have hl':b < v.heap.size:=by rw [← h.size];exact hl
 cases ho:w.heap[b]? with
 | none=>exact absurd ho (by rw [Array.getElem?_eq_getElem hl];simp)
 | some o=>
  by_cases hc:∃ c t fz,o=.cells c t fz
  ·
   obtain ⟨c,t,fz,rfl⟩:=hc
   exact h'.rowBack ((hb b hl').trans (h.row hh ho fun _ _ he=>by cases he)) hh
  · exact hp.1 b o ho fun c t fz he=>hc ⟨c,t,fz,he⟩
theorem Pend.refl (w:World):Pend H w w:=⟨fun _ _ h _=>h,fun _ _=>rfl,rfl,rfl⟩
/-! ### the rules -/
theorem FinA.ctl {g g':Goroutine} {w:World} (hrun:g.status=.running) (h:∀ d,stepG P true g (w.at d)=.go g' (w.at d)) (hf:FinA P Post H g' w):FinA P Post H g w:=fun _=>fin_ctl hrun (fun d'=>h d') fun d'=>hf d'
theorem FinA.c {g g':Goroutine} {w:World} (hrun:g.status=.running) (h:∀ w,stepG P true g w=.go g' w) (hf:FinA P Post H g' w):FinA P Post H g w:=FinA.ctl hrun (fun _=>h _) hf
section
variable {b:Frame} {a:Act} {k:List Item} {cs:List Frame} {ops:Array Oper} {i:Nat} {rest:List Nat} {o:Oper} {w:World}
theorem FinA.value (v:Value) (ho:ops[i]? = some o) (hw:Region.wanted o (yielded ops a.tmps)=true) (hk:b.kind ≠ .early) (hr:∀ w,(execOp a.eval o).run P w=.ok (.value v) w) (he:∀ w,(execOp a.eval o).events P w #[] = #[])
  (h:FinA P Post H (G (b.at (a.put o.dst v) (.inRegion ops rest :: k)) cs) w):FinA P Post H (G (b.at a (.inRegion ops (i :: rest) :: k)) cs) w:=
 .c rfl (fun w1=>by rw [stepG_value ho hw hk (hr w1)];unfold listed;rw [he w1,seen_none]) h
theorem FinA.call {f:FuncId} {fn:Func} {c:Code} {args:Array Operand} {ats:Array TypeId} (ho:ops[i]? = some o) (hw:Region.wanted o (yielded ops a.tmps)=true) (hk:b.kind ≠ .early) (hop:o.op=.call { callee:=.value (.func f),args,argTypes:=ats })
  (hf:P.funcs[f]? = some fn) (hname:(fn.name == "runtime.NumGoroutine")=false) (hb:fn.body=some c)
  (h:FinA P Post H (G ((base f).at { tmps:=args.map a.eval ++ Array.replicate (fn.ntmps - (args.map a.eval).size) undef,defers:=[] } [.code c]) (b.at a (.inRegion ops (i :: rest) :: k) :: cs)) w):FinA P Post H (G (b.at a (.inRegion ops (i :: rest) :: k)) cs) w:=
 .c rfl (fun w1=>stepG_named ho hw hk hop hf hname hb w1) h
theorem FinA.op (hF:∀ H,FnsOkM P p H) {Q:Value → World → Prop} (ho:ops[i]? = some o) (hw:Region.wanted o (yielded ops a.tmps)=true) (hk:b.kind ≠ .early) (hfl:∀ s ∈ p.Kf b.fn,GoodF p (a.tmps.getD s undef)) (hop:operM P p (p.Kf b.fn) o=true) (hh:HidOk H w)
  (hr:∀ v,MaskT H v w → ∃ x v',(execOp a.eval o).run P v=.ok (.value x) v' ∧ Q x v') (hn:∀ x v' w',Q x v' → MaskT H v' w' → Pend H w w' → FinA P Post H (G (b.at (a.put o.dst x) (.inRegion ops rest :: k)) cs) w'):FinA P Post H (G (b.at a (.inRegion ops (i :: rest) :: k)) cs) w:=by
 intro d0 gs sl t q B hg hL hP hB
 refine beside_one (P:=P) (Shun:=shunOf H) rfl (fun a' w' B'=>B' ≤ w'.heap.size ∧ ∃ x v',Q x v' ∧ MaskT H v' w' ∧ Pend H w w' ∧ a'=G (b.at (a.put o.dst x) (.inRegion ops rest :: k)) cs) ?_ _ gs (w.at d0) sl t q B rfl hg hL hP fun d=>?_
 ·
  rintro gs' a' w' sl' t' q' B' ⟨hB',x,v',hq,hm,hp,rfl⟩ hg' hL' hP'
  exact (hn x v' w' hq hm hp).now gs' sl' t' q' B' hg' hL' hP' hB'
 ·
  obtain ⟨v,hm,-,-⟩:=mask_of hh
  have hmask:=hm.some.lead d
  obtain ⟨x,v',hrun,hQ⟩:=hr (taped v fun j q=>w.tape (j - v.drawn+d) q) (hm.some.retape _ w.tape)
  rcases (msim_oper (hF H) (ks:=p.Kf b.fn) (e:=a.eval) hfl (fun _=>rfl) hop).1 _ _ hmask with ⟨hh',v1,h1,-⟩ | ⟨n,v1,w',u,h0,h1,h2,h3,h4,h5,-⟩
  ·
   rw [hrun] at h1
   cases h1
  ·
   rw [hrun] at h0
   cases h0
   refine ⟨_,w',_,w'.heap.size,stepG_value ho hw hk h1,fun e he=>?_,Nat.le_trans hB h3.size,Nat.le_refl _,x,v',hQ,h2.some,⟨h3.others,h3.hid,h3.os,h3.output⟩,rfl⟩
   unfold listed at he
   have h4:∀ es,(execOp a.eval o).events P ((w.at d0).at d) es=es ++ u:=h4
   have:=mem_seen he
   rw [h4 #[],Array.empty_append] at this
   exact off_evL (h5 e this)
theorem FinA.wp (hF:∀ H,FnsOkM P p H) {c:Code} {Q:Exit → Act → World → Prop} (hb:BaseM P p b a) (hc:codeM P p (p.Kf b.fn) c=true) (hh:HidOk H w)
  (hwp:∀ v,MaskT H v w → c.wp P Q a v) (hq:∀ e a w,Q e a w → e=.normal ∨ e=.ret) (hqt:∀ e a w t,Q e a w → Q e a (taped w t))
  (hn:∀ a' v' w',Q .normal a' v' → MaskT H v' w' → Pend H w w' → FinA P Post H (G (b.at a' k) cs) w') (hr:∀ a' todo v' w',Q .ret a' v' → MaskT H v' w' → Pend H w w' → FinA P Post H (G { b.at a' todo with mode:=.returning } cs) w'):FinA P Post H (G (b.at a (.code c :: k)) cs) w:=fun _=>
 fin_wp hF hb hc (fun x hx=>hh x hx) (fun v hv=>hwp v (hv.at w.drawn)) hq hqt (fun a' v' w' h1 h2 h3=>(hn a' v' w' h1 h2 h3).now) fun a' todo v' w' h1 h2 h3=>(hr a' todo v' w' h1 h2 h3).now
theorem FinA.leave {b₀:Frame} {a₀:Act} {todo:List Item} {fn:Func} {v:Value} (hn:b.kind=.normal) (hd:a.defers=[]) (hf:P.funcs[b.fn]? = some fn) (hr:∀ w,(results fn a.tmps).run P w=.ok v w) (he:∀ w,(results fn a.tmps).events P w #[] = #[])
  (h:FinA P Post H (G (b₀.at (a₀.put ((ops[i]?).bind (·.dst)) v) (.inRegion ops rest :: k)) cs) w):FinA P Post H (G { b.at a todo with mode:=.returning } (b₀.at a₀ (.inRegion ops (i :: rest) :: k) :: cs)) w:=
 .c rfl (fun w1=>by rw [stepG_leave hn hd hf (hr w1) (he w1),Frame.finish_at]) h
theorem FinA.end_ {todo:List Item} {fn:Func} {v:Value} (hn:b.kind=.normal) (hd:a.defers=[]) (hf:P.funcs[b.fn]? = some fn) (hr:∀ w,(results fn a.tmps).run P w=.ok v w) (he:∀ w,(results fn a.tmps).events P w #[] = #[])
  (hin:P.inits.idxOf? b.fn=none) (h:∀ d,Post v (w.at d)):FinA P Post H (G { b.at a todo with mode:=.returning } []) w:=fun d gs sl t q B hg hL hP hB=>by
 refine beside_ends (P:=P) (Shun:=shunOf H) (B:=B) (D:=fun _ _ _=>False) (n:=0) (fun _ _ _ h=>h.elim) hg hL hP ?_
 rintro w1 ⟨d',rfl⟩
 refine ⟨rfl,v,#[],?_,by simp,h d'⟩
 have h1:=hr ((w.at d).at d')
 have h2:=he ((w.at d).at d')
 simp [G,stepG,unwind,doReturn,Frame.at,hn,hd,hf,h1,h2,hin,seen,GStep.after]
end
end
end Go.Proofs.YtbokomeejmnnoaaDoor

namespace Go.Proofs.YtbokomeejmnnoaaDoor
open Extern.Rtype Extern.ReflectliteValue
section
variable {α β γ:Type} {P:Program} {H:Nat → Prop}
theorem msim_cutType (m:String):MSim P H (cutType m):=msim_asks (asks_cutType m)
theorem msim_handle (t:TypeId):MSim P H (handle t):=msim_program (msim_pure _)
theorem msim_ofHandle (x:Value):MSim P H (ofHandle x):=by
 unfold ofHandle
 refine msim_program ?_
 split
 · exact msim_pure _
 · exact msim_stuck _
theorem msim_toType (t:TypeId):MSim P H (Extern.ReflectliteType.toType t):=msim_bind (msim_cutType _) fun _=>msim_bind (msim_handle _) fun _=>msim_pure _
theorem msim_ofRtype (x:Value):MSim P H (Extern.ReflectliteType.ofRtype x):=by
 cases x <;> first | exact msim_stuck _ | skip
 rename_i c
 obtain ⟨l⟩:=c
 match l with
 | []=>exact msim_stuck _
 | [h]=>exact msim_bind (msim_ofHandle _) fun _=>msim_bind (msim_asks (asks_noPack _ _)) fun _=>msim_pure _
 | _ :: _ :: _=>exact msim_stuck _
theorem extM_one {x:Array Value → Sem Value} (hs:∀ l:List Value,l.length ≠ 1 → MSim P H (x ⟨l⟩)) (h:∀ u,MSim P H (x #[u])):ExtM P H x:=fun a=>by
 obtain ⟨l⟩:=a
 match l with
 | []=>exact hs _ (by simp)
 | [u]=>exact h u
 | _ :: _ :: _=>exact hs _ (by simp)
theorem extM_two {x:Array Value → Sem Value} (hs:∀ l:List Value,l.length ≠ 2 → MSim P H (x ⟨l⟩)) (h:∀ u v,MSim P H (x #[u,v])):ExtM P H x:=fun a=>by
 obtain ⟨l⟩:=a
 match l with
 | []=>exact hs _ (by simp)
 | [_]=>exact hs _ (by simp)
 | [u,v]=>exact h u v
 | _ :: _ :: _ :: _=>exact hs _ (by simp)
theorem extM_typeOf:ExtM P H Extern.ReflectliteType.typeOf:=extM_one (fun l hl=>by
  match l,hl with
  | [],_=>exact msim_stuck _
  | [_],hl=>exact absurd rfl hl
  | _ :: _ :: _,_=>exact msim_stuck _) fun u=>by
 cases u <;> first | exact msim_stuck _ | exact msim_pure _ | exact msim_toType _
theorem extM_method {f:TypeId → Sem Value} (hf:∀ t,MSim P H (f t)):ExtM P H (Extern.ReflectliteType.method f):=extM_one (fun l hl=>by
  match l,hl with
  | [],_=>exact msim_stuck _
  | [_],hl=>exact absurd rfl hl
  | _ :: _ :: _,_=>exact msim_stuck _) fun u=>msim_bind (msim_ofRtype _) hf
theorem extM_typeElem:ExtM P H (Extern.ReflectliteType.method Extern.ReflectliteType.elem):=extM_method fun t=>by
 unfold Extern.ReflectliteType.elem
 refine msim_bind (msim_asks (asks_elem t)) fun o=>?_
 split
 · exact msim_toType _
 · exact msim_bind (msim_asks (asks_spelt t)) fun _=>msim_dies (dies_panicString _)
theorem extM_relation (m:String) {f:TypeId → TypeId → Sem Bool} (hf:∀ t u,Asks P (f t u)):ExtM P H (Extern.ReflectliteType.relation m f):=extM_two (fun l hl=>by
  match l,hl with
  | [],_=>exact msim_stuck _
  | [_],_=>exact msim_stuck _
  | [_,_],hl=>exact absurd rfl hl
  | _ :: _ :: _ :: _,_=>exact msim_stuck _) fun u v=>by
 cases v <;> first | exact msim_stuck _ | exact msim_dies (dies_panicString _) | exact msim_bind (msim_ofRtype _) fun _=>msim_bind (msim_ofRtype _) fun _=>msim_bind (msim_asks (hf _ _)) fun _=>msim_pure _
theorem extM_abiKind:ExtM P H (Extern.ReflectliteType.abiMethod fun t=>do pure (.int .u8 (← kind t))):=extM_one (fun l hl=>by
  match l,hl with
  | [],_=>exact msim_stuck _
  | [_],hl=>exact absurd rfl hl
  | _ :: _ :: _,_=>exact msim_stuck _) fun u=>msim_bind (msim_ofHandle _) fun t=>msim_bind (msim_asks (asks_noPack _ t)) fun _=>msim_bind (msim_asks (asks_kind t)) fun _=>msim_pure _
theorem asks_noPackHeld (m:String) (t:TypeId):Asks P (noPackHeld m t):=by
 unfold noPackHeld
 exact asks_bind asks_program fun _=>asks_ite (asks_dies (dies_halt trivial)) (asks_pure _)
theorem extM_comparable:ExtM P H (Extern.ReflectliteType.method fun t=>do noPackHeld "Comparable" t;pure (.bool (← typeInfo t).comparable)):=extM_method fun t=>msim_bind (msim_asks (asks_noPackHeld _ t)) fun _=>msim_bind (msim_typeInfo t) fun _=>msim_pure _
theorem msim_mk (t:TypeId) (a:Addr) (n:Nat):MSim P H (mk t a n):=msim_bind (msim_handle t) fun _=>msim_bind (msim_asks (asks_kind t)) fun _=>msim_pure _
theorem msim_unpack (x:Value):MSim P H (unpack x):=by
 unfold unpack
 split
 · exact msim_pure _
 · exact msim_bind (msim_newVar _ _) fun _=>msim_mk _ _ _
 · exact msim_stuck _
theorem extM_valueOf:ExtM P H (fun args=>unpack (args.getD 0 (.tuple #[]))):=fun _=>msim_unpack _
theorem msim_partsAny (x:Value):MSim P H (partsAny x):=by
 have key:∀ h y z:Value,MSim P H (partsAny (.agg #[h,y,z])):=fun h y z=>by
  cases z <;> first | (cases y <;> exact msim_stuck _) | exact msim_stuck _ | skip
  rename_i k n
  cases k <;> first | (cases y <;> exact msim_stuck _) | skip
  cases n with
  | ofNat m=>
   cases m with
   | zero=>exact msim_pure _
   | succ m=>
    cases y <;> first | exact msim_stuck _ | skip
    rename_i q
    cases q with
    | none=>exact msim_stuck _
    | some a=>exact msim_bind (msim_ofHandle _) fun _=>msim_pure _
  | negSucc m=>
   cases y <;> first | exact msim_stuck _ | skip
   rename_i q
   cases q with
   | none=>exact msim_stuck _
   | some a=>exact msim_bind (msim_ofHandle _) fun _=>msim_pure _
 cases x <;> first | exact msim_stuck _ | skip
 rename_i c
 obtain ⟨l⟩:=c
 match l with
 | []=>exact msim_stuck _
 | [_]=>exact msim_stuck _
 | [_,_]=>exact msim_stuck _
 | [h,y,z]=>exact key h y z
 | _ :: _ :: _ :: _ :: _=>exact msim_stuck _
theorem msim_parts (x:Value):MSim P H (parts x):=by
 unfold parts
 refine msim_bind (msim_partsAny x) fun o=>?_
 split
 · exact msim_bind (msim_asks (asks_noPack _ _)) fun _=>msim_pure _
 · exact msim_pure _
theorem extM_valueMethod {z:Sem Value} {f:TypeId → Addr → Nat → Nat → Sem Value} (hz:MSim P H z) (hf:∀ t a n k,MSim P H (f t a n k)):ExtM P H (Extern.ReflectliteValue.method z f):=extM_one (fun l hl=>by
  match l,hl with
  | [],_=>exact msim_stuck _
  | [_],hl=>exact absurd rfl hl
  | _ :: _ :: _,_=>exact msim_stuck _) fun u=>by
 refine msim_bind (msim_parts _) fun o=>?_
 split
 · exact hz
 · exact hf _ _ _ _
theorem extM_valueAny {z:Sem Value} {f:TypeId → Addr → Nat → Nat → Sem Value} (hz:MSim P H z) (hf:∀ t a n k,MSim P H (f t a n k)):ExtM P H (methodAny z f):=extM_one (fun l hl=>by
  match l,hl with
  | [],_=>exact msim_stuck _
  | [_],hl=>exact absurd rfl hl
  | _ :: _ :: _,_=>exact msim_stuck _) fun u=>by
 refine msim_bind (msim_partsAny _) fun o=>?_
 split
 · exact hz
 · exact hf _ _ _ _
theorem extM_type:ExtM P H (methodAny (valueError "reflectlite.Value.Type" 0) (fun t _ _ _=>Extern.ReflectliteType.toType t)):=extM_valueAny (msim_dies (dies_valueError _ _)) fun t _ _ _=>msim_toType t
theorem extM_isNil:ExtM P H (Extern.ReflectliteValue.method (valueError "reflectlite.Value.IsNil" 0) isNil):=extM_valueMethod (msim_dies (dies_valueError _ _)) fun t a n k=>by
 unfold isNil
 have last:MSim P H (do
   match ← loadVar t a with
   | .chan none | .nilFunc | .nilIface | .map none | .pointer none | .slice none _ _=>pure (.bool true)
   | _=>pure (.bool false):Sem Value):=by
  refine msim_bind (msim_loadVar _ _) fun x=>?_
  split <;> exact msim_pure _
 exact msim_ite (msim_bind (msim_dies (dies_valueError _ _)) fun _=>last) last
theorem extM_elem:ExtM P H (Extern.ReflectliteValue.method (valueError "reflectlite.Value.Elem" 0) Extern.ReflectliteValue.elem):=extM_valueMethod (msim_dies (dies_valueError _ _)) fun t a n k=>by
 unfold Extern.ReflectliteValue.elem
 have last:MSim P H (do
   match k,← loadVar t a,← elem? t with
   | 20,i,_=>unpack i
   | 22,.pointer none,_=>pure zeroV
   | 22,.pointer (some p),some e=>mk e p flagAddr
   | _,_,_=>valueError "reflectlite.Value.Elem" k:Sem Value):=by
  refine msim_bind (msim_loadVar _ _) fun x=>msim_bind (msim_asks (asks_elem t)) fun o=>?_
  split
  · exact msim_unpack _
  · exact msim_pure _
  · exact msim_mk _ _ _
  · exact msim_dies (dies_valueError _ _)
 exact msim_ite (msim_bind (msim_dies (dies_valueError _ _)) fun _=>last) last
theorem extM_valueKind:ExtM P H (Extern.ReflectliteValue.method (pure (.int .u8 0)) (fun _ _ _ k=>pure (.int .u8 (Int.ofNat k)))):=extM_valueMethod (msim_pure _) fun _ _ _ _=>msim_pure _
theorem extM_set:ExtM P H Extern.ReflectliteValue.set:=extM_two (fun l hl=>by
  match l,hl with
  | [],_=>exact msim_stuck _
  | [_],_=>exact msim_stuck _
  | [_,_],hl=>exact absurd rfl hl
  | _ :: _ :: _ :: _,_=>exact msim_stuck _) fun u v=>by
 refine msim_bind (msim_parts _) fun x=>msim_bind (msim_parts _) fun y=>?_
 split
 ·
  rename_i dst a fl src b _ _
  have tail:MSim P H (do
    let val ← loadVar src b
    if ← directlyAssignable dst src then storeVar dst a val
    else if ← implements dst src then
     if (← kind src) == 20 then
      match val with
      | .nilIface=>unsupported (.noEntry "extern/reflectlite: a nil value of one interface type handed on as a value of another")
      | _=>storeVar dst a val
     else storeVar dst a (.iface src val)
    else panicString ("reflectlite.Set: value of type " ++ (← spelt src) ++ " is not assignable to type " ++ (← spelt dst))
    pure (.tuple #[]):Sem Value):=by
   refine msim_bind (msim_loadVar _ _) fun val=>msim_bind (msim_asks (asks_directly _ _)) fun c=>?_
   refine msim_ite (msim_bind (msim_storeVar _ _ _) fun _=>msim_pure _) (msim_bind (msim_asks (asks_implements _ _)) fun _=>msim_ite (msim_bind (msim_asks (asks_kind _)) fun _=>msim_ite ?_ (msim_bind (msim_storeVar _ _ _) fun _=>msim_pure _)) (msim_bind (msim_asks (asks_spelt _)) fun _=>msim_bind (msim_asks (asks_spelt _)) fun _=>msim_bind (msim_dies (dies_panicString _)) fun _=>msim_pure _))
   split
   · exact msim_bind (msim_halt _) fun _=>msim_pure _
   · exact msim_bind (msim_storeVar _ _ _) fun _=>msim_pure _
  exact msim_ite (msim_bind (msim_halt _) fun _=>tail) tail
 · exact msim_halt _
end
end Go.Proofs.YtbokomeejmnnoaaDoor
