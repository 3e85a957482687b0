/- Own facts, put together: no statement of its own. -/
import Derived.Conc.Beside
import Derived.Conc.Listed
import Derived.Test.YtbokomeejmnnoaaDoorD24
import Derived.Conc.TokenTrace
import Derived.Conc.CrowdTrace
import Derived.Test.YtbokomeejmnnoaaDoorD17

namespace Go.Proofs.YtbokomeejmnnoaaDoor
open Go.Conc
open Go.ConcN (sumTo upd sumTo_upd upd_ne upd_same)
def WellEnds (P:Program) (Post:Value → World → Prop) (m:Machine) (t:Trace):Prop:=∃ N last o w' t',runNT P (N+1) m t=(.ended o w',t') ∧ runN P N m=.next last ∧ step P last=.ended o w' ∧ Go.Conc.Good P Post last o w' t'
section
variable {P:Program} {Post:Value → World → Prop} {Shun:Loc → Prop}
theorem WellEnds.next {m m1:Machine} {t:Trace} {ops:Array MemOp} (h:stepT P m=(.next m1,ops)) (hw:WellEnds P Post m1 (t ++ ops)):WellEnds P Post m t:=by
 obtain ⟨N,last,o,w',t',h1,h2,h3,h4⟩:=hw
 refine ⟨N+1,last,o,w',t',?_,?_,h3,h4⟩
 ·
  rw [runNT,h]
  exact h1
 ·
  have hs:step P m=.next m1:=by
   show (stepT P m).1=_
   rw [h]
  simp only [runN,hs]
  exact h2
theorem beside_one {a:Goroutine} (hrun:a.status=.running) (K:Goroutine → World → Nat → Prop)
  (hK:∀ gs' a' w' sl' t' q' B',K a' w' B' → gs'[0]? = some a' → Leavers P t' gs' q' → Past Shun B' t' → WellEnds P Post (crowd gs' w' sl') t') (M:Nat):∀ (gs:Array Goroutine) (w:World) (sl:Option (Nat × Nat)) (t:Trace) (q:Nat → Nat) (B:Nat),Go.ConcN.sumTo gs.size q=M → gs[0]? = some a → Leavers P t gs q → Past Shun B t →
  (∀ d,∃ a' w' es B',stepG P true a (w.at d)=.go a' w' es ∧ (∀ e ∈ es,EvL Shun B' e) ∧ B ≤ B' ∧ K a' w' B') → WellEnds P Post (crowd gs w sl) t:=by
 induction M using Nat.strongRecOn with
 | ind M ih=>
  intro gs w sl t q B hM h0 hL hP hstep
  have haw:∀ g ∈ gs,awake g:=by
   intro g hg
   obtain ⟨i,hi,rfl⟩:=Array.mem_iff_getElem.1 hg
   rcases Nat.eq_zero_or_pos i with rfl | hpos
   ·
    have:gs[0]=a:=by simpa [Array.getElem?_eq_getElem hi] using h0
    rw [this]
    exact awake_of (.inl hrun)
   · exact awake_of ((hL.old i _ hpos (Array.getElem?_eq_getElem hi)).status.elim .inl fun x=>.inr (.inr x))
  obtain ⟨i,g,d,sl',hi,hg,hst⟩:=crowd_pick (P:=P) (w:=w) (sl:=sl) haw ⟨0,a,h0,hrun⟩
  have ofE:∀ (n:Nat) (fn:FuncId) (pos:String) (es:Array Event),∀ op ∈ MemOp.ofEvents n fn pos es,op.g=n:=fun n fn pos es op hop=>by
   obtain ⟨e,-,rfl⟩:=Go.Conc.mem_ofEvents hop
   rfl
  rcases Nat.eq_zero_or_pos i with rfl | hpos
  ·
   obtain rfl:g=a:=by rw [h0] at hi;exact (Option.some.inj hi).symm
   obtain ⟨a',w',es,B',hgo,hes,hB,hk⟩:=hstep d
   have hrunT:=runT_crowd_go (P:=P) (sl:=sl') (i:=0) hi (show stepG P (0 == 0) g (w.at d)=_ from hgo)
   have hlt:0 < gs.size:=(Array.getElem?_eq_some_iff.1 h0).1
   refine WellEnds.next (hst.trans hrunT) (hK _ a' w' sl' _ q B' hk (by simp [hlt]) ⟨fun j x hj hx=>?_,fun j hj=>?_⟩ ((hP.mono hB).own hes))
   ·
    rw [Array.getElem?_setIfInBounds_ne (by omega),Array.getElem?_map] at hx
    obtain ⟨y,hy,rfl⟩:=Option.map_eq_some_iff.1 hx
    have hq:=hL.old j y hj hy
    rw [woken_quitsD hq,Deaf_other t (by omega) _ (ofE 0 _ _ _)]
    exact hq
   ·
    rw [Deaf_other t (g':=0) (by simp at hj;omega) _ (ofE 0 _ _ _)]
    exact hL.above j (by simpa using hj)
  ·
   have hq:=hL.old i g hpos hi
   have hi0:(i == 0)=false:=by simp;omega
   have hlt:i < gs.size:=(Array.getElem?_eq_some_iff.1 hi).1
   cases hqi:q i with
   | zero=>rw [hqi] at hq;rw [hq.1] at hg;cases hg
   | succ k=>
    rw [hqi] at hq
    rcases hq with ⟨hf,_⟩ | ⟨_,g',es,hm,hstp,hq'⟩
    · rw [hf] at hg;cases hg
    have hrunT:=runT_crowd_go (P:=P) (sl:=sl') (i:=i) hi (by rw [hi0];exact hstp (w.at d))
    have hsz:((gs.map (woken P g g' (w.at d))).setIfInBounds i g').size=gs.size:=by simp
    have hsum:Go.ConcN.sumTo gs.size (upd q i k)+(k+1)=Go.ConcN.sumTo gs.size q+k:=by
     have:=sumTo_upd q k id hlt
     simpa [hqi] using this
    refine WellEnds.next (hst.trans hrunT) (ih _ ?_ _ (w.at d) sl' _ (upd q i k) B rfl ?_ ⟨fun j x hj hx=>?_,fun j hj=>?_⟩ (hP.mute (by omega) hm) fun d'=>hstep d')
    ·
     rw [hsz]
     omega
    ·
     rw [Array.getElem?_setIfInBounds_ne (by omega),Array.getElem?_map,h0]
     simp [woken_run hrun]
    ·
     by_cases hji:i=j
     ·
      subst hji
      rw [Array.getElem?_setIfInBounds_self_of_lt (by simpa using hlt)] at hx
      obtain rfl:=Option.some.inj hx
      rw [upd_same,Deaf_own]
      exact hq'
     ·
      rw [Array.getElem?_setIfInBounds_ne hji,Array.getElem?_map] at hx
      obtain ⟨y,hy,rfl⟩:=Option.map_eq_some_iff.1 hx
      have hqj:=hL.old j y hj hy
      rw [woken_quitsD hqj,upd_ne q k (Ne.symm hji),Deaf_other t hji _ (ofE i _ _ _)]
      exact hqj
    ·
     rw [Deaf_other t (g':=i) (by simp at hj;omega) _ (ofE i _ _ _)]
     exact hL.above j (by simpa using hj)
def shunOf (H:Nat → Prop):Loc → Prop:=fun l=>∃ a,l=.cell a ∧ H a.block
theorem off_evL {H:Nat → Prop} {n:Nat} {e:Event} (h:OffH H n e):EvL (shunOf H) n e:=by
 obtain ⟨loc,wr,sy⟩:=e
 refine ⟨fun x hx hs=>?_,fun he=>?_,fun he=>?_,?_⟩
 ·
  exfalso
  obtain ⟨a,ha,hH⟩:=hs
  cases loc with
  | cell b=>
   have:=(h.1 b rfl).1
   cases sy <;> simp [MemAct.ofEvent,MemAct.touch?] at hx <;> subst hx <;> (cases ha;exact this hH)
  | obj r=>cases sy <;> cases wr <;> simp [MemAct.ofEvent,MemAct.touch?] at hx <;> subst hx <;> cases ha
  | output=>exact h.2.2.1 rfl
  | goroutines=>cases sy <;> simp [MemAct.ofEvent,MemAct.touch?] at hx <;> subst hx <;> cases ha
  | mark m=>rcases h.2.2.2 m rfl with rfl | ⟨f,rfl⟩ <;> simp [MemAct.ofEvent,MemAct.touch?] at hx
 · rcases h.2.2.2 _ he with h1 | ⟨f,h1⟩ <;> cases h1
 · rcases h.2.2.2 _ he with h1 | ⟨f,h1⟩ <;> cases h1
 ·
  cases loc with
  | cell b=>exact (h.1 b rfl).2
  | obj r=>cases sy <;> cases wr <;> exact (h.2.1 r rfl).2
  | output=>exact trivial
  | goroutines=>exact trivial
  | mark m=>rcases h.2.2.2 m rfl with rfl | ⟨f,rfl⟩ <;> exact trivial
end
end Go.Proofs.YtbokomeejmnnoaaDoor

namespace Go.Proofs.YtbokomeejmnnoaaDoor
open Go.Conc
theorem or_map {a b c d:Prop} (f:a → c) (g:b → d) (h:a ∨ b):c ∨ d:=h.elim (fun x=>.inl (f x)) fun y=>.inr (g y)
def inBlock (b:Nat):Loc → Prop
 | .cell a=>a.block=b
 | .obj r=>r=b
 | _=>False
theorem inBlock_one {b b':Nat} {l:Loc} (h:inBlock b l) (h':inBlock b' l):b=b':=by
 cases l <;> simp only [inBlock] at h h'
 · exact h.symm.trans h'
 · exact h.symm.trans h'
theorem inBlock_low {b B:Nat} {l:Loc} (h:inBlock b l) (hl:l.low B):b < B:=by
 cases l <;> simp only [inBlock] at h
 · exact h ▸ hl
 · exact h ▸ hl
structure Sets where
 still:Loc → Prop
 shun:Loc → Prop
 wg:Loc → Prop
 mem:Nat → Prop
 mine:Nat → Nat → Prop
structure Sets.Ok (S:Sets):Prop where
 zero:¬ S.mem 0
 one:∀ g g' b,S.mine g b → S.mine g' b → g=g'
 still:∀ g b l,S.mine g b → inBlock b l → ¬ S.still l
 shun:∀ g b l,S.mine g b → inBlock b l → ¬ S.shun l
 parted:∀ l,S.still l → ¬ S.shun l
 wg:∀ l,S.wg l → S.shun l
 memory:∀ l,S.still l → l.isMemory=true
structure PastP (S:Sets) (B d:Nat) (t:Trace):Prop where
 clean:∀ said,¬ Race said t
 known:∀ i a,touchAt t i=some a → a.loc.isMemory=true → Knows t 0 i ∨ (S.shun a.loc ∧ a.kind=.atomic) ∨ ∃ g,t.g? i=some g ∧ S.mem g ∧ a.kind ≠ .atomic ∧ ((a.write=false ∧ S.still a.loc) ∨ ∃ b,S.mine g b ∧ inBlock b a.loc)
 wrote:∀ i a,touchAt t i=some a → a.write=true → S.still a.loc → ∀ g,S.mem g → Knows t g i
 mine:∀ i a g b,touchAt t i=some a → S.mine g b → inBlock b a.loc → t.g? i=some g
 shunned:∀ i a,touchAt t i=some a → S.wg a.loc → a.kind ≠ .plain
 over:∀ i g,t.g? i=some g → g ≠ 0 → ¬ S.mem g → t.counts i → ∃ j,t.g? j=some 0 ∧ HappensBefore t i j
 hears:Deaf t 0=d
 seen:∀ op ∈ t,op.act.low B
section
variable {S:Sets} {B d d':Nat} {t u:Trace}
theorem touch_app {i:Nat} {a:Touch} (h:touchAt (t ++ u) i=some a):(i < t.size ∧ touchAt t i=some a) ∨ ∃ x,(t ++ u)[i]? = some x ∧ x ∈ u ∧ x.act.touch? = some a:=by
 obtain ⟨x,hx,hxa⟩:=touch_of h
 rcases getElem?_append_cases hx with ⟨hi,hx'⟩ | ⟨_,hxu⟩
 · exact .inl ⟨hi,by rw [touchAt_of hx'];exact hxa⟩
 · exact .inr ⟨x,hx,hxu,hxa⟩
theorem PastP.oldKnown (H:PastP S B d t) {i:Nat} {a:Touch} (hi:i < t.size) (ha:touchAt t i=some a) (hm:a.loc.isMemory=true) :
  Knows (t ++ u) 0 i ∨ (S.shun a.loc ∧ a.kind=.atomic) ∨ ∃ g,(t ++ u).g? i=some g ∧ S.mem g ∧ a.kind ≠ .atomic ∧ ((a.write=false ∧ S.still a.loc) ∨ ∃ b,S.mine g b ∧ inBlock b a.loc):=by
 rcases H.known i a ha hm with h | h | ⟨g,h1,h2⟩
 · exact .inl (h.app u)
 · exact .inr (.inl h)
 · exact .inr (.inr ⟨g,by rw [g?_old hi];exact h1,h2⟩)
theorem PastP.oldOver (H:PastP S B d t) {i g:Nat} (hi:i < t.size) (hg:(t ++ u).g? i=some g) (h0:g ≠ 0) (hm:¬ S.mem g) (hc:(t ++ u).counts i):∃ j,(t ++ u).g? j=some 0 ∧ HappensBefore (t ++ u) i j:=by
 obtain ⟨j,hj,hb⟩:=H.over i g (by rw [← g?_old (u:=u) hi];exact hg) h0 hm ((counts_old hi).1 hc)
 have hjl:j < t.size:=by
  unfold Trace.g? at hj
  obtain ⟨z,hz,_⟩:=Option.map_eq_some_iff.1 hj
  exact lt_size_of_getElem? hz
 exact ⟨j,by rw [g?_old hjl];exact hj,hb_app u hb⟩
theorem PastP.newOver {g0:Nat} (H:PastP S B d t) (hu:∀ op ∈ u,op.g=g0) (h:g0=0 ∨ S.mem g0):∀ i g,(t ++ u).g? i=some g → g ≠ 0 → ¬ S.mem g → (t ++ u).counts i → ∃ j,(t ++ u).g? j=some 0 ∧ HappensBefore (t ++ u) i j:=fun i g hg h0 hm hc=>by
 obtain ⟨x,hx,hxa,hxm⟩:=hc
 rcases touch_app hx with ⟨hi,-⟩ | ⟨y,hy,hyu,-⟩
 · exact H.oldOver hi hg h0 hm ⟨x,hx,hxa,hxm⟩
 ·
  rw [g?_of hy,hu y hyu] at hg
  obtain rfl:=Option.some.inj hg
  rcases h with rfl | h
  · exact absurd rfl h0
  · exact absurd h hm
theorem PastP.own0 (H:PastP S B d t) (hS:S.Ok) (hu:∀ op ∈ u,op.g=0)
  (hs:∀ op ∈ u,∀ b,op.act.touch? = some b → (S.still b.loc → b.write=false) ∧ (S.shun b.loc → b.kind ≠ .plain) ∧ ∀ g k,S.mine g k → ¬ inBlock k b.loc)
  (hd:Deaf (t ++ u) 0=d') (hl:∀ op ∈ u,op.act.low B):PastP S B d' (t ++ u):=by
 refine ⟨fun said=>noRace_append (H.clean said) hu fun i a ha op hop b hb hc=>?_,fun i a ha hm=>?_,fun i a ha hw hst g hg=>?_,fun i a g b ha hmi hib=>?_,fun i a ha hsh=>?_,H.newOver hu (.inl rfl),hd,seen_app H.seen hl⟩
 ·
  obtain ⟨h1,h2,h3⟩:=hs op hop b hb
  rcases H.known i a ha hc.2.1 with hk | ⟨hsa,hka⟩ | ⟨g,-,-,-,⟨hw,hst⟩ | ⟨k,hk,hib⟩⟩
  · exact hk
  ·
   have hkb:=h2 (hc.1 ▸ hsa)
   obtain ⟨_,_,_,hcase⟩:=hc
   rw [hka] at hcase
   rcases hcase with x | x | ⟨_,x,_⟩
   · cases x
   · exact absurd x hkb
   · cases x
  ·
   have hb0:=h1 (hc.1 ▸ hst)
   rcases hc.2.2.1 with x | x
   · rw [hw] at x;cases x
   · rw [hb0] at x;cases x
  · exact absurd (hc.1 ▸ hib) (h3 g k hk)
 ·
  rcases touch_app ha with ⟨hi,ha'⟩ | ⟨x,hx,hxu,hxa⟩
  · exact H.oldKnown hi ha' hm
  ·
   have:=knows_own hx
   rw [hu x hxu] at this
   exact .inl this
 ·
  rcases touch_app ha with ⟨hi,ha'⟩ | ⟨x,hx,hxu,hxa⟩
  · exact (H.wrote i a ha' hw hst g hg).app u
  · rw [(hs x hxu a hxa).1 hst] at hw;cases hw
 ·
  rcases touch_app ha with ⟨hi,ha'⟩ | ⟨x,hx,hxu,hxa⟩
  · rw [g?_old hi];exact H.mine i a g b ha' hmi hib
  · exact absurd hib ((hs x hxu a hxa).2.2 g b hmi)
 ·
  rcases touch_app ha with ⟨hi,ha'⟩ | ⟨x,hx,hxu,hxa⟩
  · exact H.shunned i a ha' hsh
  · exact (hs x hxu a hxa).2.1 (hS.wg _ hsh)
theorem PastP.ownW {g:Nat} (H:PastP S B d t) (hS:S.Ok) (hg:S.mem g) (hu:∀ op ∈ u,op.g=g)
  (hs:∀ op ∈ u,∀ b,op.act.touch? = some b → b.kind ≠ .atomic ∧ ((b.write=false ∧ S.still b.loc) ∨ ∃ k,S.mine g k ∧ inBlock k b.loc))
  (hl:∀ op ∈ u,op.act.low B):PastP S B d (t ++ u):=by
 have hg0:g ≠ 0:=fun e=>hS.zero (e ▸ hg)
 refine ⟨fun said=>noRace_append (H.clean said) hu fun i a ha op hop b hb hc=>?_,fun i a ha hm=>?_,fun i a ha hw hst g' hg'=>?_,fun i a g' b ha hmi hib=>?_,fun i a ha hsh=>?_,H.newOver hu (.inr hg),(Deaf_other t hg0 u hu).trans H.hears,seen_app H.seen hl⟩
 ·
  rcases (hs op hop b hb).2 with ⟨hw,hst⟩ | ⟨k,hk,hib⟩
  ·
   rcases hc.2.2.1 with x | x
   · exact H.wrote i a ha x (hc.1 ▸ hst) g hg
   · rw [hw] at x;cases x
  ·
   have:=H.mine i a g k ha hk (hc.1 ▸ hib)
   obtain ⟨x,hx,-⟩:=touch_of ha
   have e:=knows_own hx
   rw [g?_of hx] at this
   rwa [Option.some.inj this] at e
 ·
  rcases touch_app ha with ⟨hi,ha'⟩ | ⟨x,hx,hxu,hxa⟩
  · exact H.oldKnown hi ha' hm
  · exact .inr (.inr ⟨g,by rw [g?_of hx,hu x hxu],hg,hs x hxu a hxa⟩)
 ·
  rcases touch_app ha with ⟨hi,ha'⟩ | ⟨x,hx,hxu,hxa⟩
  · exact (H.wrote i a ha' hw hst g' hg').app u
  ·
   rcases (hs x hxu a hxa).2 with ⟨h1,-⟩ | ⟨k,hk,hib⟩
   · rw [h1] at hw;cases hw
   · exact absurd hst (hS.still g k _ hk hib)
 ·
  rcases touch_app ha with ⟨hi,ha'⟩ | ⟨x,hx,hxu,hxa⟩
  · rw [g?_old hi];exact H.mine i a g' b ha' hmi hib
  ·
   rcases (hs x hxu a hxa).2 with ⟨-,h1⟩ | ⟨k,hk,hik⟩
   · exact absurd h1 (hS.still g' b _ hmi hib)
   ·
    obtain rfl:=inBlock_one hik hib
    rw [g?_of hx,hu x hxu,hS.one g g' _ hk hmi]
 ·
  rcases touch_app ha with ⟨hi,ha'⟩ | ⟨x,hx,hxu,hxa⟩
  · exact H.shunned i a ha' hsh
  ·
   rcases (hs x hxu a hxa).2 with ⟨-,h1⟩ | ⟨k,hk,hik⟩
   · exact absurd (hS.wg _ hsh) (hS.parted _ h1)
   · exact absurd (hS.wg _ hsh) (hS.shun g k _ hk hik)
theorem PastP.mute (H:PastP S B d t) (hn:∀ op ∈ u,op.act.touch? = none) (hd:Deaf (t ++ u) 0=d') (hl:∀ op ∈ u,op.act.low B):PastP S B d' (t ++ u):=by
 have no:∀ {x:MemOp} {a:Touch} {C:Prop},x ∈ u → x.act.touch? = some a → C:=fun hxu hxa=>by rw [hn _ hxu] at hxa;cases hxa
 refine ⟨fun said=>noRace_appendMute (H.clean said) hn,fun i a ha hm=>?_,fun i a ha hw hst g hg=>?_,fun i a g b ha hmi hib=>?_,fun i a ha hsh=>?_,fun i g hg h0 hm hc=>?_,hd,seen_app H.seen hl⟩
 ·
  rcases touch_app ha with ⟨hi,ha'⟩ | ⟨x,hx,hxu,hxa⟩
  · exact H.oldKnown hi ha' hm
  · exact no hxu hxa
 ·
  rcases touch_app ha with ⟨hi,ha'⟩ | ⟨x,hx,hxu,hxa⟩
  · exact (H.wrote i a ha' hw hst g hg).app u
  · exact no hxu hxa
 ·
  rcases touch_app ha with ⟨hi,ha'⟩ | ⟨x,hx,hxu,hxa⟩
  · rw [g?_old hi];exact H.mine i a g b ha' hmi hib
  · exact no hxu hxa
 ·
  rcases touch_app ha with ⟨hi,ha'⟩ | ⟨x,hx,hxu,hxa⟩
  · exact H.shunned i a ha' hsh
  · exact no hxu hxa
 ·
  obtain ⟨x,hx,hxa,hxm⟩:=hc
  rcases touch_app hx with ⟨hi,-⟩ | ⟨y,hy,hyu,hya⟩
  · exact H.oldOver hi hg h0 hm ⟨x,hx,hxa,hxm⟩
  · exact no hyu hya
theorem PastP.atomic {g:Nat} (H:PastP S B d t) (hS:S.Ok) (hg:g=0 ∨ S.mem g) (hu:∀ op ∈ u,op.g=g) (hs:∀ op ∈ u,∀ b,op.act.touch? = some b → S.wg b.loc ∧ b.kind=.atomic) (hd:Deaf (t ++ u) 0=d') (hl:∀ op ∈ u,op.act.low B):PastP S B d' (t ++ u):=by
 refine ⟨fun said=>noRace_append (H.clean said) hu fun i a ha op hop b hb hc=>?_,fun i a ha hm=>?_,fun i a ha hw hst g hg=>?_,fun i a g b ha hmi hib=>?_,fun i a ha hsh=>?_,H.newOver hu hg,hd,seen_app H.seen hl⟩
 ·
  obtain ⟨h1,h2⟩:=hs op hop b hb
  have hp:=H.shunned i a ha (hc.1 ▸ h1)
  obtain ⟨_,_,_,hcase⟩:=hc
  rw [h2] at hcase
  rcases hcase with x | x | ⟨_,_,x⟩
  · exact absurd x hp
  · cases x
  · cases x
 ·
  rcases touch_app ha with ⟨hi,ha'⟩ | ⟨x,hx,hxu,hxa⟩
  · exact H.oldKnown hi ha' hm
  · exact .inr (.inl ⟨hS.wg _ (hs x hxu a hxa).1,(hs x hxu a hxa).2⟩)
 ·
  rcases touch_app ha with ⟨hi,ha'⟩ | ⟨x,hx,hxu,hxa⟩
  · exact (H.wrote i a ha' hw hst g hg).app u
  · exact absurd (hS.wg _ (hs x hxu a hxa).1) (hS.parted _ hst)
 ·
  rcases touch_app ha with ⟨hi,ha'⟩ | ⟨x,hx,hxu,hxa⟩
  · rw [g?_old hi];exact H.mine i a g b ha' hmi hib
  · exact absurd (hS.wg _ (hs x hxu a hxa).1) (hS.shun g b _ hmi hib)
 ·
  rcases touch_app ha with ⟨hi,ha'⟩ | ⟨x,hx,hxu,hxa⟩
  · exact H.shunned i a ha' hsh
  ·
   rw [(hs x hxu a hxa).2]
   exact fun h=>by cases h
def Sets.drop (S:Sets) (g:Nat):Sets:={ S with mine:=fun g' b=>S.mine g' b ∧ g' ≠ g }
theorem PastP.give {g:Nat} (H:PastP S B 0 t) (hd:Deaf t g=0) (fg:FuncId) (pg:String) (f0:FuncId) (p0:String) {c:Nat} (k cap:Nat) (hc:c < B):PastP (S.drop g) B 0 (t ++ met g 0 fg pg f0 p0 c k cap):=by
 have hn:=met_mute g 0 fg pg f0 p0 c k cap
 have hq:=fun x=>met_quiet g 0 fg pg f0 p0 c k cap x
 have hl:∀ op ∈ met g 0 fg pg f0 p0 c k cap,op.act.low B:=fun op hop=>by
  simp only [met,List.mem_toArray,List.mem_cons,List.not_mem_nil,or_false] at hop
  rcases hop with rfl | rfl | rfl | rfl <;> exact hc
 have K:=H.mute hn ((Deaf_quiet (hq 0)).trans H.hears) hl
 have e0:(t ++ met g 0 fg pg f0 p0 c k cap)[t.size]? = some { g:=g,fn:=fg,pos:=pg,act:=.send c k }:=by simp [met]
 have e3:(t ++ met g 0 fg pg f0 p0 c k cap)[t.size+3]? = some { g:=0,fn:=f0,pos:=p0,act:=.recvDone c k }:=by simp [met]
 have edge:HappensBefore (t ++ met g 0 fg pg f0 p0 c k cap) t.size (t.size+3):=
  Relation.TransGen.single (.inr ⟨.handOver (act?_of e0) (act?_of e3),⟨g,g?_of e0,by rw [deaf_old (Nat.le_refl _)];exact hd⟩,⟨0,g?_of e3,by rw [deaf_quiet (hq 0) 3 (by simp [met])];exact H.hears⟩⟩)
 refine ⟨K.clean,fun i a ha hm=>?_,K.wrote,fun i a g' b ha hmi hib=>K.mine i a g' b ha hmi.1 hib,K.shunned,K.over,K.hears,K.seen⟩
 rcases touch_app ha with ⟨hi,ha'⟩ | ⟨x,hx,hxu,hxa⟩
 ·
  obtain ⟨x,hx,-⟩:=touch_of ha'
  rcases H.known i a ha' hm with h | h | ⟨g',h1,h2,hk,h3⟩
  · exact .inl (h.app _)
  · exact .inr (.inl h)
  ·
   by_cases e:g'=g
   ·
    subst e
    have:=knows_own hx
    rw [show x.g=g' from by rw [g?_of hx] at h1;exact Option.some.inj h1] at this
    exact .inl ⟨t.size+3,_,e3,rfl,.inr ((this.hb_new (Nat.le_refl _) e0 rfl).trans edge)⟩
   · exact .inr (.inr ⟨g',by rw [g?_old hi];exact h1,h2,hk,or_map id (fun ⟨b,h4,h5⟩=>⟨b,⟨h4,e⟩,h5⟩) h3⟩)
 · rw [hn x hxu] at hxa;cases hxa
def Sets.more (S:Sets) (c:Nat):Sets:={ S with mem:=fun g=>S.mem g ∨ g=c }
theorem PastP.hire {c:Nat} (H:PastP S B 0 t) (hS:S.Ok) (hc0:Deaf t c=0) (f0:FuncId) (p0:String) (fc:FuncId) :
  PastP (S.more c) B 0 (t ++ #[{ g:=0,fn:=f0,pos:=p0,act:=.go c },{ g:=c,fn:=fc,pos:=p0,act:=.start }]):=by
 generalize hu:(#[{ g:=0,fn:=f0,pos:=p0,act:=.go c },{ g:=c,fn:=fc,pos:=p0,act:=.start }]:Trace)=u
 have hn:∀ op ∈ u,op.act.touch? = none:=by
  intro op hop
  subst hu
  simp only [List.mem_toArray,List.mem_cons,List.not_mem_nil,or_false] at hop
  rcases hop with rfl | rfl <;> rfl
 have hq:∀ g,∀ op ∈ u,∀ d,deafStep g d op=d:=by
  intro g op hop d
  subst hu
  simp only [List.mem_toArray,List.mem_cons,List.not_mem_nil,or_false] at hop
  rcases hop with rfl | rfl <;> rfl
 have hl:∀ op ∈ u,op.act.low B:=by
  intro op hop
  subst hu
  simp only [List.mem_toArray,List.mem_cons,List.not_mem_nil,or_false] at hop
  rcases hop with rfl | rfl <;> trivial
 have e0:(t ++ u)[t.size]? = some { g:=0,fn:=f0,pos:=p0,act:=.go c }:=by subst hu;simp
 have e1:(t ++ u)[t.size+1]? = some { g:=c,fn:=fc,pos:=p0,act:=.start }:=by subst hu;simp
 have edge:HappensBefore (t ++ u) t.size (t.size+1):=
  Relation.TransGen.single (.inr ⟨.spawn (act?_of e0) (act?_of e1) (g?_of e1),⟨0,g?_of e0,by rw [deaf_old (Nat.le_refl _)];exact H.hears⟩,⟨c,g?_of e1,by rw [deaf_quiet (hq c) 1 (by subst hu;simp)];exact hc0⟩⟩)
 have K:=H.mute hn ((Deaf_quiet (hq 0)).trans H.hears) hl
 refine ⟨K.clean,fun i a ha hm=>?_,fun i a ha hw hst g hg=>?_,K.mine,K.shunned,fun i g hg h0 hm hc=>K.over i g hg h0 (fun h=>hm (.inl h)) hc,K.hears,K.seen⟩
 ·
  rcases K.known i a ha hm with h | h | ⟨g,h1,h2,h3⟩
  · exact .inl h
  · exact .inr (.inl h)
  · exact .inr (.inr ⟨g,h1,.inl h2,h3⟩)
 ·
  rcases hg with hg | rfl
  · exact K.wrote i a ha hw hst g hg
  ·
   rcases touch_app ha with ⟨hi,ha'⟩ | ⟨x,hx,hxu,hxa⟩
   ·
    have h0:Knows t 0 i:=by
     rcases H.known i a ha' (hS.memory _ hst) with h | ⟨h,-⟩ | ⟨g',-,-,-,⟨h,-⟩ | ⟨b,h4,h5⟩⟩
     · exact h
     · exact absurd h (hS.parted _ hst)
     · rw [h] at hw;cases hw
     · exact absurd hst (hS.still g' b _ h4 h5)
    exact ⟨t.size+1,_,e1,rfl,.inr ((h0.hb_new (Nat.le_refl _) e0 rfl).trans edge)⟩
   · rw [hn x hxu] at hxa;cases hxa
def Sets.own (S:Sets) (g:Nat) (N:Nat → Prop):Sets:={ S with mine:=fun g' b=>S.mine g' b ∨ (g'=g ∧ N b) }
theorem PastP.fresh {g:Nat} {N:Nat → Prop} (H:PastP S B d t) (hN:∀ b,N b → B ≤ b):PastP (S.own g N) B d t:=by
 refine ⟨H.clean,fun i a ha hm=>?_,H.wrote,fun i a g' b ha hmi hib=>?_,H.shunned,H.over,H.hears,H.seen⟩
 ·
  rcases H.known i a ha hm with h | h | ⟨g',h1,h2,hk,h3⟩
  · exact .inl h
  · exact .inr (.inl h)
  · exact .inr (.inr ⟨g',h1,h2,hk,or_map id (fun ⟨b,h4,h5⟩=>⟨b,.inl h4,h5⟩) h3⟩)
 ·
  rcases hmi with hmi | ⟨-,hnb⟩
  · exact H.mine i a g' b ha hmi hib
  ·
   obtain ⟨x,hx,hxa⟩:=touch_of ha
   have hlow:=H.seen x (Array.mem_of_getElem? hx)
   have:a.loc.low B:=by
    cases hact:x.act <;> rw [hact] at hxa hlow <;> first | (cases hxa;done) | skip
    case access e=>cases hxa;exact hlow
    case mark m=>cases m <;> first | (cases hxa;done) | (cases hxa;exact hlow)
   have:=inBlock_low hib this
   have:=hN b hnb
   omega
theorem PastP.mono {B':Nat} (H:PastP S B d t) (h:B ≤ B'):PastP S B' d t:=⟨H.clean,H.known,H.wrote,H.mine,H.shunned,H.over,H.hears,fun op hop=>MemAct.low_mono h (H.seen op hop)⟩
theorem touch_low {i:Nat} {a:Touch} (h:∀ op ∈ t,op.act.low B) (ha:touchAt t i=some a):a.loc.low B:=by
 obtain ⟨x,hx,hxa⟩:=touch_of ha
 have hlow:=h x (Array.mem_of_getElem? hx)
 cases hact:x.act <;> rw [hact] at hxa hlow <;> first | (cases hxa;done) | skip
 case access e=>cases hxa;exact hlow
 case mark m=>cases m <;> first | (cases hxa;done) | (cases hxa;exact hlow)
theorem PastP.ofPast {Shun:Loc → Prop} (H:Past Shun B t) (h1:∀ l,Shun l → S.shun l) (h2:∀ g b,¬ S.mine g b) (h3:∀ g,¬ S.mem g) (h4:∀ l,S.wg l → ¬ l.low B):PastP S B 0 t:=
 ⟨H.clean,fun i a ha hm=>or_map id (fun h=>.inl ⟨h1 _ h.1,h.2⟩) (H.known i a ha hm),fun _ _ _ _ _ g hg=>absurd hg (h3 g),fun _ _ g b _ hm _=>absurd hm (h2 g b),fun _ _ ha hw=>absurd (touch_low H.seen ha) (h4 _ hw),
  fun i g hg h0 _ hc=>H.over i g hg h0 hc,H.hears,H.seen⟩
open Go.ConcN in
theorem PastP.join {a:Addr} (H:PastP S B 0 t) (hr:∀ g,S.mem g → ∃ r,RelBy a t g r) (hn:NoRelease a t) (fn:FuncId) (pos:String) (ha:a.block < B) :
  Past S.shun B (t ++ #[{ g:=0,fn,pos,act:=.mark (.acquire a) }]):=by
 generalize hu:(#[{ g:=0,fn,pos,act:=.mark (.acquire a) }]:Trace)=u
 have hmute:∀ op ∈ u,op.act.touch? = none:=by
  intro op hop
  subst hu
  simp only [List.mem_toArray,List.mem_cons,List.not_mem_nil,or_false] at hop
  subst hop;rfl
 have hq:∀ g,∀ op ∈ u,∀ d,deafStep g d op=d:=by
  intro g op hop d
  subst hu
  simp only [List.mem_toArray,List.mem_cons,List.not_mem_nil,or_false] at hop
  subst hop;rfl
 have hl:∀ op ∈ u,op.act.low B:=by
  intro op hop
  subst hu
  simp only [List.mem_toArray,List.mem_cons,List.not_mem_nil,or_false] at hop
  subst hop;exact ha
 have K:=H.mute hmute ((Deaf_quiet (hq 0)).trans H.hears) hl
 have e0:(t ++ u)[t.size]? = some { g:=0,fn,pos,act:=.mark (.acquire a) }:=by subst hu;simp
 have edge:∀ g r,RelBy a t g r → HappensBefore (t ++ u) r t.size:=fun g r h=>by
  have hlt:=lt_of_act? h.act
  refine Relation.TransGen.single (.inr ⟨.marked hlt (.inr (by rw [act?_old hlt];exact h.act)) (act?_of e0) fun k h1 h2=>?_,(heard_old hlt).2 h.heard,⟨0,g?_of e0,by rw [deaf_old (Nat.le_refl _)];exact H.hears⟩⟩)
  rw [act?_old h2]
  exact hn k
 have byWorker:∀ i g,t.g? i=some g → S.mem g → t.counts i → HappensBefore (t ++ u) i t.size:=fun i g hg hm hc=>by
  obtain ⟨r,h⟩:=hr g hm
  obtain ⟨x,hx,hxg⟩:=Option.map_eq_some_iff.1 (show (t[i]?).map (·.g)=some g from hg)
  obtain ⟨y,hy,hya⟩:=Option.map_eq_some_iff.1 (show (t[r]?).map (·.act)=_ from h.act)
  have hyg:y.g=g:=by have:=h.g;rw [g?_of hy] at this;exact Option.some.inj this
  rcases Nat.lt_trichotomy i r with hlt | rfl | hgt
  · refine (hb_app u (hb_po hlt hx hy (hxg.trans hyg.symm))).trans (edge g r h)
  ·
   obtain ⟨b,hb,-⟩:=hc
   rw [hx] at hy
   cases hy
   rw [show (t.act? i)=some x.act from act?_of hx,hya] at hb
   cases hb
  · exact absurd hc (h.after i hgt hg)
 have known:∀ i b,touchAt (t ++ u) i=some b → b.loc.isMemory=true → Knows (t ++ u) 0 i ∨ (S.shun b.loc ∧ b.kind=.atomic):=fun i b hb hm=>by
  rcases touch_app hb with ⟨hi,hb'⟩ | ⟨x,hx,hxu,hxa⟩
  ·
   rcases H.known i b hb' hm with h | h | ⟨g,h1,h2,h3,-⟩
   · exact .inl (h.app u)
   · exact .inr h
   · exact .inl ⟨t.size,_,e0,rfl,.inr (byWorker i g h1 h2 ⟨b,hb',hm,.inl h3⟩)⟩
  · rw [hmute x hxu] at hxa;cases hxa
 refine ⟨K.clean,known,fun i g hg h0 hc=>?_,K.hears,K.seen⟩
 by_cases hm:S.mem g
 ·
  obtain ⟨b,hb,hbm,hbk⟩:=hc
  rcases touch_app hb with ⟨hi,hb'⟩ | ⟨x,hx,hxu,hxa⟩
  · exact ⟨t.size,g?_of e0,byWorker i g (by rw [← g?_old (u:=u) hi];exact hg) hm ((counts_old hi).1 ⟨b,hb,hbm,hbk⟩)⟩
  · rw [hmute x hxu] at hxa;cases hxa
 · exact K.over i g hg h0 hm hc
end
end Go.Proofs.YtbokomeejmnnoaaDoor

namespace Go.Proofs.YtbokomeejmnnoaaDoor
section
variable {α:Type} {r:α → α → Prop}
def OneDown (r:α → α → Prop) (k:Nat) (f' f:Nat → α):Prop:=∃ i,i < k ∧ r (f' i) (f i) ∧ ∀ j,j ≠ i → f' j=f j
theorem wf_one (wf:WellFounded r):∀ k,WellFounded (OneDown r k)
 | 0=>⟨fun f=>⟨f,fun f' ⟨i,hi,_⟩=>absurd hi (Nat.not_lt_zero _)⟩⟩
 | k+1=>by
  refine Subrelation.wf (r:=InvImage (Prod.Lex r (OneDown r k)) fun f:Nat → α=>(f k,f)) ?_ (InvImage.wf _ (Prod.lex ⟨r,wf⟩ ⟨OneDown r k,wf_one wf k⟩).wf)
  rintro f' f ⟨i,hi,h1,h2⟩
  show Prod.Lex r (OneDown r k) (f' k,f') (f k,f)
  by_cases e:i=k
  ·
   subst e
   exact Prod.Lex.left _ _ h1
  ·
   rw [h2 k fun h=>e h.symm]
   exact Prod.Lex.right _ ⟨i,by omega,h1,h2⟩
def LowerW (r:α → α → Prop) (k:Nat) (x' x:Nat × (Nat → α)):Prop:=x'.1 < x.1 ∨ (x'.1=x.1 ∧ OneDown r k x'.2 x.2)
theorem wf_lower (wf:WellFounded r) (k:Nat):WellFounded (LowerW r k):=by
 refine Subrelation.wf (r:=Prod.Lex (· < ·) (OneDown r k)) ?_ (Prod.lex Nat.lt_wfRel ⟨OneDown r k,wf_one wf k⟩).wf
 rintro ⟨a',f'⟩ ⟨a,f⟩ (h | ⟨h,h'⟩)
 · exact Prod.Lex.left _ _ h
 ·
  dsimp only at h h'
  subst h
  exact Prod.Lex.right _ h'
end
abbrev GoodSt (P:Program):={ x:LnSt // Acc (fun y x=>LStep P x y) x }
theorem wf_good (P:Program):WellFounded fun y x:GoodSt P=>LStep P x.1 y.1:=by
 refine ⟨fun ⟨x,hx⟩=>?_⟩
 induction hx with
 | intro x h ih=>exact ⟨_,fun ⟨y,hy⟩ hl=>ih y hl⟩
end Go.Proofs.YtbokomeejmnnoaaDoor
