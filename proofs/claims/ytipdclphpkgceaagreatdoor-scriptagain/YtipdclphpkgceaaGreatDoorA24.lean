/- Own facts, put together: no statement of its own. -/
import Derived.Test.YtipdclphpkgceaaGreatDoorA23
import Derived.Deep.AppendLies
import Derived.Deep.LoopGhost
import Derived.Test.YtipdclphpkgceaaGreatDoorA12
import Derived.Test.YtipdclphpkgceaaGreatDoorA22
import Derived.Deep.RegionLaw
import Derived.Test.YtipdclphpkgceaaGreatDoorA04
import Derived.BigRegion
import Derived.Test.YtipdclphpkgceaaGreatDoorA05
set_option maxHeartbeats 4000000
set_option maxRecDepth 100000

namespace Go.Proofs.YtipdclphpkgceaaGreatDoor
open Go.RowKit
theorem Za (B:Nat) (W0:World) (g gm:Nat) (mv:Value) (D:Nat → Prop) (q:List Nat) (w:World) (h:Bv B W0 g gm mv w D q) :
  Calls Tryz.prog 203 #[.pointer (some ⟨g,0,none⟩)] w fun e w'=>e=.returned (.int .i64 (q.length:Int)) ∧ w'=w:=by
 obtain ⟨v,h1,h2,h3,h4,h5⟩:=h.row
 rw [← AA] at h2
 obtain ⟨ao,cap,rfl,hlc,hcm⟩:=NK h2
 rw [AA] at h1 hlc
 have c0:=cell_of_one h1
 unfold maxLen at hcm
 clear h1 h2 h3 h4 h5 h
 go_enter Tryz.func203,Tryz.ntmps203
 go_wp2
 go_ret
 exact ⟨rfl,rfl⟩
theorem YM (B:Nat) (W0:World) (g gm f:Nat) (x1 x2:Value) (key:Nat → Int) (n:Nat) (D:Nat → Prop) (q:List Nat) (w:World) (h:Bv B W0 g gm (.func (.func f) #[] #[x1,x2]) w D q) (hn:q.length ≤ 1000) (h0:0 < q.length) (hq:∀ k,k ∈ q → k < n)
  (hf:∀ args W,Sem.run Tryz.prog (callFunc f args) W=.ok (.enter f args) W)
  (hM:∀ W k,Below B W0 W → k < n → Calls Tryz.prog f #[.int .i64 ((k:Nat):Int),x1,x2] W fun e w'=>e=.returned (.int .i64 (key k)) ∧ ∃ m,w'=W.drewN m) :
  Calls Tryz.prog 201 #[.pointer (some ⟨g,0,none⟩),.pointer (some ⟨gm,0,none⟩)] w fun e w'=>e=.returned (.int .i64 (q.getD (Ba key q) 0:Nat)) ∧ Az (Bv B W0 g gm (.func (.func f) #[] #[x1,x2])) w w' D (q.eraseIdx (Ba key q)):=by
 have HH:Hid (Bv B W0 g gm (.func (.func f) #[] #[x1,x2]) w D q):=h
 obtain ⟨v,h1,h2,h3,h4,h5⟩:=h.row
 rw [← AA] at h2
 obtain ⟨r,cap,rfl,hlc,hcm,hcell⟩:=M8 h2 (by rw [AA];exact h0)
 have H2:Hid (w.ownsRow B 3 1 (.slice (some ⟨r,0,none⟩) (Am q).length cap) (Am q).length (ints (Am q)) ∧ cap ≤ maxLen ∧ (Am q).length ≤ cap):=⟨h2,hcm,hlc⟩
 rw [AA] at h1 hlc
 have c0:=cell_of_one h1
 have cm:=cell_of_one h.mea
 have H1:Hid (w.heap[g]? = some (.cells #[.slice (some ⟨r,0,none⟩) q.length cap] 32 (0,0)) ∧ r ≠ g):=⟨h1,fun e=>h3 (by rw [e];rfl)⟩
 have HC:Hid (∀ i,i < q.length → ∃ k,q[i]? = some k ∧ q.getD i 0=k ∧ k < n ∧ w.cell? ⟨r,i,none⟩=some (.int .i64 ((k:Nat):Int))):=fun i hi=>by
  obtain ⟨k,hk,hmem⟩:=Ai q i hi
  exact ⟨k,hk,by simp [List.getD,hk],hq k hmem,hcell i _ (JL hk)⟩
 have h2':w.ownsRow B 3 1 (.slice (some ⟨r,0,none⟩) q.length cap) q.length (ints (Am q)):=by rw [AA] at h2;exact h2
 have ht:=TD B f x1 x2 key n r cap q w hn h0 hq h2' hlc hcm hf (fun m' k hk=>hM _ k (below_drewN h.env _) hk)
 unfold EW at ht
 have hpl:=FV key h0
 have HLen:Hid ((q.eraseIdx (Ba key q)).length=q.length - 1):=by
  show _=_
  rw [List.length_eraseIdx,if_pos hpl]
 obtain ⟨x,hx⟩:∃ x,q.getD (Ba key q) 0=x:=⟨_,rfl⟩
 obtain ⟨l,hl⟩:∃ l,q.length=l:=⟨_,rfl⟩
 obtain ⟨pk,hpk⟩:∃ pk,Ba key q=pk:=⟨_,rfl⟩
 rw [hx]
 rw [hx,hl,hpk] at ht
 rw [hpk]
 rw [hpk] at HLen
 have HT:Hid (Calls Tryz.prog 202 #[.slice (some ⟨r,0,none⟩) l cap,.func (.func f) #[] #[x1,x2]] w fun e w'=>e=.returned (.tuple #[.int .i64 (x:Nat),.slice (some ⟨r,0,none⟩) (l - 1) cap]) ∧ w'.ownsRow B 3 1 (.slice (some ⟨r,0,none⟩) (l - 1) cap) (l - 1) (ints (Am (q.eraseIdx pk))) ∧ But (fun j=>j=r) w w'):=ht
 have HL:Hid (q.length=l):=hl
 rw [hl] at c0 hn h0 hlc
 clear h1 h2 h3 h4 h5 h hq hM hcell h2' ht hpl hx hl hpk
 go_enter Tryz.func201,Tryz.ntmps201
 go_wp2_with fail
 refine HT.out.mono ?_
 rintro e w2 ⟨rfl,hown2,hbut2⟩
 have hg2:w2.heap[g]? = some (.cells #[.slice (some ⟨r,0,none⟩) l cap] 32 (0,0)):=by
  have:=H1.out.1
  rw [HL.out] at this
  exact (hbut2.block g (lt_of_block this) (fun e=>H1.out.2 e.symm)).trans this
 have c2:=cell_of_one hg2
 have f2:=free_of_one hg2
 have HO:Hid (w2.ownsRow B 3 1 (.slice (some ⟨r,0,none⟩) (l - 1) cap) (l - 1) (ints (Am (q.eraseIdx pk))) ∧ But (fun j=>j=r) w w2):=⟨hown2,hbut2⟩
 clear hown2 hbut2 hg2
 go_wp2_with fail
 go_ret
 refine ⟨rfl,HH.out.stored (v:=.slice (some ⟨r,0,none⟩) q.length cap) H1.out.1 (Below.refl _ _) (HO.out.2.mono fun j hj=>by rw [hj];rfl) ?_ (fun j hj=>.inl hj)⟩
 rw [HLen.out,HL.out]
 exact HO.out.1
def EK (g gm:Nat):Value:=.agg #[.func (.func 200) #[] #[.pointer (some ⟨g,0,none⟩)],.func (.func 201) #[] #[.pointer (some ⟨g,0,none⟩),.pointer (some ⟨gm,0,none⟩)],.func (.func 203) #[] #[.pointer (some ⟨g,0,none⟩)]]
theorem QK (B:Nat) (W0:World) (g gm:Nat) (mv:Value) (D:Nat → Prop) (q:List Nat) (w:World) (h:Bv B W0 g gm mv w D q) :
  Calls Tryz.prog 286 #[EK g gm] w fun e w'=>e=.returned (.int .i64 (q.length:Int)) ∧ Az (Bv B W0 g gm mv) w w' D q:=by
 have HH:Hid (Bv B W0 g gm mv w D q):=h
 clear h
 unfold EK
 go_enter Tryz.func286,Tryz.ntmps286
 go_wp2_with fail
 refine (Za B W0 g gm mv D q _ (HH.out.alloc _)).mono ?_
 rintro e w1 ⟨rfl,rfl⟩
 go_wp2_with fail
 go_ret
 exact ⟨rfl,HH.out.same ((Below.refl _ _).alloc (Nat.le_refl _) _)⟩
theorem Qi (B:Nat) (W0:World) (g gm f:Nat) (x1 x2:Value) (key:Nat → Int) (n:Nat) (D:Nat → Prop) (q:List Nat) (w:World) (h:Bv B W0 g gm (.func (.func f) #[] #[x1,x2]) w D q) (hn:q.length ≤ 1000) (h0:0 < q.length) (hq:∀ k,k ∈ q → k < n)
  (hf:∀ args W,Sem.run Tryz.prog (callFunc f args) W=.ok (.enter f args) W)
  (hM:∀ W k,Below B W0 W → k < n → Calls Tryz.prog f #[.int .i64 ((k:Nat):Int),x1,x2] W fun e w'=>e=.returned (.int .i64 (key k)) ∧ ∃ m,w'=W.drewN m) :
  Calls Tryz.prog 285 #[EK g gm] w fun e w'=>e=.returned (.int .i64 (q.getD (Ba key q) 0:Nat)) ∧ Az (Bv B W0 g gm (.func (.func f) #[] #[x1,x2])) w w' D (q.eraseIdx (Ba key q)):=by
 have HP:Hid (∀ w',Bv B W0 g gm (.func (.func f) #[] #[x1,x2]) w' D q → Calls Tryz.prog 201 #[.pointer (some ⟨g,0,none⟩),.pointer (some ⟨gm,0,none⟩)] w' fun e w''=>e=.returned (.int .i64 (q.getD (Ba key q) 0:Nat)) ∧ Az (Bv B W0 g gm (.func (.func f) #[] #[x1,x2])) w' w'' D (q.eraseIdx (Ba key q))):=fun w' h'=>YM B W0 g gm f x1 x2 key n D q w' h' hn h0 hq hf hM
 have HH:Hid (Bv B W0 g gm (.func (.func f) #[] #[x1,x2]) w D q):=h
 clear h hq hf hM
 unfold EK
 go_enter Tryz.func285,Tryz.ntmps285
 go_wp2_with fail
 refine (HP.out _ (HH.out.alloc _)).mono ?_
 rintro e w1 ⟨rfl,ho⟩
 have HO:Hid (Az (Bv B W0 g gm (.func (.func f) #[] #[x1,x2])) w w1 D (q.eraseIdx (Ba key q))):=ho.after ((Below.refl _ _).alloc (Nat.le_refl _) _)
 clear ho
 go_wp2_with fail
 go_ret
 exact ⟨rfl,HO.out⟩
theorem PY (B:Nat) (W0:World) (g gm:Nat) (mv:Value) (D:Nat → Prop) (q:List Nat) (k:Nat) (w:World) (h:Bv B W0 g gm mv w D q) (hn:q.length ≤ 1000) :
  Calls Tryz.prog 284 #[EK g gm,.int .i64 (k:Int)] w fun e w'=>e=.returned (.tuple #[]) ∧ Az (Bv B W0 g gm mv) w w' D (q ++ [k]):=by
 have HH:Hid (Bv B W0 g gm mv w D q):=h
 clear h
 unfold EK
 go_enter Tryz.func284,Tryz.ntmps284
 go_wp2_with fail
 refine (YT B W0 g gm mv D q k _ (HH.out.alloc _) hn).mono ?_
 rintro e w1 ⟨rfl,ho⟩
 have HO:Hid (Az (Bv B W0 g gm mv) w w1 D (q ++ [k])):=ho.after ((Below.refl _ _).alloc (Nat.le_refl _) _)
 clear ho
 go_wp2_with fail
 go_end0
 exact ⟨rfl,HO.out⟩
theorem IK (mv:Value) (f:Nat) (x1 x2:Value) (hmv:mv=.func (.func f) #[] #[x1,x2]) (w:World) :
  Calls Tryz.prog 173 #[mv] w fun e w'=>e=.returned (.iface 266 (EK (w.heap.size+1) w.heap.size)) ∧ Bv w.heap.size w (w.heap.size+1) w.heap.size mv w' (fun k=>k=w.heap.size+1 ∨ k=w.heap.size) [] ∧ Below w.heap.size w w':=by
 subst hmv
 unfold EK
 go_enter Tryz.func173,Tryz.ntmps173
 go_wp2_with fail
 go_ret
 have hb1:Below w.heap.size w (w.alloc (.cells #[.func (.func f) #[] #[x1,x2]] 171)):=(Below.refl _ _).alloc (Nat.le_refl _) _
 have hb:Below w.heap.size w ((w.alloc (.cells #[.func (.func f) #[] #[x1,x2]] 171)).alloc (.cells #[.slice none 0 0] 32)):=hb1.alloc hb1.size _
 have hs:(w.alloc (.cells #[.func (.func f) #[] #[x1,x2]] 171)).heap.size=w.heap.size+1:=by simp
 refine ⟨by simp,⟨hb,⟨.slice none 0 0,?_,World.ownsRow_nil _ _ _ _,(fun e=>by cases e),(fun e=>by cases e),fun k=>by simp [Value.ownBlock]⟩,?_,by omega,by omega,Nat.le_refl _⟩,hb⟩
 ·
  have:=heap_alloc_new (w.alloc (.cells #[.func (.func f) #[] #[x1,x2]] 171)) (.cells #[.slice none 0 0] 32)
  rwa [hs] at this
 ·
  rw [Below.heap_alloc _ _ _ (by rw [hs];omega)]
  exact heap_alloc_new w _
theorem Bc.cells {w:World} {B:Nat} {v:Value} {F:Nat → Prop} {xs:List Nat} (h:Bc w B v F xs):∃ ao cap,v=.slice ao xs.length cap ∧ xs.length ≤ cap ∧ cap ≤ maxLen ∧ (ao=none → xs=[] ∧ cap=0) ∧ AV w ao (Am xs) ∧ ∀ ad,ao=some ad → ∀ (j k:Nat),xs[j]? = some k → w.cell? ⟨ad.block,ad.off+j,none⟩=some (.int .i64 (k:Int)):=by
 obtain ⟨ao,b,off,cap,rfl,hc,hm,hB⟩:=h.made
 have hle:=hc.le
 have key:∀ (j k:Nat),xs[j]? = some k → ao=some ⟨b,off,none⟩ ∧ w.cell? ⟨b,off+j,none⟩=some (.int .i64 (k:Int)):=fun j k hj=>by
  have hl:=(List.getElem?_eq_some_iff.1 hj).1
  refine ⟨hc.addr (by omega),hc.olds j _ ?_⟩
  simp [nums,hj]
 refine ⟨ao,cap,rfl,hle,hm,fun e=>?_,?_,fun ad had j k hj=>?_⟩
 ·
  have h0:cap=0:=by
   rcases Nat.eq_zero_or_pos cap with h0 | h0
   · exact h0
   · rw [hc.addr h0] at e;cases e
  exact ⟨List.length_eq_zero_iff.1 (by omega),h0⟩
 ·
  cases xs with
  | nil=>exact .inl rfl
  | cons k r=>
   refine .inr ⟨b,off,(key 0 k rfl).1,hc.lt (by simp at hle;omega),fun i x hx=>?_⟩
   simp only [Am,List.getElem?_map] at hx
   cases hi:(k :: r)[i]? with
   | none=>rw [hi] at hx;cases hx
   | some z=>
    rw [hi] at hx
    have e:(z:Int)=x:=by simpa using hx
    rw [← e]
    exact (key i z hi).2
 ·
  obtain ⟨e1,e2⟩:=key j k hj
  rw [e1] at had
  cases had
  exact e2
theorem Xf (B:Nat) (W0:World) (g:Nat) (pv qv:Value) (D:Nat → Prop) (q:TQ) (w:World) (h:Bz B W0 g pv qv w D q) :
  Calls Tryz.prog 206 #[.pointer (some ⟨g,0,none⟩)] w fun e w'=>e=.returned (.int .i64 (q.n:Int)) ∧ w'=w:=by
 obtain ⟨vq,F,rv,h1,h2⟩:=h.parts
 have c20:=h1.cells.cn
 clear h1 h2 h
 go_enter Tryz.func206,Tryz.ntmps206
 go_wp2
 go_ret
 exact ⟨rfl,rfl⟩
theorem Sa (B g:Nat) (pa:Option Addr) (pcap:Nat) (qv:Value) (ps:List Pk) (vq:Nat → Value) (F:Nat → Nat → Prop) (rv:Value) (d:Drr) (n:Nat) (w:World) (h:Ao B g (.slice pa ps.length pcap) qv w vq F rv d n) (hl:AO w pa ps) (hlen:ps.length ≤ 300) (f k:Nat) (r:List Nat) (p:Pk) (hs:d.srv=some f) (hf:f < 8) (hk:d.qs f=k :: r) (hp:ps[k]? = some p) (b:Bool) (hb:decide (p.size ≤ d.cr f)=b) :
  Calls Tryz.prog 223 #[.pointer (some ⟨g,0,none⟩)] w fun e w'=>e=.returned (.bool b) ∧ ∃ m,w'=w.drewN m:=by
 have hkl:=Ad hp
 obtain ⟨pb,off,rfl,hlt,hc⟩:=hl.place (by omega)
 have cp:=(hc k p hp).2.1
 have hsl:=h.queue f hf
 rw [hk] at hsl
 obtain ⟨qb,qo,cap,hv,hcap,hmx,ck,-,-,-⟩:=hsl.first
 have c0:=h.cells.c0
 have cs:=h.cells.cs
 have cq:=h.cells.cq f hf
 have cc:=h.cells.cc f hf
 rw [hv] at cq
 rw [hs] at cs
 have cs':w.cell? ⟨g,19,none⟩=some (.int .i64 (f:Int)):=cs
 obtain ⟨x,hx⟩:∃ x,d.cr f=x:=⟨_,rfl⟩
 obtain ⟨y,hy⟩:∃ y,p.size=y:=⟨_,rfl⟩
 rw [hx] at cc hb
 rw [hy] at cp hb
 obtain ⟨m,hm⟩:∃ m,r.length+1=m:=⟨_,rfl⟩
 rw [hm] at cq hcap
 have hm0:0 < m:=by omega
 have hml:m ≤ maxLen:=Nat.le_trans hcap hmx
 unfold maxLen at hmx hml
 have hmm:decide ((m:Int) ≤ 0)=false:=by simp;omega
 clear h hl hc hsl hv hs cs hk hp hx hy hm
 go_enter Tryz.func223,Tryz.ntmps223
 go_wp2_with fail
 go_quiet (fail)
 obtain ⟨V,hV⟩:∃ V,w.drewN nq=V:=⟨_,rfl⟩
 have HV:Hid (w.drewN nq=V):=hV
 have d0:V.cell? ⟨g,0,none⟩=some (.slice (some ⟨pb,off,none⟩) ps.length pcap):=by rw [← hV];exact c0
 have ds:V.cell? ⟨g,19,none⟩=some (.int .i64 (f:Int)):=by rw [← hV];exact cs'
 have dc:V.cell? ⟨g,10+f,none⟩=some (.int .i64 x):=by rw [← hV];exact cc
 have dp:V.cell? ⟨pb,off+k * 3+1,none⟩=some (.int .i64 y):=by rw [← hV];exact cp
 rw [hV]
 clear hV c0 cs' cc cp cq ck
 go_wp2_with fail
 go_quiet (fail)
 go_wp2_with fail
 go_ret
 exact ⟨rfl,_,by rw [← HV.out,World.drewN_drewN]⟩
theorem Gr {P:Program} {w:World} {ops:Array Oper} {o:Oper} {a:Act} {K:Act → World → Prop} {Q:Exit → Act → World → Prop} {E:Prop} (hgd:o.guard=none) (s x:Operand) (t:TypeId)
  (ho:o.op=.call { callee:=.builtin .append,args:=#[s,x],argTypes:=#[t,t] })
  (e:TypeId) (i:TypeInfo) (z:Value) (bytes:Nat) (ht:P.underlying t=some (.slice e)) (hi:P.info? e=some i) (hz:i.zero=some z) (hsize:i.size=1) (hby:i.bytes=bytes) (hzs:z.cells.size=1)
  (B:Nat) (v:Value) (F:Nat → Prop) (k:Nat) (xs:List Nat) (hs:a.eval s=v) (h:Bc w B v F xs) (hBw:B ≤ w.heap.size) (ad:Addr) (c:Nat) (hx:a.eval x=.slice (some ad) 1 c) (hk:w.cell? ad=some (.int .i64 (k:Int))) (h63:xs.length+1 ≤ maxLen) (hbytes:(xs.length+1) * bytes ≤ 140737488355328)
  (hK:∀ ao cap w',Ke w w' B F ao (xs.length+1) cap (xs ++ [k]) → K (a.put o.dst (.slice ao (xs.length+1) cap)) w') :
  if Region.wanted o (yielded ops a.tmps)=true then Oper.wp P o a w K Q else E:=by
 have hw:Region.wanted o (yielded ops a.tmps)=true:=by simp [Region.wanted,hgd]
 rw [if_pos hw]
 obtain ⟨ao,cap,w',hrun,g1⟩:=GV (P:=P) w t o.type e i z bytes ht hi hz hsize hby hzs B v F k xs h hBw ad c hk h63 hbytes
 unfold Oper.wp
 simp [execOp,ho,resolve,invoke,builtin,hs,hx,hrun,Result.andThen]
 exact hK ao cap w' g1
theorem GM {g f N k:Nat} {F:Nat → Nat → Prop} {F':Nat → Prop} {rv:Value} (hf:f < 8) (h:∀ k,F' k → F f k ∨ N ≤ k) (hk:AC g (Au F f F') rv k):AC g F rv k ∨ N ≤ k:=by
 rcases hk with rfl | ⟨j,hj,hk⟩ | hk
 · exact .inl (.inl rfl)
 ·
  by_cases e:j=f
  ·
   subst e
   rw [Aq] at hk
   rcases h k hk with h' | h'
   · exact .inl (.inr (.inl ⟨j,hj,h'⟩))
   · exact .inr h'
  ·
   rw [Al _ _ e] at hk
   exact .inl (.inr (.inl ⟨j,hj,hk⟩))
 · exact .inl (.inr (.inr hk))
theorem Jq {g N k:Nat} {F:Nat → Nat → Prop} {rv v':Value} (h:∀ k,v'.ownBlock=some k → rv.ownBlock=some k ∨ N ≤ k) (hk:AC g F v' k):AC g F rv k ∨ N ≤ k:=by
 rcases hk with rfl | hk | hk
 · exact .inl (.inl rfl)
 · exact .inl (.inr (.inl hk))
 ·
  rcases h k hk with h' | h'
  · exact .inl (.inr (.inr h'))
  · exact .inr h'
theorem Zq {ps:List Pk} {ns:List Int} {M:Int} {q:TQ} (h:II ps ns M q):q.d.row.length ≤ 8:=by
 have h8:∀ f,f ∈ q.d.line → f < 8:=fun f hf=>by
  rcases Nat.lt_or_ge f 8 with h' | h'
  · exact h'
  · exact absurd (h.few f h') ((h.state.active f).1 hf)
 have h1:=Vm (fun _=>1) 1 8 q.d.line h.state.nodup h8 (fun _=>Nat.le_refl _)
 have h2:(q.d.line.map fun _=>1).sum=q.d.line.length:=by
  generalize q.d.line=l
  induction l with
  | nil=>rfl
  | cons a r ih=>simp only [List.map_cons,List.sum_cons,List.length_cons,ih];omega
 have h3:q.d.row.length ≤ q.d.line.length:=by
  unfold Drr.line
  cases q.d.srv <;> simp
 omega
structure Bl (B g:Nat) (pv qv:Value) (w w':World) (F:Nat → Nat → Prop) (rv:Value) (d:Drr) (n:Nat):Prop where
 at_:∃ vq' F' rv',Ao B g pv qv w' vq' F' rv' d n ∧ ∀ k,AC g F' rv' k → AC g F rv k ∨ w.heap.size ≤ k
 but:But (AC g F rv) w w'
theorem Bl.left {B:Nat} {W0:World} {g:Nat} {pv qv:Value} {w w':World} {D:Nat → Prop} {q q':TQ} {F:Nat → Nat → Prop} {rv:Value} (h:Bz B W0 g pv qv w D q) (hD:∀ k,D k ↔ AC g F rv k) (he:Bl B g pv qv w w' F rv q'.d q'.n):Az (Bz B W0 g pv qv) w w' D q':=by
 obtain ⟨vq',F',rv',h1,h2⟩:=he.at_
 exact h.leaves hD (he.but.mono fun k hk=>(hD k).2 hk) h1 h2
theorem MX (B g:Nat) (pa:Option Addr) (pcap:Nat) (qv:Value) (ps:List Pk) (vq:Nat → Value) (F:Nat → Nat → Prop) (rv:Value) (d:Drr) (n:Nat) (w:World) (h:Ao B g (.slice pa ps.length pcap) qv w vq F rv d n) (hl:AO w pa ps) (hlen:ps.length ≤ 300) (k f:Nat) (p:Pk) (hp:ps[k]? = some p) (hpf:p.flow=(f:Int)) (hf:f < 8) (hq:d.qs f ≠ []) (hq3:(d.qs f).length ≤ 300) (hn:n ≤ 1000) (hB:B ≤ w.heap.size) :
  Calls Tryz.prog 204 #[.pointer (some ⟨g,0,none⟩),.int .i64 (k:Int)] w fun e w'=>e=.returned (.tuple #[]) ∧ Bl B g (.slice pa ps.length pcap) qv w w' F rv { d with qs:=Au d.qs f (d.qs f ++ [k]) } (n+1):=by
 obtain ⟨i0,hi,hz0,hz1,hz2⟩:=info_parts Tryz.infoInt
 have hkl:=Ad hp
 obtain ⟨pb,off,rfl,hlt,hc⟩:=hl.place (by omega)
 have cp:=(hc k p hp).1
 rw [hpf] at cp
 have hfi:(f:Int) < 8:=by omega
 have HW:Hid (Ao B g (.slice (some ⟨pb,off,none⟩) ps.length pcap) qv w vq F rv d n):=h
 have HBW:Hid (B ≤ w.heap.size):=hB
 have HBut:Hid (But (AC g F rv) w w):=But.refl _ _
 have HSz:Hid (w.heap.size ≤ w.heap.size):=Nat.le_refl _
 have c0:=h.cells.c0
 have hm0:0 < (d.qs f).length:=List.length_pos_iff.2 hq
 obtain ⟨ao,cap,hv,hcap,hmx⟩:=(HW.out.queue f hf).form
 have cq:=HW.out.cells.cq f hf
 rw [hv] at cq
 have HVq:Hid (vq f=.slice ao (d.qs f).length cap):=hv
 obtain ⟨xs,hxs⟩:∃ xs,d.qs f=xs:=⟨_,rfl⟩
 rw [hxs] at cq hcap hq3 HVq
 have HXs0:Hid (d.qs f=xs):=hxs
 have hb0:Below w.heap.size w (w.drew.alloc (.cells #[.int .i64 (k:Int)] 3)):=(Below.refl _ _).drew.alloc (Nat.le_refl _) _
 have HTa:Hid (Ao B g (.slice (some ⟨pb,off,none⟩) ps.length pcap) qv (w.drew.alloc (.cells #[.int .i64 (k:Int)] 3)) vq F rv d n):=HW.out.later hb0
 have HS:Hid (Bc (w.drew.alloc (.cells #[.int .i64 (k:Int)] 3)) B (.slice ao xs.length cap) (F f) xs):=by
  have h1:=HTa.out.queue f hf
  have e:(d:Drr).qs f=xs:=hxs
  rwa [HVq.out,e] at h1
 have HK:Hid ((w.drew.alloc (.cells #[.int .i64 (k:Int)] 3)).cell? ⟨w.heap.size,0,none⟩=some (.int .i64 (k:Int))):=(cell_of_row _ _ 0 _ _ _ (heap_alloc_new w.drew _)).trans rfl
 have HBs:Hid (B ≤ (w.drew.alloc (.cells #[.int .i64 (k:Int)] 3)).heap.size):=Nat.le_trans HBW.out hb0.size
 obtain ⟨m,hm⟩:∃ m,xs.length=m:=⟨_,rfl⟩
 have HM:Hid (xs.length=m):=hm
 rw [hm] at cq hcap hq3 HVq
 rw [HXs0.out,hm] at hm0
 have hmd:((m:Int) == 0)=false:=by simp;omega
 have hml:m ≤ maxLen:=Nat.le_trans hcap hmx
 unfold maxLen at hmx hml
 have HXs:Hid (d.qs f=xs):=hxs
 have cqa:(w.alloc (.cells #[.int .i64 (k:Int)] 3)).cell? ⟨g,2+f,none⟩=some (.slice ao m cap):=cell_later ((Below.refl _ _).alloc (Nat.le_refl _) _) cq
 clear hv hxs hm hb0
 clear h hl hc hp hpf hq hB
 go_enter Tryz.func204,Tryz.ntmps204
 go_wp2_with fail
 go_region_law
  (first
   | (refine Gr rfl _ _ 32 rfl 3 i0 (.int .i64 0) 8 Tryz.underlying32 hi hz0 hz1 hz2 rfl B (.slice ao m cap) (F f) k xs rfl (by have:=HS.out;rwa [HM.out] at this) HBs.out ⟨w.heap.size,0,none⟩ 1 rfl HK.out (by rw [HM.out];unfold maxLen;omega) (by rw [HM.out];omega) ?_
      intro ao' cap' w2 hon
      rw [HM.out] at hon ⊢
      obtain ⟨F',g1,g2,g3⟩:=hon
      have HO:Hid (Bc w2 B (.slice ao' (m+1) cap') F' (xs ++ [k]) ∧ (∀ k,F' k → F f k ∨ w.heap.size+1 ≤ k) ∧ But (F f) (w.drew.alloc (.cells #[.int .i64 (k:Int)] 3)) w2):=⟨g1,(by simpa using g2),g3⟩
      have y1:w2.cell? ⟨g,2+f,none⟩=some (.slice ao m cap):=by
        have:=(HTa.out.cells.but g3 (HTa.out.apart f hf).1).cq f hf
        rwa [HVq.out] at this
      have y2:w2.frozen? ⟨g,2+f,none⟩=false:=(HTa.out.cells.but g3 (HTa.out.apart f hf).1).free _
      clear g1 g2 g3)
   | fail)
 all_goals
  have HT2:Hid (Ao B g (.slice (some ⟨pb,off,none⟩) ps.length pcap) qv (w2.setCell ⟨g,2+f,none⟩ (.slice ao' (m+1) cap')) (Au vq f (.slice ao' (m+1) cap')) (Au F f F') rv { d with qs:=Au d.qs f (xs ++ [k]) } n):=HTa.out.setQ hf HO.out.2.2 HO.out.1 (by simpa using HO.out.2.1)
  have z1:=HT2.out.cells.cn
  have z2:=HT2.out.cells.free 20
  clear y1 y2
  go_wp2_with fail
  go_end0
  refine ⟨rfl,⟨_,_,_,(by rw [HXs.out];exact HT2.out.setN (n+1) (by omega)),fun j hj=>?_⟩,?_⟩
  ·
   rcases GM hf (fun j hj=>HO.out.2.1 j hj) hj with h' | h'
   · exact .inl h'
   · exact .inr (by have:=HSz.out;omega)
  · exact (HBut.out.trans (((But.ofBelow ((Below.refl _ _).drew.alloc (Nat.le_refl _) _)).trans (HO.out.2.2.mono fun j hj=>.inr (.inl ⟨f,hf,hj⟩))).trans ((Eu _ _ _ _).mono fun j hj=>.inl hj))).trans ((Eu _ _ _ _).mono fun j hj=>.inl hj)
theorem LX (B g:Nat) (pa:Option Addr) (pcap:Nat) (qv:Value) (ps:List Pk) (vq:Nat → Value) (F:Nat → Nat → Prop) (rv:Value) (d:Drr) (n:Nat) (w:World) (h:Ao B g (.slice pa ps.length pcap) qv w vq F rv d n) (hl:AO w pa ps) (hlen:ps.length ≤ 300) (k f:Nat) (p:Pk) (hp:ps[k]? = some p) (hpf:p.flow=(f:Int)) (hf:f < 8) (hq:d.qs f=[]) (hrl:d.row.length ≤ 8) (hn:n ≤ 1000) (hB:B ≤ w.heap.size) :
  Calls Tryz.prog 204 #[.pointer (some ⟨g,0,none⟩),.int .i64 (k:Int)] w fun e w'=>e=.returned (.tuple #[]) ∧ Bl B g (.slice pa ps.length pcap) qv w w' F rv { d with qs:=Au d.qs f (d.qs f ++ [k]),row:=d.row ++ [f] } (n+1):=by
 obtain ⟨i0,hi,hz0,hz1,hz2⟩:=info_parts Tryz.infoInt
 have hkl:=Ad hp
 obtain ⟨pb,off,rfl,hlt,hc⟩:=hl.place (by omega)
 have cp:=(hc k p hp).1
 rw [hpf] at cp
 have hfi:(f:Int) < 8:=by omega
 have hq3:(d.qs f).length ≤ 300:=by rw [hq];simp
 have HW0:Hid (Ao B g (.slice (some ⟨pb,off,none⟩) ps.length pcap) qv w vq F rv d n):=h
 have c0:=h.cells.c0
 have c18:=h.cells.cr_
 have cq0:=h.cells.cq f hf
 obtain ⟨ao0,cap0,hv0,hcap0,hmx0⟩:=(h.queue f hf).form
 rw [hv0,hq] at cq0
 have cq0':w.cell? ⟨g,2+f,none⟩=some (.slice ao0 0 cap0):=cq0
 have hba:Below w.heap.size w (w.alloc (.cells #[.int .i64 (f:Int)] 3)):=(Below.refl _ _).alloc (Nat.le_refl _) _
 have HTw:Hid (Ao B g (.slice (some ⟨pb,off,none⟩) ps.length pcap) qv (w.alloc (.cells #[.int .i64 (f:Int)] 3)) vq F rv d n):=h.later hba
 have HNew:Hid (∀ j u,(ints [(f:Int)])[j]? = some u → (w.alloc (.cells #[.int .i64 (f:Int)] 3)).cell? (Addr.add ⟨w.heap.size,0,none⟩ j)=some u):=World.news_of_block (cs:=#[.int .i64 (f:Int)]) (t:=3) (heap_alloc_new w _)
 have HBs0:Hid (B ≤ (w.alloc (.cells #[.int .i64 (f:Int)] 3)).heap.size ∧ (w.alloc (.cells #[.int .i64 (f:Int)] 3)).heap.size=w.heap.size+1):=⟨Nat.le_trans hB hba.size,by simp⟩
 obtain ⟨rl,hrle⟩:∃ rl,d.row.length=rl:=⟨_,rfl⟩
 have HRl:Hid (d.row.length=rl):=hrle
 rw [hrle] at hrl
 have HB0:Hid (B ≤ w.heap.size):=hB
 have HQ:Hid (d.qs f=[]):=hq
 unfold maxLen at hmx0
 clear h hl hc hp hpf hB hq cq0 hv0 hba hrle
 go_enter Tryz.func204,Tryz.ntmps204
 go_wp2_with (at_builtin;go_must (refine wpList_append_lies _ rfl _ _ 32 rfl B 3 i0 (.int .i64 0) 1 8 Tryz.underlying32 hi hz0 hz1 hz2 rfl (by decide) rv rl (ints (Am d.row)) rfl (by have:=HTw.out.row;rwa [HRl.out] at this) ⟨w.heap.size,0,none⟩ 1 1 (ints [(f:Int)]) rfl rfl HNew.out (GZ _) (by decide) (by unfold maxLen;omega) (by omega) HBs0.out.1 _ rfl ?_;intro g5 cap5 w5 ho5 hg5 hat5 hlt5;have hbut:But (fun k=>rv.ownBlock=some k) (w.alloc (.cells #[.int .i64 (f:Int)] 3)) w5:=⟨hg5.os,hg5.tape,hg5.output,hg5.size,fun k hk hn=>hg5.block k hk (fun e=>hn e.symm)⟩;have HT5:=HTw.out.cells.but hbut (fun e=>HTw.out.rowg e);have y1:=HT5.cr_;have y2:=HT5.free 18;have H5:Hid (w5.ownsRow B 3 1 (.slice (some ⟨g5,0,none⟩) (rl+1) cap5) (rl+1) (ints (Am d.row) ++ ints [(f:Int)]) ∧ But (fun k=>rv.ownBlock=some k) (w.alloc (.cells #[.int .i64 (f:Int)] 3)) w5 ∧ (rv.ownBlock=some g5 ∨ g5=(w.alloc (.cells #[.int .i64 (f:Int)] 3)).heap.size)):=⟨ho5,hbut,hat5⟩;clear ho5 hg5 hat5 hlt5 hbut HT5))
 have HNw:Hid (∀ k,(Value.slice (some ⟨g5,0,none⟩) (rl+1) cap5).ownBlock=some k → rv.ownBlock=some k ∨ (w.alloc (.cells #[.int .i64 (f:Int)] 3)).heap.size ≤ k):=fun j hj=>by
  have e:g5=j:=Option.some.inj hj
  rcases H5.out.2.2 with h' | h'
  · exact .inl (by rw [← e];exact h')
  · exact .inr (by rw [← e,h'];exact Nat.le_refl _)
 have HWt:Hid (Ao B g (.slice (some ⟨pb,off,none⟩) ps.length pcap) qv (w5.setCell ⟨g,18,none⟩ (.slice (some ⟨g5,0,none⟩) (rl+1) cap5)) vq F (.slice (some ⟨g5,0,none⟩) (rl+1) cap5) { d with row:=d.row ++ [f] } n):=HTw.out.setR H5.out.2.1 (by rw [List.length_append,Fz,HRl.out];exact H5.out.1) HNw.out
 have HBt:Hid (But (AC g F rv) w (w5.setCell ⟨g,18,none⟩ (.slice (some ⟨g5,0,none⟩) (rl+1) cap5))):=((But.ofBelow ((Below.refl _ _).alloc (Nat.le_refl _) _)).trans (H5.out.2.1.mono fun j hj=>.inr (.inr hj))).trans ((Eu _ _ _ _).mono fun j hj=>.inl hj)
 obtain ⟨V,hV⟩:∃ V,w5.setCell ⟨g,18,none⟩ (.slice (some ⟨g5,0,none⟩) (rl+1) cap5)=V:=⟨_,rfl⟩
 rw [hV] at HWt HBt ⊢
 have HW:Hid (Ao B g (.slice (some ⟨pb,off,none⟩) ps.length pcap) qv V vq F (.slice (some ⟨g5,0,none⟩) (rl+1) cap5) { d with row:=d.row ++ [f] } n):=HWt.out
 have HBut:Hid (But (AC g F (.slice (some ⟨g5,0,none⟩) (rl+1) cap5)) V V):=But.refl _ _
 have HSz:Hid (w.heap.size ≤ V.heap.size):=HBt.out.size
 have HBW:Hid (B ≤ V.heap.size):=Nat.le_trans HB0.out HSz.out
 clear hV y1 y2 c18 cq0'
 obtain ⟨ao,cap,hv,hcap,hmx⟩:=(HW.out.queue f hf).form
 simp only at hv hcap
 have cq:=HW.out.cells.cq f hf
 rw [hv] at cq
 have HVq:Hid (vq f=.slice ao (d.qs f).length cap):=hv
 obtain ⟨xs,hxs⟩:∃ xs,d.qs f=xs:=⟨_,rfl⟩
 rw [hxs] at cq hcap hq3 HVq
 have hb0:Below V.heap.size V (V.drew.alloc (.cells #[.int .i64 (k:Int)] 3)):=(Below.refl _ _).drew.alloc (Nat.le_refl _) _
 have HTa:Hid (Ao B g (.slice (some ⟨pb,off,none⟩) ps.length pcap) qv (V.drew.alloc (.cells #[.int .i64 (k:Int)] 3)) vq F (.slice (some ⟨g5,0,none⟩) (rl+1) cap5) { d with row:=d.row ++ [f] } n):=HW.out.later hb0
 have HS:Hid (Bc (V.drew.alloc (.cells #[.int .i64 (k:Int)] 3)) B (.slice ao xs.length cap) (F f) xs):=by
  have h1:=HTa.out.queue f hf
  have e:({ d with row:=d.row ++ [f] }:Drr).qs f=xs:=hxs
  rwa [HVq.out,e] at h1
 have HK:Hid ((V.drew.alloc (.cells #[.int .i64 (k:Int)] 3)).cell? ⟨V.heap.size,0,none⟩=some (.int .i64 (k:Int))):=(cell_of_row _ _ 0 _ _ _ (heap_alloc_new V.drew _)).trans rfl
 have HBs:Hid (B ≤ (V.drew.alloc (.cells #[.int .i64 (k:Int)] 3)).heap.size):=Nat.le_trans HBW.out hb0.size
 obtain ⟨m,hm⟩:∃ m,xs.length=m:=⟨_,rfl⟩
 have HM:Hid (xs.length=m):=hm
 rw [hm] at cq hcap hq3 HVq
 have hml:m ≤ maxLen:=Nat.le_trans hcap hmx
 unfold maxLen at hmx hml
 have HXs:Hid (d.qs f=xs):=hxs
 have cqa:(V.alloc (.cells #[.int .i64 (k:Int)] 3)).cell? ⟨g,2+f,none⟩=some (.slice ao m cap):=cell_later ((Below.refl _ _).alloc (Nat.le_refl _) _) cq
 clear hv hxs hm hb0
 go_region_law
  (first
   | (refine Gr rfl _ _ 32 rfl 3 i0 (.int .i64 0) 8 Tryz.underlying32 hi hz0 hz1 hz2 rfl B (.slice ao m cap) (F f) k xs rfl (by have:=HS.out;rwa [HM.out] at this) HBs.out ⟨V.heap.size,0,none⟩ 1 rfl HK.out (by rw [HM.out];unfold maxLen;omega) (by rw [HM.out];omega) ?_
      intro ao' cap' w2 hon
      rw [HM.out] at hon ⊢
      obtain ⟨F',g1,g2,g3⟩:=hon
      have HO:Hid (Bc w2 B (.slice ao' (m+1) cap') F' (xs ++ [k]) ∧ (∀ k,F' k → F f k ∨ V.heap.size+1 ≤ k) ∧ But (F f) (V.drew.alloc (.cells #[.int .i64 (k:Int)] 3)) w2):=⟨g1,(by simpa using g2),g3⟩
      have y1:w2.cell? ⟨g,2+f,none⟩=some (.slice ao m cap):=by
        have:=(HTa.out.cells.but g3 (HTa.out.apart f hf).1).cq f hf
        rwa [HVq.out] at this
      have y2:w2.frozen? ⟨g,2+f,none⟩=false:=(HTa.out.cells.but g3 (HTa.out.apart f hf).1).free _
      clear g1 g2 g3)
   | fail)
 all_goals
  have HT2:Hid (Ao B g (.slice (some ⟨pb,off,none⟩) ps.length pcap) qv (w2.setCell ⟨g,2+f,none⟩ (.slice ao' (m+1) cap')) (Au vq f (.slice ao' (m+1) cap')) (Au F f F') (.slice (some ⟨g5,0,none⟩) (rl+1) cap5) { { d with row:=d.row ++ [f] } with qs:=Au d.qs f (xs ++ [k]) } n):=HTa.out.setQ hf HO.out.2.2 HO.out.1 (by simpa using HO.out.2.1)
  have z1:=HT2.out.cells.cn
  have z2:=HT2.out.cells.free 20
  clear y1 y2
  go_wp2_with fail
  go_end0
  refine ⟨rfl,⟨_,_,_,(by rw [HXs.out];exact HT2.out.setN (n+1) (by omega)),fun j hj=>?_⟩,?_⟩
  ·
   rcases GM hf (fun j hj=>HO.out.2.1 j hj) hj with h' | h'
   ·
    exact (by
    rcases Jq HNw.out h' with h'' | h''
    · exact .inl h''
    · exact .inr (by have:=HBs0.out.2;omega))
   · exact .inr (by have:=HSz.out;omega)
  · exact (HBt.out.trans (((But.ofBelow ((Below.refl _ _).drew.alloc (Nat.le_refl _) _)).trans (HO.out.2.2.mono fun j hj=>.inr (.inl ⟨f,hf,hj⟩))).trans ((Eu _ _ _ _).mono fun j hj=>.inl hj))).trans ((Eu _ _ _ _).mono fun j hj=>.inl hj)
theorem Pp {α:Type} (f:Nat → α) (k:Nat) (x y:α):Au (Au f k x) k y=Au f k y:=by
 funext i
 unfold Au
 split <;> rfl
theorem U8 (B g:Nat) (pv:Value) (qa:Option Addr) (qcap:Nat) (ns:List Int) (vq:Nat → Value) (F:Nat → Nat → Prop) (rv:Value) (d:Drr) (n:Nat) (w:World) (h:Ao B g pv (.slice qa ns.length qcap) w vq F rv d n) (hl:AV w qa ns) (hns:E5 1 3000 ns) (f:Nat) (r:List Nat) (hr:d.row=f :: r) (hf:f < 8) (hc0:0 ≤ d.cr f) (hc1:d.cr f ≤ 1000000) (hrl:d.row.length ≤ 8) (hB:B ≤ w.heap.size) (hqB:∀ ad,qa=some ad → ad.block < B) :
  Calls Tryz.prog 222 #[.pointer (some ⟨g,0,none⟩)] w fun e w'=>e=.returned (.tuple #[]) ∧ Bl B g pv (.slice qa ns.length qcap) w w' F rv (d.turn (BN ns) f r) n:=by
 obtain ⟨qb,off,rfl,hlt,hcN⟩:=hl.place (by rw [hns.len];omega)
 obtain ⟨x,hx,-⟩:=Ai ns f (by rw [hns.len];exact hf)
 have hxr:=hns.each f x hx
 have HQ:Hid (BN ns f=x):=IY hx
 have cx:=hcN f x hx
 have hown:=h.row
 rw [hr] at hown hrl
 rw [← AA] at hown
 obtain ⟨rb,cap,hrv,hlc,hcm,hcell⟩:=M8 hown (by rw [AA];simp)
 subst hrv
 have crf:w.cell? ⟨rb,0,none⟩=some (.int .i64 (f:Int)):=hcell 0 _ rfl
 have c18:=h.cells.cr_
 have c19:=h.cells.cs
 have f19:=h.cells.free 19
 have HT1:Hid (Ao B g pv (.slice (some ⟨qb,off,none⟩) ns.length qcap) (w.setCell ⟨g,19,none⟩ (.int .i64 (f:Int))) vq F (.slice (some ⟨rb,0,none⟩) (Am (f :: r)).length cap) { d with srv:=some f } n):=h.setS (some f) rfl
 have hlen2:(Am (f :: r)).length=r.length+1:=by rw [AA];rfl
 have HDel:Hid (Calls Tryz.prog 221 #[.slice (some ⟨rb,0,none⟩) (r.length+1) cap,.int .i64 0,.int .i64 1] (w.setCell ⟨g,19,none⟩ (.int .i64 (f:Int))) fun e w'=>e=.returned (.slice (some ⟨rb,0,none⟩) r.length cap) ∧ w'.ownsRow B 3 1 (.slice (some ⟨rb,0,none⟩) r.length cap) r.length (ints (Am r)) ∧ But (fun k=>k=rb) (w.setCell ⟨g,19,none⟩ (.int .i64 (f:Int))) w'):=by
  have h1:=HT1.out.row
  have e:({ d with srv:=some f }:Drr).row=f :: r:=hr
  rw [e] at h1
  have hd:=J3 B rb cap 0 (Am (f :: r)) (w.setCell ⟨g,19,none⟩ (.int .i64 (f:Int))) (by rw [hlen2] at h1 ⊢;exact h1) (by rw [hlen2];omega) hlc hcm
  rw [hlen2] at hd
  exact hd
 rw [hlen2] at c18 hlc
 rw [hlen2] at HT1
 obtain ⟨m,hm⟩:∃ m,r.length=m:=⟨_,rfl⟩
 have HM:Hid (r.length=m):=hm
 obtain ⟨c,hcr⟩:∃ c,d.cr f=c:=⟨_,rfl⟩
 have HCr:Hid (d.cr f=c):=hcr
 rw [hcr] at hc0 hc1
 rw [hm] at HDel HT1 c18 hlc
 have h8:=hns.len
 rw [h8] at HT1
 have hm8:m ≤ 8:=by rw [← hm];simp at hrl;omega
 have HFr:Hid (∀ W,Below B w W → W.cell? ⟨qb,off+f,none⟩=some (.int .i64 x)):=fun W hb=>by
  rw [hb.cell (p:=⟨qb,off+f,none⟩) (show qb < B from hqB ⟨qb,off,none⟩ rfl)];exact cx
 unfold maxLen at hcm
 have HBB:Hid (B ≤ w.heap.size):=hB
 have HLen:Hid ((Am (f :: r)).length=m+1):=by rw [← hm];exact hlen2
 have HFoot:Hid (∀ k,AC g F (.slice (some ⟨rb,0,none⟩) (m+1) cap) k → B ≤ k):=fun k hk=>(h.foot k hk).1
 clear h hl hcN hown hcell hx hr hm hcr hns hqB cx
 go_enter Tryz.func222,Tryz.ntmps222
 go_wp2_with fail
 refine HDel.out.mono ?_
 rintro e w2 ⟨rfl,hown2,hbut2⟩
 have HO:Hid (w2.ownsRow B 3 1 (.slice (some ⟨rb,0,none⟩) m cap) m (ints (Am r)) ∧ But (fun k=>k=rb) (w.setCell ⟨g,19,none⟩ (.int .i64 (f:Int))) w2):=⟨hown2,hbut2⟩
 have hc2:=HT1.out.cells.but hbut2 (fun e=>HT1.out.rowg (by rw [e];rfl))
 have y1:=hc2.cr_
 have y2:=hc2.free 18
 clear hown2 hbut2 hc2
 go_wp2_with fail
 have HT2:Hid (Ao B g pv (.slice (some ⟨qb,off,none⟩) 8 qcap) (w2.setCell ⟨g,18,none⟩ (.slice (some ⟨rb,0,none⟩) m cap)) vq F (.slice (some ⟨rb,0,none⟩) m cap) { d with srv:=some f,row:=r } n):=HT1.out.setR (HO.out.2.mono fun k hk=>by rw [hk];rfl) (by rw [HM.out];exact HO.out.1) (fun k hk=>.inl hk)
 have HBt:Hid (But (AC g F (.slice (some ⟨rb,0,none⟩) (m+1) cap)) w (w2.setCell ⟨g,18,none⟩ (.slice (some ⟨rb,0,none⟩) m cap))):=(((Eu _ _ _ _).mono fun j hj=>.inl hj).trans (HO.out.2.mono fun j hj=>.inr (.inr (by rw [hj];rfl)))).trans ((Eu _ _ _ _).mono fun j hj=>.inl hj)
 have HBel:Hid (Below B w (w2.setCell ⟨g,18,none⟩ (.slice (some ⟨rb,0,none⟩) m cap))):=HBt.out.below HBB.out (fun k hk=>HFoot.out k hk)
 obtain ⟨V,hV⟩:∃ V,w2.setCell ⟨g,18,none⟩ (.slice (some ⟨rb,0,none⟩) m cap)=V:=⟨_,rfl⟩
 rw [hV] at HT2 HBt HBel ⊢
 have v1:V.cell? ⟨g,1,none⟩=some (.slice (some ⟨qb,off,none⟩) 8 qcap):=HT2.out.cells.c1
 have v2:V.cell? ⟨g,10+f,none⟩=some (.int .i64 c):=by rw [← HCr.out];exact HT2.out.cells.cc f hf
 have v3:V.cell? ⟨g,19,none⟩=some (.int .i64 (f:Int)):=HT2.out.cells.cs
 have v4:=HFr.out V HBel.out
 have v5:=HT2.out.cells.free (10+f)
 have hfi:(f:Int) < 8:=by omega
 have hwr:IntKind.i64.wrap (c+x)=c+x:=IntWalk.i64_in _ (by omega)
 clear hV y1 y2 c18 c19 f19 crf
 go_region
 all_goals
  go_wp2_with fail
  go_end0
  have e:d.turn (BN ns) f r={ d with srv:=some f,row:=r,cr:=Au d.cr f (c+x) }:=by unfold Drr.turn;rw [HCr.out,HQ.out]
  rw [e,h8,HLen.out]
  refine ⟨rfl,⟨_,_,_,(HT2.out.setC hf (c+x)).later (Below.refl _ _).drew,fun j hj=>?_⟩,?_⟩
  · exact Jq (fun k hk=>.inl hk) hj
  · exact (HBt.out.trans ((Eu _ _ _ _).mono fun j hj=>.inl hj)).drew
end Go.Proofs.YtipdclphpkgceaaGreatDoor
