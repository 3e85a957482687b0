/- Proved: for every list of curves and all numbers, the call of floodgatelaw3.SideDelays returns true (side.Delays, with goroutines, answers as one after the other), and each argument reads afterwards as it read before. Conditions: the row's own (the listed variables hold what the initialisers leave). -/
import Derived.Deep.SlicePairs
import Derived.Deep.Slices
import Derived.Test.YtbokomeejmnnoaaDoorD41
import Derived.Test.YtbokomeejmnnoaaDoorD05
import Derived.Test.YtbokomeejmnnoaaDoorD03
import Derived.Test.YtbokomeejmnnoaaDoorCards
import Derived.Conc.Holds
set_option maxRecDepth 100000

namespace Go.Proofs.YtbokomeejmnnoaaDoor
open Go.ChangeShapes Go.WideShapes Go.ChangeAt Go.RowKit Go.Deep
section
variable {H:Type} {enc:TypeId × Value → H} {W:World} {fuel:Nat} {cs:List Value} {x:DataW H × List MemPlace}
theorem Tryd.cellsLine2:Tryd.prog.cellsOf 42=2:=by kernel_rfl
theorem Tryd.cellsLines:Tryd.prog.cellsOf 24=1:=by kernel_rfl
theorem trod_lines (h:DataW.trod enc Tryd.prog W 0 (fun _=>true) true fuel 24 cs=some x) :
  ∃ a cap ls,cs=[.slice a ls.length cap] ∧ Lies W a ls ∧ ls.length ≤ cap ∧ cap ≤ maxLen ∧ (a=none → ls=[] ∧ cap=0):=by
 rcases open_slice_pairs Tryd.underlying24 Tryd.underlying42 Tryd.cellsLine2 rfl rfl Tryd.cellsInt Tryd.cellsInt h with ⟨rfl,_⟩ | ⟨x,len0,cap0,m,n,V0,V1,D0,D1,P0,P1,rfl,_,hl,hm,hmm,_,hcell⟩
 · exact ⟨none,0,[],rfl,.inl rfl,by simp,by simp [maxLen],fun _=>⟨rfl,rfl⟩⟩
 ·
  have hm':m=cap0:=by simpa using hmm
  refine ⟨some x,cap0,(List.range len0).map fun i=>(intOf (V0 i),intOf (V1 i)),by simp,?_,by simpa using hl,hm,fun h=>by cases h⟩
  by_cases h0:len0=0
  · subst h0;exact .inl (by simp)
  ·
   have hint:∀ i,i < len0 → V0 i=.int .i64 (intOf (V0 i)) ∧ V1 i=.int .i64 (intOf (V1 i)):=by
    intro i hi
    obtain ⟨_,_,h2,h3⟩:=hcell i (by omega)
    obtain ⟨k0,e0,_,_⟩:=DataW.trod_int Tryd.underlying3 h2
    obtain ⟨k1,e1,_,_⟩:=DataW.trod_int Tryd.underlying3 h3
    simp at e0 e1
    rw [e0,e1]
    exact ⟨rfl,rfl⟩
   obtain ⟨b,off,spot⟩:=x
   have hc0:=(hcell 0 (by omega)).1
   have hspot:spot=none:=by simpa [Addr.add] using World.cell?_spot hc0
   subst hspot
   refine .inr ⟨b,off,rfl,by simpa [Addr.add] using cell_lt hc0,fun i x y hi=>?_⟩
   have hil:i < len0:=by
    rcases Nat.lt_or_ge i len0 with h | h
    · exact h
    · simp [h] at hi
   simp [hil] at hi
   obtain ⟨h0,h1,_,_⟩:=hcell i (by omega)
   have:=hint i hil
   rw [this.1,hi.1] at h0
   rw [this.2,hi.2] at h1
   rw [Addr.add_lit] at h0 h1
   exact ⟨h0,by rw [Nat.add_assoc];exact h1⟩
theorem trod_curves (h:DataW.trod enc Tryd.prog W 0 (fun _=>true) true fuel 22 cs=some x) :
  ∃ a cap css,cs=[.slice a css.length cap] ∧ LiesC W a css ∧ css.length ≤ cap ∧ cap ≤ maxLen:=by
 rcases open_slice Tryd.underlying22 h with ⟨rfl,_⟩ | ⟨ad,len,cap,m,n,D,Pl,rfl,hb,hl,hm,hmm,-,hx⟩
 · exact ⟨none,0,[],rfl,.inl rfl,by simp,by simp [maxLen]⟩
 ·
  have hlm:len ≤ m:=by rw [hmm];split <;> omega
  have each:∀ i,i < len → ∃ q:Option Addr × Nat × List (Int × Int),W.cell? (ad.add i)=some (.slice q.1 q.2.2.length q.2.1) ∧ Lies W q.1 q.2.2 ∧ q.2.2.length ≤ q.2.1 ∧ q.2.1 ≤ maxLen ∧ (q.1=none → q.2.2=[] ∧ q.2.1=0):=by
   intro i hi
   obtain ⟨cs',h1,h2⟩:=hx i (by omega)
   rw [Tryd.cellsLines] at h1
   obtain ⟨a',cap',ls,rfl,h3,h4⟩:=trod_lines h2
   obtain ⟨_,_,hcell⟩:=World.cells?_some h1
   have hc:=hcell 0 (by omega)
   rw [add_add,Nat.mul_one,Nat.add_zero] at hc
   exact ⟨(a',cap',ls),by simpa using hc,h3,h4⟩
  obtain ⟨q,hq⟩:∃ q:Nat → Option Addr × Nat × List (Int × Int),∀ i,i < len → W.cell? (ad.add i)=some (.slice (q i).1 (q i).2.2.length (q i).2.1) ∧ Lies W (q i).1 (q i).2.2 ∧ (q i).2.2.length ≤ (q i).2.1 ∧ (q i).2.1 ≤ maxLen ∧ ((q i).1=none → (q i).2.2=[] ∧ (q i).2.1=0):=
   ⟨fun i=>if h:i < len then Classical.choose (each i h) else (none,0,[]),fun i hi=>by simp only [dif_pos hi];exact Classical.choose_spec (each i hi)⟩
  refine ⟨some ad,cap,(List.range len).map fun i=>(q i).2.2,by simp,?_,by simpa using hl,hm⟩
  by_cases h0:len=0
  · subst h0;exact .inl (by simp)
  ·
   obtain ⟨b,off,spot⟩:=ad
   have hc0:=(hq 0 (by omega)).1
   have hspot:spot=none:=by simpa [Addr.add] using World.cell?_spot hc0
   subst hspot
   refine .inr ⟨b,off,rfl,by simpa [Addr.add] using cell_lt hc0,fun i ls hi=>?_⟩
   have hil:i < len:=by
    rcases Nat.lt_or_ge i len with h | h
    · exact h
    · simp [h] at hi
   simp [hil] at hi
   obtain ⟨g1,g2,g3,g4,g5⟩:=hq i hil
   rw [hi] at g1 g2 g3 g5
   rw [Addr.add_lit] at g1
   exact ⟨(q i).1,(q i).2.1,g1,g2,g3,g4,g5⟩
end
end Go.Proofs.YtbokomeejmnnoaaDoor

namespace Go.Proofs.YtbokomeejmnnoaaDoor
open Go.ChangeShapes Go.WideShapes Go.ChangeAt Go.RowKit Go.Conc
set_option maxRecDepth 100000
theorem law_enter (args:Array Value) (x0 x1 x2:Value) (h:args = #[x0,x1,x2]):G (Frame.enter Tryd.prog 3 args .normal) []=G ((base 3).at (lwV x0 x1 x2 undef undef undef fun _=>undef) [.code (bodyC Tryd.f3)]) []:=by
 subst h
 rw [enter_at (c:=bodyC Tryd.f3) #[x0,x1,x2] Tryd.func3 rfl]
 unfold lwV
 walk_nrmf Tryd.ntmps3
theorem law_wellEnds {Post:Value → World → Prop} {W:World} {ad:Nat → Addr} {cs:List (List (Int × Int))} (he:ErrsW W.heap.size W ad) (ca:Option Addr) (ccap:Nat) (per wks:Int) (hc:LiesC W ca cs) (hcap:cs.length ≤ ccap) (hend:∀ w',LaterW W w' → Post (.bool true) w') :
  WellEnds Tryd.prog Post (solo (G (Frame.enter Tryd.prog 3 #[.slice ca cs.length ccap,.int .i64 per,.int .i64 wks] .normal) []) W) #[]:=by
 rw [law_enter _ _ _ _ rfl]
 refine (law_fin (H:=fun _=>False) he (fun b hb=>hb.elim) (fun b hb=>hb.elim) ca cs.length ccap per wks hc rfl hcap hend).now #[_] none #[] (fun _=>0) 0 rfl (leavers_one _ _) ⟨past_nil.clean,fun i a h1 h2=>or_map id (fun h=>h.1.elim) (past_nil.known i a h1 h2),past_nil.over,past_nil.hears,past_nil.seen⟩ (Nat.zero_le _)
theorem LaterW.blind {W w':World} (h:LaterW W w'):Below W.heap.size W.blind w'.blind:=⟨h.out.1,rfl,h.out.2,h.size,fun k hk=>h.old k hk⟩
theorem sd_lifted (os:Os) (started:os.Started) (H:Type) (enc:TypeId × Value → H) :
  ReturnsInLeavingWide {} Tryd.checked os 3 .any (fun w args=>(Rows.sideDelaysSpec.pre enc Tryd.prog Tryd.f3 [] false w args ∧ laidMetH Tryd.prog Rows.sideDelaysRow.laid w) ∧ sizedMet enc Tryd.prog Tryd.f3 (OpenSpec.ofChange Rows.sideDelaysSpec) false w args)
   (Rows.sideDelaysSpec.post enc Tryd.prog Tryd.f3 false true false false):=by
 refine returnsInLeavingWide_of_good (C:=Tryd.checked) Tryd.own started
  (ChangeSpec.witness_shaped (enc:=enc) (C:=Tryd.checked) (os:=os) (X:=fun w _=>laidMetH Tryd.prog Rows.sideDelaysRow.laid w) false (World.doorLaid Tryd.prog 187 os) #[.slice none 0 0,.int .i64 0,.int .i64 0] 8 rfl (World.shaped_of_RefB (by kernel_rfl) (by kernel_rfl)) (by kernel_rfl) (by kernel_rfl) (by kernel_rfl) (door_met9 os _)) ?_
 intro w tape i _ hsh _ hok hpre _
 obtain ⟨_,_,_,fn',hfn',_,_,_,_,hval0⟩:=hok
 obtain rfl:fn'=Tryd.f3:=Option.some.inj (hfn'.symm.trans Tryd.func3)
 obtain ⟨⟨⟨ds,gs,before,hw,-⟩,hx⟩,-⟩:=hpre
 obtain ⟨W,hWe⟩:∃ W,w.forCall tape i=W:=⟨_,rfl⟩
 have hL:laidMetH Tryd.prog Rows.sideDelaysRow.laid W:=by rw [← hWe];exact hx.of_heap (by rfl)
 have hW:DataW.Whole enc Tryd.prog Tryd.f3.params.toList Rows.sideDelaysSpec.vars false W.blind i.args.toList ds gs before:=by rw [← hWe];exact DataW.Whole.of_heap (by rfl) hw
 rw [hWe] at hsh hval0 ⊢
 have hval:∀ (j:Nat) t v,Tryd.f3.params[j]? = some t → i.args[j]? = some v → Value.okWide Tryd.prog W .any w.heap.size t v:=hval0
 have hsz:Tryd.prog.globals.size ≤ W.heap.size:=by
  have h0:(((begin Tryd.prog (fun _ _=>0) default).world.heap[Tryd.prog.globals.size - 1]?).bind Obj.row?).isSome=true:=by kernel_rfl
  obtain ⟨⟨zero,t⟩,h1⟩:=Option.isSome_iff_exists.1 h0
  obtain ⟨cs,hh,-⟩:=hsh.1 _ zero t (of_decide_eq_true (by kernel_rfl)) h1
  have:=lt_of_block hh
  omega
 obtain ⟨ad,he⟩:=errsW_of_laid hL hsh hsz
 obtain ⟨args,hae⟩:∃ args,i.args=args:=⟨_,rfl⟩
 rw [hae] at hval hW ⊢
 have hW':=hW
 obtain ⟨p,q,hA0,hV,rfl,hfz,hnd⟩:=hW
 have hA:DataW.TrodAll enc Tryd.prog W.blind 0 (fun _=>true) true Tryd.f3.params.toList args.toList ds p:=hA0
 rw [Tryd.params3] at hA hval
 obtain ⟨v0,v1,v2,d0,d1,d2,p0,p1,p2,rfl,rfl,rfl,h0,h1,h2⟩:=trodAll_three hA
 obtain ⟨rfl,rfl⟩:=trodVars_none hV
 have lt0:∀ x ∈ p0,x.block < W.blind.heap.size:=by obtain ⟨m,hm⟩:=h0;exact DataW.trod_lt m _ _ _ hm
 have lt1:∀ x ∈ p1,x.block < W.blind.heap.size:=by obtain ⟨m,hm⟩:=h1;exact DataW.trod_lt m _ _ _ hm
 have lt2:∀ x ∈ p2,x.block < W.blind.heap.size:=by obtain ⟨m,hm⟩:=h2;exact DataW.trod_lt m _ _ _ hm
 have k0:=h0
 have k1:=h1
 have k2:=h2
 obtain ⟨ca,n,ccap,rfl⟩:=okWide_slice Tryd.underlying22 (hval 0 22 v0 rfl rfl)
 obtain ⟨per,rfl⟩:=okWide_int Tryd.underlying3 (hval 1 3 v1 rfl rfl)
 obtain ⟨wks,rfl⟩:=okWide_int Tryd.underlying3 (hval 2 3 v2 rfl rfl)
 obtain ⟨m0,h0⟩:=h0
 obtain ⟨a',cap',css,hcs,hc0,hcap,-⟩:=trod_curves h0
 simp [Value.cells] at hcs
 obtain ⟨rfl,rfl,rfl⟩:=hcs
 have hc:LiesC W ca css:=hc0
 refine law_wellEnds he ca ccap per wks hc hcap fun W' hl=>?_
 have bel:=hl.blind
 exact ⟨_,_,_,[],_,[],hW',trodAll_mk1 (shut_bool Tryd.underlying4 _),
  (trodAll_cons_mk (Below.trod Tryd.laidOut (by kernel_rfl) (of_decide_eq_true (by kernel_rfl)) k0 bel lt0) (trodAll_cons_mk (Below.trod Tryd.laidOut (by kernel_rfl) (of_decide_eq_true (by kernel_rfl)) k1 bel lt1) (trodAll_cons_mk (Below.trod Tryd.laidOut (by kernel_rfl) (of_decide_eq_true (by kernel_rfl)) k2 bel lt2) trodAll_mk0))),rfl,bel.frame _,fun h=>by cases h⟩
theorem sd_row:Rows.SideDelaysSaid:=
 OpenClaim.holds_of_wide_leaving 3 Tryd.f3 rfl rfl rfl rfl rfl rfl rfl ⟨rfl,rfl,rfl,rfl,rfl⟩ rfl rfl rfl rfl rfl (by kernel_rfl) Tryd.func3 (by kernel_rfl)
  (of_decide_eq_true (by kernel_rfl)) (by unfold Func.isWrapper;rw [if_neg (of_decide_eq_false (by kernel_rfl))];exact ⟨rfl,rfl⟩)
  (fun os started H enc _=>sd_lifted os started H enc)
theorem holds_tied_goes (Lk:_root_.Go.Looks) {p:Pinned} {s:OpenSpec} {c:OpenClaim} (kinds:List LaidKind) (tests:Bool) (har:Bool × String) (lk g:Bool) (hc:c.holds p s) (hw:c.wfByText s=true) (htie:c.laidByTextAt Lk p kinds tests)
  (hst:c.start=.entering) (hnb:c.noBlocks=false ∧ c.again=false) (hm:p.checked.prog.mainIs=some (har.1,har.2.toList)) (hn:(!har.1 && har.2.isEmpty && !lk)=false)
  (hl:∀ f fn,p.checked.prog.funcNamed c.func=some f → p.checked.prog.funcs[f]? = some fn → lk=p.checked.prog.looks [] ∧ ∀ (j:Nat) t,fn.params[j]? = some t → p.checked.prog.wantsStandIn t=false)
  (hg:g=c.goesBy p.checked.prog) :
  Claim7.holds p (.plain s) { stood:={ row:=c,standIns:=[],harness:=har,looks:=lk },kinds:=[],alts:=[],goes:=g,laidByText:=true,laidKinds:=kinds,laidTests:=tests,laidLooks:=Lk }:=by
 have h6:∀ r:OpenClaim,Claim7.isSixth { stood:={ row:=r,standIns:=[],harness:=har,looks:=lk },kinds:=[] }=false:=fun r=>by simpa [Claim7.isSixth] using hn
 exact ⟨Claim7.tied_new_at Lk kinds tests (Claim7.new_of_sixth hc har lk hst hnb hm (h6 c) hl) hw,fun D hD=>(by cases hD),htie,(fun h=>by cases h),hg⟩
theorem sideDelays_holds:Rows.SideDelaysCardSaid:=
 holds_tied_goes .later Rows.sideDelaysCard.laidKinds true Rows.sideDelaysCard.stood.harness true true
  sd_row (by kernel_rfl) sideDelays_row_tie rfl ⟨rfl,rfl⟩ (by kernel_rfl) rfl
  (fun f fn hf hfn=>by
   obtain rfl:f=3:=Option.some.inj ((show Tryd.prog.funcNamed Rows.sideDelaysRow.func=some 3 by kernel_rfl).symm.trans hf) |>.symm
   obtain rfl:fn=Tryd.f3:=(Option.some.inj (Tryd.func3.symm.trans hfn)).symm
   exact ⟨by kernel_rfl,fun j t ht=>by
    rw [Tryd.params3] at ht
    have h3:t=22 ∨ t=3:=by
     match j,ht with
     | 0,ht=>exact .inl (by simpa using ht.symm)
     | 1,ht=>exact .inr (by simpa using ht.symm)
     | 2,ht=>exact .inr (by simpa using ht.symm)
     | j+3,ht=>simp at ht
    rcases h3 with rfl | rfl
    · exact (show Tryd.prog.wantsStandIn 22=false by kernel_rfl)
    · exact (show Tryd.prog.wantsStandIn 3=false by kernel_rfl)⟩)
  (by kernel_rfl)
#print axioms sideDelays_holds
end Go.Proofs.YtbokomeejmnnoaaDoor
