/- Own facts, put together: no statement of its own. -/
import Derived.Test.YtbokomeejmnnoaaDoorD17
import Derived.Conc.Own
import Derived.Conc.DeferLaws
import Derived.Conc.Listed
import Derived.Test.YtbokomeejmnnoaaDoorChecked
import Derived.Conc.WgGenN3
import Derived.Conc.WalkWords
import Derived.Test.YtbokomeejmnnoaaDoorD01
import Derived.Calls
import Derived.Deep.RegionWith
import Derived.BigQuiet
import Derived.Test.YtbokomeejmnnoaaDoorD08
set_option maxHeartbeats 4000000
set_option maxRecDepth 100000

namespace Go.Proofs.YtbokomeejmnnoaaDoor
open Go.RowKit
def SdAnsEnd (per:Int) (ls:Nat → List (Int × Int)) (n:Nat) (w:World) (e:Ending) (w':World):Prop:=Below w.heap.size w w' ∧
 ((∃ i c E,i < n ∧ (∀ j,j < i → ∃ d,GoodD per (ls j) d) ∧ BadD per (ls i) c ∧ 0 < c ∧ e=.returned (.tuple #[.slice none 0 0,E]) ∧ ErrIs w' E c i) ∨
 (∃ (ds:List Int) (D:Nat),ds.length=n ∧ (∀ i d,ds[i]? = some d → GoodD per (ls i) d) ∧ e=.returned (.tuple #[.slice (some ⟨D,0,none⟩) n n,.nilIface]) ∧ LiesN w' (some ⟨D,0,none⟩) ds ∧ w.heap.size ≤ D))
structure RowN (w:World) (D n:Nat) (ds:List Int):Prop where
 row:∃ arr,w.heap[D]? = some (.cells arr 3 (0,0)) ∧ arr.size=n ∧ ∀ (i:Nat) d,ds[i]? = some d → arr[i]? = some (.int .i64 d)
theorem RowN.cell {w:World} {D n:Nat} {ds:List Int} (h:RowN w D n ds) {k:Nat} (hk:k < n):∃ u,w.cell? ⟨D,k,none⟩=some u:=by
 obtain ⟨arr,h1,h2,-⟩:=h.row
 exact ⟨arr[k],by simp [World.cell?,h1,h2,hk]⟩
theorem RowN.frozen {w:World} {D n:Nat} {ds:List Int} (h:RowN w D n ds) (k:Nat):w.frozen? ⟨D,k,none⟩=false:=by
 obtain ⟨arr,h1,h2,-⟩:=h.row
 simp [World.frozen?,h1]
theorem RowN.lt {w:World} {D n:Nat} {ds:List Int} (h:RowN w D n ds):D < w.heap.size:=by
 obtain ⟨arr,h1,-⟩:=h.row
 exact lt_of_block h1
theorem RowN.of_block {w w':World} {D n:Nat} {ds:List Int} (h:RowN w D n ds) (hb:w'.heap[D]? = w.heap[D]?):RowN w' D n ds:=by
 obtain ⟨arr,h1,h2⟩:=h.row
 exact ⟨arr,hb.trans h1,h2⟩
theorem RowN.put {w:World} {D n:Nat} {ds:List Int} (h:RowN w D n ds) {k:Nat} (hk:k < n) (hl:ds.length=k) (d:Int):RowN (w.setCell ⟨D,k,none⟩ (.int .i64 d)) D n (ds ++ [d]):=by
 obtain ⟨arr,h1,h2,h3⟩:=h.row
 refine ⟨arr.setIfInBounds k (.int .i64 d),?_,by simp [h2],fun i x hx=>?_⟩
 ·
  rw [setCell_eq_setRow w D k arr 3 (0,0) _ h1]
  exact setRow_heap _ _ _ _ _ _ h1
 ·
  rcases Nat.lt_or_ge i ds.length with hi | hi
  ·
   rw [List.getElem?_append_left hi] at hx
   rw [Array.getElem?_setIfInBounds_ne (by omega)]
   exact h3 i x hx
  ·
   rw [List.getElem?_append_right hi] at hx
   obtain ⟨e1,e2⟩:i - ds.length=0 ∧ x=d:=by
    cases hz:i - ds.length with
    | zero=>rw [hz] at hx;exact ⟨rfl,(Option.some.inj hx).symm⟩
    | succ m=>rw [hz] at hx;simp at hx
   obtain rfl:i=k:=by omega
   rw [Array.getElem?_setIfInBounds_self_of_lt (by omega),e2]
theorem RowN.lies {w:World} {D n:Nat} {ds:List Int} (h:RowN w D n ds):LiesN w (some ⟨D,0,none⟩) ds:=by
 obtain ⟨arr,h1,h2,h3⟩:=h.row
 refine .inr ⟨D,0,rfl,lt_of_block h1,fun i x hx=>?_⟩
 have:=h3 i x hx
 simp [World.cell?,h1,this]
theorem rowN_made (w:World) (n:Nat):RowN (w.alloc (.cells (madeCells #[.int .i64 0] n) 3)) w.heap.size n []:=⟨_,heap_alloc_new w _,size_madeCells _ _,fun i d h=>by cases h⟩
theorem bad_form {w:World} {per:Int} {ls:List (Int × Int)} {ad:Nat → Addr} {u y:Value} (h:DelayEnd per ls ad (.returned (.tuple #[u,y])) w) :
  (∃ d,u=.int .i64 d ∧ y=.nilIface ∧ GoodD per ls d) ∨ ∃ k:Nat,k < 9 ∧ BadD per ls (k+1) ∧ u=.int .i64 0 ∧ ∃ ad',Errs9 w ad' ∧ (y=.iface 139 (.pointer (some (ad' k))) ∨ ∃ pb,y=.iface 77 (.pointer (some ⟨pb,0,none⟩)) ∧ w.cell? ⟨pb,1,none⟩=some (.iface 139 (.pointer (some (ad' k))))):=by
 rcases h.2 with ⟨c,p,ty,v,h1,h2,h3⟩ | ⟨h1,h2,h3⟩ | ⟨h1,h2,d,h3,h4⟩
 ·
  cases h2
  rcases h3.code with ⟨e,-⟩ | ⟨ad',he,k,hk,rfl,⟨e,-⟩ | ⟨pb,e,-,e2⟩⟩
  · cases e
  · exact .inr ⟨k,hk,.inl ⟨p,h1⟩,rfl,ad',he,.inl e⟩
  · exact .inr ⟨k,hk,.inl ⟨p,h1⟩,rfl,ad',he,.inr ⟨pb,e,e2⟩⟩
 ·
  cases h3
  exact .inr ⟨3,by omega,.inr ⟨h1,h2,rfl⟩,rfl,ad,h.1,.inl rfl⟩
 ·
  cases h3
  exact .inl ⟨d,rfl,rfl,h1,h2,h4⟩
theorem atEnd_err {w w':World} {ad:Nat → Addr} (he:Errs9 w ad) {k:Nat} (hk:k < 9) {p:Int} {e:Ending} (h:AtEnd p (.iface 139 (.pointer (some (ad k)))) w e w'):∃ B,e=.returned (.iface 77 (.pointer (some ⟨B,0,none⟩))) ∧ Below w.heap.size w w' ∧ ErrIs w' (.iface 77 (.pointer (some ⟨B,0,none⟩))) (k+1) p:=by
 obtain ⟨B,h1,h2,h3,-,h5⟩:=h
 exact ⟨B,h1,h5,codeIs_fault (he.below h5) k hk p B h2 h3,fun hc=>by omega,fun _=>⟨_,_,rfl⟩⟩
theorem answers_is (bo n:Nat) (cur:Array Value) (w:World) (ad:Nat → Addr) (per:Int) (ls:Nat → List (Int × Int)) (hn:n ≤ 100) (he:Errs9 w ad) (hrow:w.heap[bo]? = some (.cells cur 67 (0,0)))
  (hv:∀ i,i < n → ∃ u y,cur[i * 3]? = some (.int .i64 i) ∧ cur[i * 3+1]? = some u ∧ cur[i * 3+2]? = some y ∧ DelayEnd per (ls i) ad (.returned (.tuple #[u,y])) w) :
  Calls Tryd.prog 27 #[.slice (some ⟨bo,0,none⟩) n n] w (SdAnsEnd per ls n w):=by
 have HV:Hid (∀ i,i < n → ∃ u y,cur[i * 3]? = some (.int .i64 i) ∧ cur[i * 3+1]? = some u ∧ cur[i * 3+2]? = some y ∧ DelayEnd per (ls i) ad (.returned (.tuple #[u,y])) w):=hv
 have HC:Hid (∀ (j:Nat) x,cur[j]? = some x → w.cell? ⟨bo,j,none⟩=some x):=fun j x hx=>by simp [World.cell?,hrow,hx]
 have HE:Hid (Errs9 w ad):=he
 clear hv hrow he
 have hmk:∀ w':World,(Instr.makeSlice 26 (.int .i64 n) (.int .i64 n)).run Tryd.prog w'=.ok (.slice (some ⟨w'.heap.size,0,none⟩) n n) (w'.alloc (.cells (madeCells #[.int .i64 0] n) 3)):=fun w'=>by
  obtain ⟨i0,hi,hz0,hz1,hz2⟩:=info_parts Tryd.infoInt
  have:=run_make (P:=Tryd.prog) w' 26 3 i0 (.int .i64 0) Tryd.underlying26 hi hz0 .i64 .i64 n n (by omega) (by omega) (by rw [hz2];omega) (by omega)
  simpa [hz1,Value.cells] using this
 have HS0:Hid (RowN (w.alloc (.cells (madeCells #[.int .i64 0] n) 3)) w.heap.size n [] ∧ Below w.heap.size w (w.alloc (.cells (madeCells #[.int .i64 0] n) 3))):=⟨rowN_made w n,(Below.refl _ _).alloc (Nat.le_refl _) _⟩
 go_enter Tryd.func27,Tryd.ntmps27
 go_wp2_with fail
 obtain ⟨D,hD⟩:∃ D,w.heap.size=D:=⟨_,rfl⟩
 have HD:Hid (w.heap.size=D):=hD
 rw [hD]
 clear hD hmk
 go_loopg [12] n (fun gk i wr=>∃ (k:Nat) (ds:List Int),gk+k=n ∧ i=.int .i64 k ∧ ds.length=k ∧ (∀ i d,ds[i]? = some d → GoodD per (ls i) d) ∧ RowN wr D n ds ∧ Below w.heap.size w wr)
 case atStart=>exact ⟨0,[],by omega,rfl,rfl,fun i d h=>(by cases h),by have:=HS0.out.1;rwa [HD.out] at this,HS0.out.2⟩
 case round=>
  obtain ⟨k,ds,hgk,rfl,hlen,hok,hdel,hb⟩:=hrel
  have HB:Hid (Below w.heap.size w wr ∧ ds.length=k ∧ (∀ i d,ds[i]? = some d → GoodD per (ls i) d) ∧ RowN wr D n ds):=⟨hb,hlen,hok,hdel⟩
  clear hlen hok hdel
  by_cases hkn:k < n
  ·
   obtain ⟨u,y,e0,e1,e2,hend⟩:=HV.out k hkn
   have c1:wr.cell? ⟨bo,k * 3,none⟩=some (.int .i64 k):=cell_later hb (HC.out _ _ e0)
   have c2:wr.cell? ⟨bo,k * 3+1,none⟩=some u:=cell_later hb (HC.out _ _ e1)
   have c3:wr.cell? ⟨bo,k * 3+2,none⟩=some y:=cell_later hb (HC.out _ _ e2)
   clear e0 e1 e2
   rcases bad_form hend with ⟨d,rfl,rfl,hg⟩ | ⟨q,hq,hbad,rfl,ad',he',hy⟩
   ·
    have HG:Hid (GoodD per (ls k) d):=hg
    obtain ⟨u0,hu0⟩:=HB.out.2.2.2.cell hkn
    have d2:(wr.alloc (.cells #[.int .i64 k,.int .i64 d,.nilIface] 67)).cell? ⟨D,k,none⟩=some u0:=cell_later ((Below.refl _ _).alloc (Nat.le_refl _) _) hu0
    have d3:(wr.alloc (.cells #[.int .i64 k,.int .i64 d,.nilIface] 67)).frozen? ⟨D,k,none⟩=false:=by
     rw [((Below.refl _ _).alloc (Nat.le_refl _) _:Below wr.heap.size wr _).frozen (p:=⟨D,k,none⟩) HB.out.2.2.2.lt]
     exact HB.out.2.2.2.frozen k
    have HEnd:Hid (RowN ((wr.alloc (.cells #[.int .i64 k,.int .i64 d,.nilIface] 67)).setCell ⟨D,k,none⟩ (.int .i64 d)) D n (ds ++ [d]) ∧ Below w.heap.size w ((wr.alloc (.cells #[.int .i64 k,.int .i64 d,.nilIface] 67)).setCell ⟨D,k,none⟩ (.int .i64 d))):=
     ⟨(HB.out.2.2.2.of_block (Go.heap_alloc_old wr _ HB.out.2.2.2.lt)).put hkn HB.out.2.1 d,(HB.out.1.alloc HB.out.1.size _).setCell (by rw [HD.out];exact Nat.le_refl D) _⟩
    clear hend hg hu0 hb
    go_wp2_with fail
    go_roundg (gk - 1)
    case measure=>omega
    case rel=>
     refine ⟨k+1,ds ++ [d],by omega,by go_num,by simp [HB.out.2.1],fun i x hx=>?_,HEnd.out.1,HEnd.out.2⟩
     have hl:=HB.out.2.1
     rcases Nat.lt_or_ge i ds.length with hi | hi
     ·
      rw [List.getElem?_append_left hi] at hx
      exact HB.out.2.2.1 i x hx
     ·
      rw [List.getElem?_append_right hi] at hx
      cases hz:i - ds.length with
      | zero=>
       rw [hz] at hx
       cases hx
       obtain rfl:i=k:=by omega
       exact HG.out
      | succ m=>rw [hz] at hx;simp at hx
   ·
    have HBad:Hid (q < 9 ∧ BadD per (ls k) (q+1)):=⟨hq,hbad⟩
    have HE':Hid (Errs9 wr ad'):=he'.below hb
    rcases hy with rfl | ⟨pb,rfl,hpb⟩
    ·
     have HF:Hid (∀ W,Below wr.heap.size wr W → Calls Tryd.prog 54 #[.int .i64 k,.iface 139 (.pointer (some (ad' q)))] W (AtEnd k (.iface 139 (.pointer (some (ad' q)))) W)):=fun W hW=>faultAt_sent k (ad' q) W ad' (HE'.out.below hW)
     clear hend he' hq hbad hb
     go_wp2_with (refine (HF.out _ ?_).mono ?_)
     · exact (Below.refl _ _).alloc (Nat.le_refl _) _
     ·
      rintro e w3 hAt
      have hb0:Below wr.heap.size wr (wr.alloc (.cells #[.int .i64 k,.int .i64 0,.iface 139 (.pointer (some (ad' q)))] 67)):=(Below.refl _ _).alloc (Nat.le_refl _) _
      obtain ⟨B,rfl,hb3,herr⟩:=atEnd_err (HE'.out.below hb0) HBad.out.1 hAt
      have HR:Hid (Below w.heap.size w w3 ∧ ErrIs w3 (.iface 77 (.pointer (some ⟨B,0,none⟩))) (q+1) k):=⟨HB.out.1.trans ((hb0.trans (hb3.mono hb0.size)).mono HB.out.1.size),herr⟩
      clear hAt hb0 hb3 herr
      go_wp2_with fail
      go_ret2
      refine ⟨HR.out.1,.inl ⟨k,q+1,_,hkn,fun j hj=>?_,HBad.out.2,by omega,rfl,HR.out.2⟩⟩
      have hl:=HB.out.2.1
      exact ⟨ds[j],HB.out.2.2.1 j _ (List.getElem?_eq_getElem (by omega))⟩
    ·
     have HP:Hid (wr.cell? ⟨pb,1,none⟩=some (.iface 139 (.pointer (some (ad' q))))):=cell_later hb hpb
     have HF:Hid (∀ W,Below wr.heap.size wr W → Calls Tryd.prog 54 #[.int .i64 k,.iface 77 (.pointer (some ⟨pb,0,none⟩))] W (AtEnd k (.iface 139 (.pointer (some (ad' q)))) W)):=fun W hW=>faultAt_fault k pb _ _ W ad' (HE'.out.below hW) (cell_later hW HP.out)
     clear hend he' hq hbad hpb hb
     go_wp2_with (refine (HF.out _ ?_).mono ?_)
     · exact (Below.refl _ _).alloc (Nat.le_refl _) _
     ·
      rintro e w3 hAt
      have hb0:Below wr.heap.size wr (wr.alloc (.cells #[.int .i64 k,.int .i64 0,.iface 77 (.pointer (some ⟨pb,0,none⟩))] 67)):=(Below.refl _ _).alloc (Nat.le_refl _) _
      obtain ⟨B,rfl,hb3,herr⟩:=atEnd_err (HE'.out.below hb0) HBad.out.1 hAt
      have HR:Hid (Below w.heap.size w w3 ∧ ErrIs w3 (.iface 77 (.pointer (some ⟨B,0,none⟩))) (q+1) k):=⟨HB.out.1.trans ((hb0.trans (hb3.mono hb0.size)).mono HB.out.1.size),herr⟩
      clear hAt hb0 hb3 herr
      go_wp2_with fail
      go_ret2
      refine ⟨HR.out.1,.inl ⟨k,q+1,_,hkn,fun j hj=>?_,HBad.out.2,by omega,rfl,HR.out.2⟩⟩
      have hl:=HB.out.2.1
      exact ⟨ds[j],HB.out.2.2.1 j _ (List.getElem?_eq_getElem (by omega))⟩
  ·
   clear hb
   go_wp2_with fail
   go_ret2
   have hl:=HB.out.2.1
   exact ⟨HB.out.1,.inr ⟨ds,D,by omega,HB.out.2.2.1,rfl,HB.out.2.2.2.lies,by rw [HD.out];exact Nat.le_refl _⟩⟩
end Go.Proofs.YtbokomeejmnnoaaDoor

namespace Go.Proofs.YtbokomeejmnnoaaDoor
open Go.Conc
def Walk (P:Program) (main:Bool) (F:World → Prop) (Ev:Event → Prop):Nat → Goroutine → Goroutine → Prop
 | 0,g,g'=>g=g'
 | n+1,g,g''=>g.status=.running ∧ ∃ g' es,(∀ e ∈ es,Ev e) ∧ (∀ w,F w → stepG P main g w=.go g' w es) ∧ Walk P main F Ev n g' g''
section
variable {P:Program} {main:Bool} {F:World → Prop} {Ev:Event → Prop} {n m:Nat} {g g' g'':Goroutine}
theorem Walk.refl (g:Goroutine):Walk P main F Ev 0 g g:=rfl
theorem Walk.c (hs:g.status=.running) (h:∀ w,stepG P main g w=.go g' w) (k:Walk P main F Ev n g' g''):Walk P main F Ev (n+1) g g'':=⟨hs,g',#[],by simp,fun w _=>h w,k⟩
theorem Walk.said {es:Array Event} (hs:g.status=.running) (he:∀ e ∈ es,Ev e) (h:∀ w,F w → stepG P main g w=.go g' w es) (k:Walk P main F Ev n g' g''):Walk P main F Ev (n+1) g g'':=⟨hs,g',es,he,h,k⟩
theorem Walk.app:∀ {n:Nat} {g:Goroutine},Walk P main F Ev n g g' → Walk P main F Ev m g' g'' → Walk P main F Ev (n+m) g g''
 | 0,_,h,k=>by
  cases h
  rw [Nat.zero_add]
  exact k
 | n+1,_,⟨hs,x,es,he,hst,h⟩,k=>by
  rw [Nat.add_right_comm]
  exact ⟨hs,x,es,he,hst,h.app k⟩
theorem Walk.value {b:Frame} {a:Act} {k:List Item} {cs:List Frame} {ops:Array Oper} {i:Nat} {rest:List Nat} {o:Oper} (v:Value) (ho:ops[i]? = some o) (hw:Region.wanted o (yielded ops a.tmps)=true) (hk:b.kind ≠ .early)
  (hr:∀ w,(execOp a.eval o).run P w=.ok (.value v) w) (he:∀ w,(execOp a.eval o).events P w #[] = #[])
  (hq:Walk P main F Ev n (G (b.at (a.put o.dst v) (.inRegion ops rest :: k)) cs) g''):Walk P main F Ev (n+1) (G (b.at a (.inRegion ops (i :: rest) :: k)) cs) g'':=
 .c rfl (fun w=>by rw [stepG_value ho hw hk (hr w)];unfold listed;rw [he w,seen_none]) hq
theorem Walk.load {b:Frame} {a:Act} {k:List Item} {cs:List Frame} {ops:Array Oper} {i:Nat} {rest:List Nat} {o:Oper} {ad:Addr} (v:Value) (ho:ops[i]? = some o) (hw:Region.wanted o (yielded ops a.tmps)=true) (hk:b.kind ≠ .early)
  (hr:∀ w,F w → (execOp a.eval o).run P w=.ok (.value v) w) (he:∀ w,F w → (execOp a.eval o).events P w #[] = #[⟨.cell ad,false,false⟩]) (hE:Ev ⟨.cell ad,false,false⟩)
  (hq:Walk P main F Ev n (G (b.at (a.put o.dst v) (.inRegion ops rest :: k)) cs) g''):Walk P main F Ev (n+1) (G (b.at a (.inRegion ops (i :: rest) :: k)) cs) g'':=by
 by_cases hq':(P.funcs[b.fn]?).any (·.norace)=true
 ·
  refine .said (es:=#[]) rfl (by simp) (fun w hF=>?_) hq
  rw [stepG_value ho hw hk (hr w hF)]
  unfold listed
  rw [he w hF]
  simp [seen,hq']
 ·
  refine .said (es:=#[⟨.cell ad,false,false⟩]) rfl (fun e h=>?_) (fun w hF=>?_) hq
  ·
   rw [Array.mem_singleton] at h
   subst h
   exact hE
  ·
   rw [stepG_value ho hw hk (hr w hF)]
   unfold listed
   rw [he w hF]
   simp [seen,hq']
end
end Go.Proofs.YtbokomeejmnnoaaDoor

namespace Go.Proofs
abbrev Tryd.link:Go.Conc.Lib.WgLink:={ add:=22,done:=24,wait:=26,relMerge:=36,disable:=37,enable:=38,inBubble:=39,associate:=40,fatal:=41,uOr:=42,uAdd:=43,raceRead:=44,uLoad:=45,uStore:=46,disassociate:=47,semrelease:=48,acquire:=49,isAssociated:=50,uCas:=51,raceWrite:=52,semacquire:=53,orU64:=64,addU64:=65,loadU64:=66,storeU64:=67,casU64:=68,tWgP:=84,tUP:=86,tAssoc:=87,tWg:=64,tAU:=61,tU64:=59,tUint:=91,tU32:=62,tPU32:=92,tPAU:=118,tPU64:=120,tNoCopy:=56,tANoCopy:=57,tAlign64:=58 }
theorem Tryd.wgLib:Go.Conc.Lib.WgLib Tryd.prog Tryd.link:=
 ⟨Tryd.func22,Tryd.func24,Tryd.func26,Tryd.func36,Tryd.func37,Tryd.func38,Tryd.func39,Tryd.func40,Tryd.func41,Tryd.func42,Tryd.func43,Tryd.func44,Tryd.func45,Tryd.func46,Tryd.func47,Tryd.func48,Tryd.func49,Tryd.func50,Tryd.func51,Tryd.func52,Tryd.func53,Tryd.func64,Tryd.func65,Tryd.func66,Tryd.func67,Tryd.func68,Tryd.underlying84,Tryd.runUnderlying84,Tryd.sizeOf84,Tryd.isAgg84,Tryd.zeroValue84,Tryd.underlying86,Tryd.runUnderlying86,Tryd.sizeOf86,Tryd.isAgg86,Tryd.zeroValue86,Tryd.underlying87,Tryd.runUnderlying87,Tryd.sizeOf87,Tryd.isAgg87,Tryd.zeroValue87,Tryd.underlying64,Tryd.runUnderlying64,Tryd.sizeOf64,Tryd.isAgg64,Tryd.zeroValue64,Tryd.underlying61,Tryd.runUnderlying61,Tryd.sizeOf61,Tryd.isAgg61,Tryd.zeroValue61,Tryd.underlying59,Tryd.runUnderlying59,Tryd.sizeOf59,Tryd.isAgg59,Tryd.zeroValue59,Tryd.underlying91,Tryd.runUnderlying91,Tryd.sizeOf91,Tryd.isAgg91,Tryd.zeroValue91,Tryd.underlying62,Tryd.runUnderlying62,Tryd.sizeOf62,Tryd.isAgg62,Tryd.zeroValue62,Tryd.underlying92,Tryd.runUnderlying92,Tryd.sizeOf92,Tryd.isAgg92,Tryd.zeroValue92,Tryd.underlying118,Tryd.runUnderlying118,Tryd.sizeOf118,Tryd.isAgg118,Tryd.zeroValue118,Tryd.underlying120,Tryd.runUnderlying120,Tryd.sizeOf120,Tryd.isAgg120,Tryd.zeroValue120,Tryd.underlying0,Tryd.runUnderlying0,Tryd.sizeOf0,Tryd.isAgg0,Tryd.zeroValue0,Tryd.underlying3,Tryd.runUnderlying3,Tryd.sizeOf3,Tryd.isAgg3,Tryd.zeroValue3,Tryd.underlying4,Tryd.runUnderlying4,Tryd.sizeOf4,Tryd.isAgg4,Tryd.zeroValue4,Tryd.underlying9,Tryd.runUnderlying9,Tryd.sizeOf9,Tryd.isAgg9,Tryd.zeroValue9,Tryd.underlying20,Tryd.runUnderlying20,Tryd.sizeOf20,Tryd.isAgg20,Tryd.zeroValue20,Tryd.underlying21,Tryd.runUnderlying21,Tryd.sizeOf21,Tryd.isAgg21,Tryd.zeroValue21,(by kernel_rfl),(by kernel_rfl)⟩
end Go.Proofs

set_option maxRecDepth 100000
set_option linter.unusedSimpArgs false
namespace Go.Proofs.YtbokomeejmnnoaaDoor
open Go.Conc Go.RowKit Go.Conc.Lib Go.ConcR.Gen
def loopC (f:Func):Code:=innerC (innerC (secondC (secondC (bodyC f))))
def wkB:Frame:=baseD 23
def wkBot (P:Program):Frame:={ (default:Frame) with fn:=P.funcs.size,defers:=[],mode:=.panicking [goexitEntry] }
def wkCall (wg bn ba br:Nat):Deferred:={ target:=.fn (.func 23) #[.pointer (some ⟨wg,0,none⟩),.pointer (some ⟨bn,0,none⟩),.pointer (some ⟨ba,0,none⟩),.pointer (some ⟨br,0,none⟩)],args:=#[] }
theorem born_wk (wg bn ba br:Nat) (w:World):stepG Tryd.prog false (born Tryd.prog (wkCall wg bn ba br)) w =
  .go (G (wkB.at ⟨#[.pointer (some ⟨wg,0,none⟩),.pointer (some ⟨bn,0,none⟩),.pointer (some ⟨ba,0,none⟩),.pointer (some ⟨br,0,none⟩),undef,undef,undef,undef,undef,undef,undef,undef,undef,undef,undef,undef,undef,undef,undef,undef,undef,undef],[]⟩ [.code (bodyC Tryd.f23)]) [wkBot Tryd.prog]) w #[]:=by
 simp [born,wkCall,stepG,unwind,callDeferred,invoke,callFunc,Tryd.func23,Tryd.f23,seen,GStep.after,G,Frame.enter,Frame.at,wkB,baseD,wkBot,bodyC]
theorem wk_first {F:World → Prop} {Ev:Event → Prop} {wg bn ba br cn:Nat} (hF:∀ w,F w → w.cell? ⟨bn,0,none⟩=some (.chan (some cn))) (hE:Ev ⟨.cell ⟨bn,0,none⟩,false,false⟩) :
  Walk Tryd.prog false F Ev 13 (born Tryd.prog (wkCall wg bn ba br)) (G (wkB.at ⟨#[.pointer (some ⟨wg,0,none⟩),.pointer (some ⟨bn,0,none⟩),.pointer (some ⟨ba,0,none⟩),.pointer (some ⟨br,0,none⟩),undef,undef,undef,.chan (some cn),undef,undef,undef,undef,undef,undef,undef,undef,undef,undef,undef,undef,undef,undef],[dcall 24 #[.pointer (some ⟨wg,0,none⟩)]]⟩
   [.inRegion (opsC (firstC (loopC Tryd.f23))) [0,1],.code (secondC (loopC Tryd.f23)),.inLoop (loopC Tryd.f23),.inBlock 0]) [wkBot Tryd.prog]):=by
 refine Walk.c rfl (born_wk wg bn ba br) ?_
 simp only [bodyC,loopC,innerC,secondC,firstC,opsC,Tryd.f23,Option.getD_some]
 refine Walk.c rfl (fun _=>stepG_seq) ?_;try walk_nrm
 refine Walk.c rfl (fun _=>stepG_region) ?_;try simp only [List.size_toArray,List.length_cons,List.length_nil,Nat.reduceAdd,Nat.zero_add,List.range,List.range.loop];try walk_nrm
 refine Walk.c rfl (fun _=>(stepG_defer rfl rfl (by decide) rfl)) ?_;try walk_nrm
 refine Walk.c rfl (fun _=>stepG_region_end) ?_;try walk_nrm
 refine Walk.c rfl (fun _=>stepG_seq) ?_;try walk_nrm
 refine Walk.c rfl (fun _=>stepG_region) ?_;try simp only [List.size_toArray,List.length_cons,List.length_nil,Nat.reduceAdd,Nat.zero_add,List.range,List.range.loop];try walk_nrm
 refine Walk.load (ad:=⟨bn,0,none⟩) (.chan (some cn)) rfl rfl (by decide) (fun w h=>?_) (fun w h=>?_) hE ?_
 ·
  have h1:=hF w h
  go_simp
 ·
  have h1:=hF w h
  simp [go_sem, *]
 walk_nrm
 refine Walk.c rfl (fun _=>stepG_region_end) ?_;try walk_nrm
 refine Walk.c rfl (fun _=>stepG_block) ?_;try walk_nrm
 refine Walk.c rfl (fun _=>stepG_loop) ?_;try walk_nrm
 refine Walk.c rfl (fun _=>stepG_seq) ?_;try walk_nrm
 refine Walk.c rfl (fun _=>stepG_region) ?_;try simp only [List.size_toArray,List.length_cons,List.length_nil,Nat.reduceAdd,Nat.zero_add,List.range,List.range.loop];try walk_nrm
 exact Walk.refl _
end Go.Proofs.YtbokomeejmnnoaaDoor

namespace Go.Proofs.YtbokomeejmnnoaaDoor
abbrev answerArgs (bl bp i:Nat):Array Value:=#[.int .i64 i,.pointer (some ⟨bl,0,none⟩),.pointer (some ⟨bp,0,none⟩)]
end Go.Proofs.YtbokomeejmnnoaaDoor

namespace Go.Proofs.YtbokomeejmnnoaaDoor
open Go.RowKit
theorem sdAnswer_is (bl bp:Nat) (B off n cap i:Nat) (per:Int) (a:Option Addr) (len capi:Nat) (w:World) (R:Value → Value → World → Prop)
  (hl:w.cell? ⟨bl,0,none⟩=some (.slice (some ⟨B,off,none⟩) n cap)) (hp:w.cell? ⟨bp,0,none⟩=some (.int .i64 per)) (hi:i < n) (hc:w.cell? ⟨B,off+i,none⟩=some (.slice a len capi))
  (hD:∀ W,Below w.heap.size w W → Calls Tryd.prog 8 #[.slice a len capi,.int .i64 per] W fun e w'=>Below W.heap.size W w' ∧ ∃ x y,e=.returned (.tuple #[x,y]) ∧ R x y w') :
  Calls Tryd.prog 15 #[.int .i64 i,.pointer (some ⟨bl,0,none⟩),.pointer (some ⟨bp,0,none⟩)] w fun e w'=>Below w.heap.size w w' ∧ ∃ x y,e=.returned (.tuple #[x,y]) ∧ R x y w':=by
 have d0:decide ((i:Int) < 0)=false:=decide_eq_false (by omega)
 have d1:decide ((i:Int) < (n:Int))=true:=decide_eq_true (by omega)
 have HD:Hid (∀ W,Below w.heap.size w W → Calls Tryd.prog 8 #[.slice a len capi,.int .i64 per] W fun e w'=>Below W.heap.size W w' ∧ ∃ x y,e=.returned (.tuple #[x,y]) ∧ R x y w'):=hD
 clear hD
 go_enter Tryd.func15,Tryd.ntmps15
 go_wp2_with fail
 go_region_with (first
  | (go_simp;go_at_call 8;go_must (refine (HD.out _ ?_).mono ?_;exact (Below.refl _ _).drew;rintro e w3 ⟨hb,x,y,rfl,hR⟩;have HE:Hid (Below w.drew.heap.size w.drew w3 ∧ R x y w3):=⟨hb,hR⟩;clear hb hR))
  | fail)
 all_goals (go_wp2_with fail)
 all_goals (go_ret2;exact ⟨(below_drewN (Below.refl _ _) 1).trans (HE.out.1.mono (Nat.le_refl _)),x,y,rfl,HE.out.2⟩)
end Go.Proofs.YtbokomeejmnnoaaDoor

set_option maxRecDepth 100000
namespace Go.Proofs.YtbokomeejmnnoaaDoor
open Go.Conc
def answerFns (f:Nat):Bool:=f == 15 || delayFns f
theorem answer_fns:FnsOk Tryd.prog answerFns delayVars:=
 fns_of [15,8,17,18,19,28,29,30,31,32,33,55,56,57] (fun f hf=>by simpa [answerFns,delayFns] using hf) fun f hf=>fineAt_is (by
  have:([15,8,17,18,19,28,29,30,31,32,33,55,56,57].all (fineAt Tryd.prog answerFns delayVars))=true:=by decide +kernel
  exact List.all_eq_true.1 this f hf)
structure AnswerCall (S:Nat → Prop) (T:Nat → Nat) (ad:Nat → Addr) (bl bp B off n cap i:Nat) (a:Option Addr) (capi:Nat) (ls:List (Int × Int)) (per:Int) (w:World):Prop where
 shared:Shared (inF answerFns) S T w
 vars:∀ g,delayVars g=true → S g
 sl:S bl
 sp:S bp
 errs:Errs9 w ad
 box:w.cell? ⟨bl,0,none⟩=some (.slice (some ⟨B,off,none⟩) n cap)
 pbox:w.cell? ⟨bp,0,none⟩=some (.int .i64 per)
 num:i < n
 item:w.cell? ⟨B,off+i,none⟩=some (.slice a ls.length capi)
 lies:Lies w a ls
 cap1:ls.length ≤ capi
 cap2:capi ≤ maxLen
 link:(∃ c p,LinkFault ls per c p) ∨ LinkOk ls per
 glob:Tryd.prog.globals.size ≤ w.heap.size
 tg:∀ g,needG g=true → 0 < T g
 tl:0 < T bl
 tp:0 < T bp
 tb:off+i < T B
 ta:∀ b o,a=some ⟨b,o,none⟩ → o+ls.length * 2 ≤ T b
section
variable {S:Nat → Prop} {T:Nat → Nat} {ad:Nat → Addr} {bl bp B off n cap i:Nat} {a:Option Addr} {capi:Nat} {ls:List (Int × Int)} {per:Int} {w:World}
theorem answer_ends (h:AnswerCall S T ad bl bp B off n cap i a capi ls per w):Ends Tryd.prog 15 (answerArgs bl bp i) (cold T w) (DelayEnd per ls ad):=by
 refine ⟨fun t=>?_,fun e w' h=>?_⟩
 ·
  have c1:(taped (cold T w) t).cell? ⟨bl,0,none⟩=w.cell? ⟨bl,0,none⟩:=cold_cell _ h.tl
  have c2:(taped (cold T w) t).cell? ⟨bp,0,none⟩=w.cell? ⟨bp,0,none⟩:=cold_cell _ h.tp
  have c3:(taped (cold T w) t).cell? ⟨B,off+i,none⟩=w.cell? ⟨B,off+i,none⟩:=cold_cell _ h.tb
  refine (sdAnswer_is bl bp B off n cap i per a ls.length capi _ (fun x y w'=>DelayEnd per ls ad (.returned (.tuple #[x,y])) w') (c1.trans h.box) (c2.trans h.pbox) h.num (c3.trans h.item) fun W hW=>?_).mono ?_
  ·
   have he:=(errs9_cold h.errs h.tg t).below hW
   have hl:=(lies_cold h.lies h.ta t).below hW
   rcases h.link with ⟨c,p,hk⟩ | hk
   ·
    refine (delay_bad a capi ls per W ad he hl h.cap1 h.cap2 c p hk).mono ?_
    rintro e w' ⟨ty,v,rfl,h2,hb⟩
    exact ⟨hb,_,_,rfl,he.below hb,.inl ⟨c,p,ty,v,hk,rfl,h2⟩⟩
   ·
    rcases Int.lt_or_le 1000 (leastR ls * per) with hn | hn
    ·
     refine (delay_none a capi ls per W ad he hl h.cap1 h.cap2 hk hn).mono ?_
     rintro e w' ⟨rfl,hb⟩
     exact ⟨hb,_,_,rfl,he.below hb,.inr (.inl ⟨hk,hn,rfl⟩)⟩
    ·
     refine (delay_ok a capi ls per W hl h.cap1 h.cap2 hk hn).mono ?_
     rintro e w' ⟨d,rfl,h2,hb⟩
     exact ⟨hb,_,_,rfl,he.below hb,.inr (.inr ⟨hk,hn,d,rfl,h2⟩)⟩
  ·
   rintro e w' ⟨-,x,y,rfl,hR⟩
   exact hR
 ·
  rcases h.2 with ⟨c,p,ty,v,-,rfl,-⟩ | ⟨-,-,rfl⟩ | ⟨-,-,d,rfl,-⟩
  · exact ⟨_,rfl⟩
  · exact ⟨_,rfl⟩
  · exact ⟨_,rfl⟩
theorem AnswerCall.begin (h:AnswerCall S T ad bl bp B off n cap i a capi ls per w) (base:List Frame) :
  Along Tryd.prog answerFns delayVars w.heap.size (start Tryd.prog 15 (answerArgs bl bp i) (cold T w)) base (start Tryd.prog 15 (answerArgs bl bp i) (cold T w)) (Ren.on S) (Frame.enter Tryd.prog 15 (answerArgs bl bp i) .normal) base w:=by
 refine Along.begin answer_fns h.shared h.vars (by decide) ⟨_,_,Tryd.func15,rfl⟩ (fun j x hx=>?_) base
 match j,hx with
 | 0,hx=>cases hx;exact VR.int _ _
 | 1,hx=>cases hx;exact VR.ptr ⟨⟨rfl,h.sl⟩,rfl,rfl⟩
 | 2,hx=>cases hx;exact VR.ptr ⟨⟨rfl,h.sp⟩,rfl,rfl⟩
 | j+3,hx=>simp at hx
end
end Go.Proofs.YtbokomeejmnnoaaDoor
