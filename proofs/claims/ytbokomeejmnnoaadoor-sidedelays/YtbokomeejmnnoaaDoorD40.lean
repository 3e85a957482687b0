/- Own facts, put together: no statement of its own. -/
import Derived.Test.YtbokomeejmnnoaaDoorD39
import Derived.Test.YtbokomeejmnnoaaDoorD04

set_option maxRecDepth 100000
set_option linter.unusedSimpArgs false
namespace Go.Proofs.YtbokomeejmnnoaaDoor
open Go.Conc Go.RowKit Go.Conc.Lib Go.ConcR.Gen
open Go.ConcR (KK WgAt stA smA rd wr mk)
def dlAct0 (la:Option Addr) (n cap:Nat) (per wks:Int):Act:=⟨#[.slice la n cap,.int .i64 per,.int .i64 wks,undef,undef,undef,undef,undef,undef,undef,undef,undef,undef,undef,undef,undef,undef,undef,undef,undef,undef,undef,undef],[]⟩
def dlAct1 (la:Option Addr) (n cap:Nat) (per wks:Int) (bl:Nat):Act:=⟨#[.slice la n cap,.int .i64 per,.int .i64 wks,.pointer (some ⟨bl,0,none⟩),.pointer (some ⟨bl+1,0,none⟩),undef,.slice none 0 0,.nilIface,undef,undef,undef,undef,undef,undef,undef,undef,undef,undef,undef,undef,undef,undef,undef],[]⟩
def dlAct2 (la:Option Addr) (n cap:Nat) (per wks:Int) (bl:Nat):Act:=⟨#[.slice la n cap,.int .i64 per,.int .i64 wks,.pointer (some ⟨bl,0,none⟩),.pointer (some ⟨bl+1,0,none⟩),undef,.slice none 0 0,.nilIface,.nilIface,.slice la n cap,.int .i64 n,.int .i64 wks,.nilIface,.nilIface,.bool false,undef,undef,undef,undef,undef,undef,undef,undef],[]⟩
def dlTop (f:Func):Code:=firstC (bodyC f)
def dlAsk (f:Func):Code:=firstC (secondC (bodyC f))
section
variable {la:Option Addr} {n cap:Nat} {per wks:Int}
theorem dl_top (v:World):(dlTop Tryd.f6).wp Tryd.prog (fun e a v'=>e=.normal ∧ a=dlAct1 la n cap per wks v.heap.size ∧ ∃ t1 t2,v'=(v.alloc (.cells #[.slice la n cap] t1)).alloc (.cells #[.int .i64 per] t2)) (dlAct0 la n cap per wks) v:=by
 simp only [dlTop,dlAct0,dlAct1,bodyC,firstC,secondC,Tryd.f6,Option.getD_some]
 go_wp2_with fail
 exact ⟨_,_,rfl⟩
theorem dl_ask (bl:Nat) (ad:Nat → Addr) (v:World) (he:Errs9 v ad) (hb:v.cell? ⟨bl,0,none⟩=some (.slice la n cap)):(dlAsk Tryd.f6).wp Tryd.prog (fun e a v'=>v'=v ∧ ((e=.ret ∧ a.defers=[] ∧ a.tmps.getD 6 undef=.slice none 0 0 ∧ ∃ k:Nat,k < 9 ∧ askCode n wks=k+1 ∧ a.tmps.getD 7 undef=.iface 139 (.pointer (some (ad k)))) ∨ (e=.normal ∧ askCode n wks=0 ∧ a=dlAct2 la n cap per wks bl))) (dlAct1 la n cap per wks bl) v:=by
 have HC:Hid (Calls Tryd.prog 13 #[.int .i64 n,.int .i64 wks] v (SdCheckEnd n wks ad v)):=sideCheck_is n wks v ad he
 clear he
 simp only [dlAsk,dlAct1,dlAct2,bodyC,firstC,secondC,Tryd.f6,Option.getD_some]
 go_wp2_with (refine HC.out.mono ?_)
 rintro e v1 ⟨rfl,⟨hk,rfl⟩ | ⟨hk,rfl⟩ | ⟨hk,rfl⟩⟩
 ·
  have HK:Hid (askCode n wks=3):=hk
  clear hk
  go_wp2_with fail
  exact ⟨2,by omega,by rw [HK.out];rfl,rfl⟩
 ·
  have HK:Hid (askCode n wks=2):=hk
  clear hk
  go_wp2_with fail
  exact ⟨1,by omega,by rw [HK.out];rfl,rfl⟩
 ·
  have HK:Hid (askCode n wks=0):=hk
  clear hk
  go_wp2_with fail
  exact HK.out
end
structure DlArgs (H R:Nat → Prop) (T:Nat → Nat) (n:Nat) (la:Option Addr) (cap:Nat) (l:OeL) (ad:Nat → Addr) (per:Int) (w:World):Prop where
 errs:Errs9 w ad
 hid:HidWg H w
 globs:∀ b,b < Tryd.prog.globals.size → b < w.heap.size ∧ ¬ H b
 rs:∀ b,R b → b < w.heap.size ∧ ¬ H b
 shared:Shared (inF answerFns) R T w
 vars:∀ g,delayVars g=true → R g
 tg:∀ g,needG g=true → 0 < T g
 place:0 < n → la=some ⟨l.B,l.off,none⟩ ∧ R l.B
 item:∀ i,i < n → w.cell? ⟨l.B,l.off+i,none⟩=some (.slice (l.a i) (l.ls i).length (l.capi i))
 tb:∀ i,i < n → l.off+i < T l.B
 lies:∀ i,i < n → Lies w (l.a i) (l.ls i)
 cap1:∀ i,i < n → (l.ls i).length ≤ l.capi i
 cap2:∀ i,i < n → l.capi i ≤ maxLen
 link:∀ i,i < n → (∃ c p,LinkFault (l.ls i) per c p) ∨ LinkOk (l.ls i) per
 ta:∀ i,i < n → ∀ b o,l.a i=some ⟨b,o,none⟩ → o+(l.ls i).length * 2 ≤ T b
def DlEnd (per:Int) (ls:Nat → List (Int × Int)) (n:Nat) (wks:Int) (x y:Value) (w:World):Prop:=
 (askCode n wks ≠ 0 ∧ x=.slice none 0 0 ∧ ErrIs w y (askCode n wks) (-1)) ∨ (askCode n wks=0 ∧ OfEnd per ls n x y w)
theorem need_lt {g:Nat} (h:needG g=true):g < Tryd.prog.globals.size:=by
 simp only [needG,delayVars,Bool.or_eq_true,beq_iff_eq,List.contains_eq_mem,List.mem_cons,List.not_mem_nil,or_false,decide_eq_true_eq] at h
 rcases h with rfl | rfl | rfl | rfl | rfl | rfl | rfl | rfl | rfl | rfl <;> decide
theorem Lies.laterW {w w1:World} {a:Option Addr} {ls:List (Int × Int)} (h:Lies w a ls) (hl:LaterW w w1):Lies w1 a ls:=by
 rcases h with h | ⟨b,off,h1,h2,h3⟩
 · exact .inl h
 · exact .inr ⟨b,off,h1,Nat.lt_of_lt_of_le h2 hl.size,fun i x y hx=>⟨hl.cell (h3 i x y hx).1,hl.cell (h3 i x y hx).2⟩⟩
theorem DlArgs.ready {H R:Nat → Prop} {T:Nat → Nat} {n:Nat} {la:Option Addr} {cap:Nat} {l:OeL} {ad:Nat → Addr} {per:Int} {w w1:World} {t1 t2:TypeId} (h:DlArgs H R T n la cap l ad per w) (hl:LaterW w w1) (hn:n ≤ 100)
  (k1:w1.heap[w.heap.size]? = some (.cells #[.slice la n cap] t1 (0,0))) (k2:w1.heap[w.heap.size+1]? = some (.cells #[.int .i64 per] t2 (0,0))) :
  OeArgs H (fun b=>R b ∨ b=w.heap.size ∨ b=w.heap.size+1) (fun b=>if b=w.heap.size ∨ b=w.heap.size+1 then 1 else T b) n w.heap.size (w.heap.size+1) { l with cap:=cap } ad per w1:=by
 have hlt:∀ b,R b → b < w.heap.size:=fun b hb=>(h.rs b hb).1
 have hT:∀ b,b < w.heap.size → (if b=w.heap.size ∨ b=w.heap.size+1 then 1 else T b)=T b:=fun b hb=>by rw [if_neg (by omega)]
 have hle:(Ren.on R).Le (Ren.on fun b=>R b ∨ b=w.heap.size ∨ b=w.heap.size+1):=fun a b hab=>⟨hab.1,.inl hab.2⟩
 refine ⟨hn,h.errs.laterW hl,h.hid.later hl,fun b hb=>⟨Nat.lt_of_lt_of_le (h.globs b hb).1 hl.size,(h.globs b hb).2⟩,fun i hi=>?_,?_⟩
 ·
  obtain ⟨rfl,hB⟩:=h.place (by omega)
  refine ⟨fun a ha=>?_,fun g hg=>.inl (h.vars g hg),.inr (.inl rfl),.inr (.inr rfl),h.errs.laterW hl,by simp [World.cell?,k1],by simp [World.cell?,k2],hi,hl.cell (h.item i hi),(h.lies i hi).laterW hl,h.cap1 i hi,h.cap2 i hi,h.link i hi,?_,fun g hg=>?_,?_,?_,?_,fun b o hbo=>?_⟩
  ·
   rcases ha with ha | rfl | rfl
   ·
    obtain ⟨c,t,fz,e1,e2⟩:=h.shared a ha
    exact ⟨c,t,fz,(hl.old a (hlt a ha)).trans e1,fun j x hj hx=>(e2 j x (by rw [hT a (hlt a ha)] at hj;exact hj) hx).mono hle⟩
   ·
    refine ⟨_,_,_,k1,fun j x hj hx=>?_⟩
    cases j with
    | zero=>
     cases hx
     exact VR.make ⟨some ⟨l.B,l.off,none⟩,rfl,⟨rfl,.inl hB⟩,rfl,rfl⟩
    | succ j=>simp at hx
   ·
    refine ⟨_,_,_,k2,fun j x hj hx=>?_⟩
    cases j with
    | zero=>
     cases hx
     exact VR.int _ _
    | succ j=>simp at hx
  ·
   refine Nat.le_of_not_lt fun hh=>?_
   have:=(h.globs w1.heap.size hh).1
   have:=hl.size
   omega
  ·
   rw [hT g (h.globs g (need_lt hg)).1]
   exact h.tg g hg
  ·
   rw [if_pos (.inl rfl)]
   omega
  ·
   rw [if_pos (.inr rfl)]
   omega
  ·
   rw [hT _ (hlt _ hB)]
   exact h.tb i hi
  ·
   have hb:b < w.heap.size:=by
    have hc:=h.item i hi
    obtain ⟨c,t,fz,e1,e2⟩:=h.shared l.B hB
    simp only [World.cell?,e1] at hc
    obtain ⟨x,hx,hy⟩:=(e2 (l.off+i) _ (h.tb i hi) (by simpa using hc)).out
    cases hx
    have hbo:l.a i=some ⟨b,o,none⟩:=hbo
    rw [hbo] at hy
    exact hlt b hy.1.2
   rw [hT b hb]
   exact h.ta i hi b o hbo
 ·
  rintro b (hb | rfl | rfl)
  · exact ⟨Nat.lt_of_lt_of_le (hlt b hb) hl.size,(h.rs b hb).2⟩
  · exact ⟨get_zero k1,fun hh=>by have:=h.hid.lt hh;omega⟩
  · exact ⟨get_zero k2,fun hh=>by have:=h.hid.lt hh;omega⟩
end Go.Proofs.YtbokomeejmnnoaaDoor

set_option maxRecDepth 100000
set_option linter.unusedSimpArgs false
namespace Go.Proofs.YtbokomeejmnnoaaDoor
open Go.Conc Go.RowKit Go.Conc.Lib Go.ConcR.Gen
open Go.ConcR (KK WgAt stA smA rd wr mk)
theorem ask_none {n wks:Int} (h:askCode n wks=0):1 ≤ wks ∧ wks ≤ 16 ∧ n ≤ 100:=by
 unfold askCode at h
 split at h
 · omega
 ·
  split at h
  · omega
  · omega
def dlEnter (f:Func) (la:Option Addr) (n cap:Nat) (per wks:Int) (cs:List Frame):Goroutine:=G ((base 6).at (dlAct0 la n cap per wks) [.code (bodyC f)]) cs
def TopQ (H:Nat → Prop) (la:Option Addr) (n cap:Nat) (per wks:Int) (w:World) (e:Exit) (a:Act) (v':World):Prop:=e=.normal ∧ ∃ v,MaskT H v w ∧ LaterW v v' ∧ a=dlAct1 la n cap per wks w.heap.size ∧ ∃ t1 t2,v'.heap[w.heap.size]? = some (.cells #[.slice la n cap] t1 (0,0)) ∧ v'.heap[w.heap.size+1]? = some (.cells #[.int .i64 per] t2 (0,0))
def AskQ (H:Nat → Prop) (ad:Nat → Addr) (la:Option Addr) (n cap:Nat) (per wks:Int) (bl:Nat) (w:World) (e:Exit) (a:Act) (v':World):Prop:=(∃ v,MaskT H v w ∧ LaterW v v') ∧
 ((e=.ret ∧ a.defers=[] ∧ a.tmps.getD 6 undef=.slice none 0 0 ∧ ∃ k:Nat,k < 9 ∧ askCode n wks=k+1 ∧ a.tmps.getD 7 undef=.iface 139 (.pointer (some (ad k)))) ∨ (e=.normal ∧ askCode n wks=0 ∧ a=dlAct2 la n cap per wks bl))
section
variable {H R:Nat → Prop} {T:Nat → Nat} {l:OeL} {ad:Nat → Addr} {per:Int} {cs:List Frame} {w:World} {Post:Value → World → Prop} {n cap:Nat} {wks:Int} {la:Option Addr}
theorem delays_fin (h:DlArgs H R T n la cap l ad per w) {b₀:Frame} {a₀:Act} {ops:Array Oper} {i:Nat} {rest:List Nat} {k:List Item}
  (hend:∀ (H':Nat → Prop) x y w',LaterW w w' → HidWg H' w' → (∀ b,H' b → H b ∨ w.heap.size ≤ b) → DlEnd per l.ls n wks x y w' → FinA Tryd.prog Post H' (G (b₀.at (a₀.put ((ops[i]?).bind (·.dst)) (.tuple #[x,y])) (.inRegion ops rest :: k)) cs) w') :
  FinA Tryd.prog Post H (dlEnter Tryd.f6 la n cap per wks (b₀.at a₀ (.inRegion ops (i :: rest) :: k) :: cs)) w:=by
 unfold dlEnter
 have eb:bodyC Tryd.f6=.seq (dlTop Tryd.f6) (.seq (dlAsk Tryd.f6) (.seq (firstC (secondC (secondC (bodyC Tryd.f6)))) .ret)):=rfl
 rw [eb]
 refine FinA.c rfl (fun _=>stepG_seq) ?_
 refine FinA.wp (p:=sdPlan) sd_fns (Q:=TopQ H la n cap per wks w) ⟨⟨_,Tryd.func6⟩,fun s hs=>(kf_none rfl rfl hs).elim,rfl,rfl⟩ (by decide +kernel) h.hid.ok (fun v hv=>?_) (fun e a v' hq=>.inl hq.1) (fun e a v' t ⟨q1,v,q2,q3,q4⟩=>⟨q1,v,q2,q3.taped t,q4⟩) ?_ (fun a' todo v' w' hq=>by cases hq.1)
 ·
  refine Go.Code.wp_mono ?_ (dl_top v)
  rintro e a v' ⟨q1,q2,t1,t2,rfl⟩
  rw [← hv.size] at q2
  have hs1:(v.alloc (.cells #[.slice la n cap] t1)).heap.size=w.heap.size+1:=by rw [alloc_size,hv.size]
  refine ⟨q1,v,hv,LaterW.ofBelow (((Below.refl _ _).alloc (Nat.le_refl _) _).alloc (by rw [alloc_size];omega) _),q2,t1,t2,?_,?_⟩
  ·
   rw [alloc_old _ _ (by omega),hv.size]
   exact alloc_at _ _
  ·
   rw [← hs1]
   exact alloc_at _ _
 rintro a' v' w1 ⟨-,v,hv,hlv,rfl,t1,t2,k1,k2⟩ hm1 hp1
 have hl1:LaterW w w1:=LaterW.of' hv hm1 hp1 hlv
 have j1:=hm1.rowBack k1 fun hh=>by have:=h.hid.lt hh;omega
 have j2:=hm1.rowBack k2 fun hh=>by have:=h.hid.lt hh;omega
 clear hv hlv k1 k2 hm1 hp1 v v'
 have hid1:=h.hid.later hl1
 have he1:=h.errs.laterW hl1
 have jc:w1.cell? ⟨w.heap.size,0,none⟩=some (.slice la n cap):=by simp [World.cell?,j1]
 refine FinA.c rfl (fun _=>stepG_seq) ?_
 refine FinA.wp (p:=sdPlan) sd_fns (Q:=AskQ H ad la n cap per wks w.heap.size w1) ⟨⟨_,Tryd.func6⟩,fun s hs=>(kf_none rfl rfl hs).elim,rfl,rfl⟩ (by decide +kernel) hid1.ok (fun v hv=>?_) (fun e a v' hq=>hq.2.elim (fun q=>.inr q.1) fun q=>.inl q.1) (fun e a v' t ⟨⟨v,q2,q3⟩,q4⟩=>⟨⟨v,q2,q3.taped t⟩,q4⟩) ?_ ?_
 ·
  refine Go.Code.wp_mono ?_ (dl_ask w.heap.size ad v (he1.mask hid1 hv) (hid1.cell hv jc (by simp) (by simp)))
  rintro e a v' ⟨rfl,q⟩
  exact ⟨⟨v',hv,LaterW.refl _⟩,q⟩
 ·
  rintro a' v' w2 ⟨⟨v,hv,hlv⟩,⟨q1,-⟩ | ⟨-,hask,rfl⟩⟩ hm2 hp2
  · cases q1
  have hl2:LaterW w1 w2:=LaterW.of' hv hm2 hp2 hlv
  clear hv hlv hm2 hp2 v v'
  have hl02:=hl1.trans hl2
  have hid2:=h.hid.later hl02
  obtain ⟨hw1,hw2,hn⟩:=ask_none hask
  have jc2:=hl2.cell jc
  have hready:=h.ready hl02 (by omega) ((hl2.old _ (get_zero j1)).trans j1) ((hl2.old _ (get_zero j2)).trans j2)
  unfold dlAct2
  simp only [bodyC,firstC,secondC,Tryd.f6,Option.getD_some]
  refine FinA.c rfl (fun _=>stepG_seq) ?_
  refine FinA.c rfl (fun _=>stepG_region) ?_
  try walk_nrm
  refine FinA.op (p:=sdPlan) sd_fns (Q:=fun x v'=>x=.slice la n cap ∧ ∃ v,MaskT H v w2 ∧ v'=v) rfl rfl (by decide) (fun s hs=>(kf_none rfl rfl hs).elim) rfl hid2.ok (fun v hv=>?_) ?_
  ·
   refine ⟨.slice la n cap,v,?_,rfl,v,hv,rfl⟩
   have:=hid2.cell hv jc2 (by simp) (by simp)
   go_simp
  rintro x v' w3 ⟨rfl,v,hv,rfl⟩ hm3 hp3
  have hl3:LaterW w2 w3:=LaterW.of' hv hm3 hp3 (LaterW.refl _)
  clear hv hm3 hp3
  try walk_nrm
  refine FinA.value (.int .i64 n) rfl rfl (by decide) (fun _=>by go_simp) (fun _=>by simp [go_sem]) ?_;try walk_nrm
  refine FinA.value (.int .i64 wks) rfl rfl (by decide) (fun _=>by go_simp) (fun _=>by simp [go_sem]) ?_;try walk_nrm
  refine FinA.value (anV w.heap.size (w.heap.size+1)) rfl rfl (by decide) (fun _=>by go_simp;rfl) (fun _=>by simp [go_sem]) ?_;try walk_nrm
  refine FinA.call rfl rfl (by decide) rfl Tryd.func14 (by decide) rfl ?_
  walk_nrmf Tryd.ntmps14
  show FinA Tryd.prog Post H (oeEnter Tryd.f14 n wks (anV w.heap.size (w.heap.size+1)) _) w3
  refine ofEach_fin (hready.later hl3) ⟨hw1,hw2⟩ fun H' x y w4 hl4 hh4 hH4 hof=>?_
  walk_nrm
  refine FinA.value x rfl rfl (by decide) (fun _=>by go_simp) (fun _=>by simp [go_sem]) ?_;try walk_nrm
  refine FinA.value y rfl rfl (by decide) (fun _=>by go_simp) (fun _=>by simp [go_sem]) ?_;try walk_nrm
  refine FinA.value x rfl rfl (by decide) (fun _=>by go_simp) (fun _=>by simp [go_sem]) ?_;try walk_nrm
  refine FinA.value y rfl rfl (by decide) (fun _=>by go_simp) (fun _=>by simp [go_sem]) ?_;try walk_nrm
  refine FinA.c rfl (fun _=>stepG_region_end) ?_
  refine FinA.c rfl (fun _=>stepG_ret') ?_
  refine FinA.leave (fn:=Tryd.f6) (v:=.tuple #[x,y]) rfl rfl Tryd.func6 (fun _=>by simp [results,Tryd.f6]) (fun _=>by simp [results,Tryd.f6]) ?_
  have hl:=(hl02.trans hl3).trans hl4
  exact hend H' x y w4 hl hh4 (fun b hb=>or_map id (fun hx=>Nat.le_trans (hl02.trans hl3).size hx) (hH4 b hb)) (.inr ⟨hask,hof⟩)
 ·
  rintro a' todo v' w2 ⟨⟨v,hv,hlv⟩,⟨-,q2,q3,kk,q4,q5,q6⟩ | ⟨q1,-⟩⟩ hm2 hp2
  ·
   have hl2:LaterW w1 w2:=LaterW.of' hv hm2 hp2 hlv
   have hl02:=hl1.trans hl2
   refine FinA.leave (fn:=Tryd.f6) (v:=.tuple #[.slice none 0 0,.iface 139 (.pointer (some (ad kk)))]) rfl q2 Tryd.func6 (fun _=>?_) (fun _=>by simp [results,Tryd.f6]) ?_
   ·
    simp only [Array.getD_eq_getD_getElem?] at q3 q6
    simp [results,Tryd.f6,q3,q6]
   ·
    refine hend H _ _ w2 hl02 (h.hid.later hl02) (fun b hb=>.inl hb) (.inl ⟨by omega,rfl,?_⟩)
    rw [q5]
    exact errIs_sent (h.errs.laterW hl02) kk q4
  · cases q1
end
end Go.Proofs.YtbokomeejmnnoaaDoor

set_option maxRecDepth 100000
set_option linter.unusedSimpArgs false
namespace Go.Proofs.YtbokomeejmnnoaaDoor
open Go.Conc Go.RowKit
structure ErrsW (s0:Nat) (w:World) (ad:Nat → Addr):Prop where
 errs:ErrsB w ad
 one:∀ g,needG g=true → ∃ x t,w.heap[g]? = some (.cells #[x] t (0,0))
 out:∀ k,k < 9 → needG (ad k).block=false
 low:∀ k,k < 9 → (ad k).block < s0
 globs:Tryd.prog.globals.size ≤ s0
 size:s0 ≤ w.heap.size
theorem ErrsB.laterW {w w1:World} {ad:Nat → Addr} (h:ErrsB w ad) (hl:LaterW w w1):ErrsB w1 ad:=by
 refine { h.toErrs9.laterW hl with ne:=h.ne,blk:=fun i hi=>?_ }
 obtain ⟨c,t,h1⟩:=h.blk i hi
 exact ⟨c,t,(hl.old _ (get_zero h1)).trans h1⟩
theorem ErrsW.laterW {s0:Nat} {w w1:World} {ad:Nat → Addr} (h:ErrsW s0 w ad) (hl:LaterW w w1):ErrsW s0 w1 ad:=by
 refine ⟨h.errs.laterW hl,fun g hg=>?_,h.out,h.low,h.globs,Nat.le_trans h.size hl.size⟩
 obtain ⟨x,t,h1⟩:=h.one g hg
 exact ⟨x,t,(hl.old _ (get_zero h1)).trans h1⟩
def most (f:Nat → Nat):Nat → Nat
 | 0=>0
 | n+1=>max (f n) (most f n)
theorem le_most {f:Nat → Nat}:∀ {n i:Nat},i < n → f i ≤ most f n
 | n+1,i,h=>by
  rcases Nat.lt_or_ge i n with hi | hi
  · exact Nat.le_trans (le_most hi) (Nat.le_max_right _ _)
  ·
   obtain rfl:i=n:=by omega
   exact Nat.le_max_left _ _
theorem most_at {f:Nat → Nat}:∀ {n j:Nat},j < most f n → ∃ i,i < n ∧ j < f i
 | 0,j,h=>by cases h
 | n+1,j,h=>by
  simp only [most] at h
  by_cases hj:j < f n
  · exact ⟨n,Nat.lt_succ_self _,hj⟩
  ·
   obtain ⟨i,h1,h2⟩:=most_at (f:=f) (n:=n) (j:=j) (by omega)
   exact ⟨i,by omega,h2⟩
def blkOf:Value → Option Nat
 | .slice (some a) _ _=>some a.block
 | _=>none
def addrOf:Value → Option Addr
 | .slice a _ _=>a
 | _=>none
def capOf:Value → Nat
 | .slice _ _ c=>c
 | _=>0
structure OwnCs (s0:Nat) (w:World) (la:Option Addr) (n cap:Nat) (vs:List Value) (lss:Nat → List (Int × Int)):Prop where
 list:w.ownsRow s0 24 1 (.slice la n cap) n vs
 each:∀ i v,vs[i]? = some v → OwnL w s0 v (lss i)
def lOf (la:Option Addr) (cap:Nat) (vs:List Value) (lss:Nat → List (Int × Int)):OeL:=⟨(la.map (·.block)).getD 0,0,cap,fun i=>addrOf (vs.getD i undef),fun i=>capOf (vs.getD i undef),lss⟩
def tOf (s0:Nat) (la:Option Addr) (n:Nat) (vs:List Value) (lss:Nat → List (Int × Int)) (b:Nat):Nat:=if b < s0 then (if needG b=true then 1 else 0) else if (la.map (·.block))=some b then n else most (fun i=>if blkOf (vs.getD i undef)=some b then (lss i).length * 2 else 0) n
def rOf (la:Option Addr) (n:Nat) (vs:List Value) (ad:Nat → Addr) (b:Nat):Prop:=delayVars b=true ∨ (∃ k,k < 9 ∧ b=(ad k).block) ∨ (la.map (·.block))=some b ∨ ∃ i,i < n ∧ blkOf (vs.getD i undef)=some b
theorem ownL_form {w:World} {s0:Nat} {v:Value} {ls:List (Int × Int)} (h:OwnL w s0 v ls):(v=.slice none 0 0 ∧ ls=[]) ∨ ∃ g cap cur,v=.slice (some ⟨g,0,none⟩) ls.length cap ∧ s0 ≤ g ∧ w.heap[g]? = some (.cells cur 42 (0,0)) ∧ ls.length ≤ cap ∧ cap ≤ maxLen ∧ cur.size=cap * 2 ∧ cur.toList.take (ls.length * 2)=cellsL ls:=by
 obtain ⟨h1,⟨h2,h3⟩ | h2⟩:=h
 · exact .inl ⟨h2,List.eq_nil_of_length_eq_zero h3⟩
 · exact .inr h2
end Go.Proofs.YtbokomeejmnnoaaDoor

set_option maxRecDepth 100000
set_option linter.unusedSimpArgs false
namespace Go.Proofs.YtbokomeejmnnoaaDoor
open Go.Conc Go.RowKit
open Go.ConcR (WgAt)
theorem cellsL_int {ls:List (Int × Int)} {j:Nat} {x:Value} (h:(cellsL ls)[j]? = some x):∃ n,x=.int .i64 n:=by
 have hm:=List.mem_of_getElem? h
 simp only [cellsL,List.mem_flatMap] at hm
 obtain ⟨p,-,hp⟩:=hm
 simp at hp
 rcases hp with rfl | rfl <;> exact ⟨_,rfl⟩
theorem lies_own {w:World} {s0:Nat} {v:Value} {ls:List (Int × Int)} (h:OwnL w s0 v ls):Lies w (addrOf v) ls ∧ v=.slice (addrOf v) ls.length (capOf v) ∧ ls.length ≤ capOf v ∧ capOf v ≤ maxLen:=by
 obtain ⟨a,cap,rfl,h1,h2,h3⟩:=h.open
 exact ⟨h3,rfl,h1,h2⟩
theorem own_args {H:Nat → Prop} {s0 n cap:Nat} {w:World} {ad:Nat → Addr} {la:Option Addr} {vs:List Value} {lss:Nat → List (Int × Int)} {per:Int} (he:ErrsW s0 w ad) (hh:HidWg H w) (hs:∀ b,H b → s0 ≤ b) (ho:OwnCs s0 w la n cap vs lss) :
  DlArgs H (rOf la n vs ad) (tOf s0 la n vs lss) n la cap (lOf la cap vs lss) ad per w:=by
 have hlen:vs.length=n:=by simpa using ho.list.1
 have hget:∀ i,i < n → vs[i]? = some (vs.getD i undef):=fun i hi=>by
  rw [List.getElem?_eq_getElem (by omega)]
  simp [List.getD_eq_getElem?_getD,List.getElem?_eq_getElem (show i < vs.length by omega)]
 have hown:∀ i,i < n → OwnL w s0 (vs.getD i undef) (lss i):=fun i hi=>ho.each i _ (hget i hi)
 have hneed:∀ g,needG g=true → g < s0:=fun g hg=>Nat.lt_of_lt_of_le (need_lt hg) he.globs
 have hdv:∀ g,delayVars g=true → needG g=true:=fun g hg=>by simp [needG,hg]
 -- the list's row
 have hrow:∀ B,(la.map (·.block))=some B → la=some ⟨B,0,none⟩ ∧ s0 ≤ B ∧ ∃ cur,w.heap[B]? = some (.cells cur 24 (0,0)) ∧ cur.toList.take n=vs:=fun B hB=>by
  obtain ⟨-,⟨h1,-⟩ | ⟨g,cap',cur,h1,h2,h3,-,-,-,h4⟩⟩:=ho.list
  ·
   cases h1
   cases hB
  ·
   cases h1
   cases hB
   exact ⟨rfl,h2,cur,h3,by simpa using h4⟩
 have hblk:∀ i b,i < n → blkOf (vs.getD i undef)=some b → s0 ≤ b ∧ ∃ cur,w.heap[b]? = some (.cells cur 42 (0,0)) ∧ cur.toList.take ((lss i).length * 2)=cellsL (lss i):=fun i b hi hb=>by
  rcases ownL_form (hown i hi) with ⟨h1,-⟩ | ⟨g,c,cur,h1,h2,h3,-,-,-,h4⟩
  ·
   rw [h1] at hb
   cases hb
  ·
   rw [h1] at hb
   cases hb
   exact ⟨h2,cur,h3,h4⟩
 have hnoH:∀ b c t,w.heap[b]? = some (.cells c t (0,0)) → t ≠ 64 → ¬ H b:=fun b c t h1 h2 hb=>by
  obtain ⟨st,sm,hx⟩:=hh b hb
  have hx:w.heap[b]? = some (.cells #[.int .u64 st,.int .u32 sm] 64 (0,0)):=hx
  rw [h1] at hx
  injection hx with hx
  injection hx with _ hx _
  exact h2 hx
 have hlowH:∀ b,b < s0 → ¬ H b:=fun b hb hx=>by
  have:=hs b hx
  omega
 have hsz:=he.size
 have hT1:∀ b,s0 ≤ b → (la.map (·.block))=some b → tOf s0 la n vs lss b=n:=fun b h1 h2=>by
  unfold tOf
  rw [if_neg (by omega),if_pos h2]
 have hT2:∀ b,s0 ≤ b → (la.map (·.block)) ≠ some b → tOf s0 la n vs lss b=most (fun i=>if blkOf (vs.getD i undef)=some b then (lss i).length * 2 else 0) n:=fun b h1 h2=>by
  unfold tOf
  rw [if_neg (by omega),if_neg h2]
 have hpart:∀ i b,i < n → blkOf (vs.getD i undef)=some b → (la.map (·.block)) ≠ some b:=fun i b hi hb hB=>by
  obtain ⟨-,cur,h1,-⟩:=hblk i b hi hb
  obtain ⟨-,-,cur',h2,-⟩:=hrow b hB
  rw [h1] at h2
  injection h2 with h2
  injection h2 with _ h2 _
  exact absurd h2 (by decide)
 have hcell:∀ {cur:Array Value} {m j:Nat} {xs:List Value},cur.toList.take m=xs → j < m → ∀ x,cur[j]? = some x → xs[j]? = some x:=fun h1 h2 x hx=>by
  rw [← h1,List.getElem?_take,if_pos h2]
  simpa using hx
 refine ⟨he.errs.toErrs9,hh,fun b hb=>⟨Nat.lt_of_lt_of_le hb (Nat.le_trans he.globs he.size),hlowH b (Nat.lt_of_lt_of_le hb he.globs)⟩,fun b hb=>?_,fun b hb=>?_,fun g hg=>.inl hg,fun g hg=>?_,fun hn=>?_,fun i hi=>?_,fun i hi=>?_,fun i hi=>(lies_own (hown i hi)).1,fun i hi=>(lies_own (hown i hi)).2.2.1,fun i hi=>(lies_own (hown i hi)).2.2.2,fun i _=>(link_is (lss i) per).symm,fun i hi b o hbo=>?_⟩
 ·
  rcases hb with hb | ⟨k,hk,rfl⟩ | hb | ⟨i,hi,hb⟩
  ·
   have:=hneed b (hdv b hb)
   exact ⟨by omega,hlowH b this⟩
  ·
   have:=he.low k hk
   exact ⟨by omega,hlowH _ this⟩
  ·
   obtain ⟨-,-,cur,h1,-⟩:=hrow b hb
   exact ⟨get_zero h1,hnoH b _ _ h1 (by decide)⟩
  ·
   obtain ⟨-,cur,h1,-⟩:=hblk i b hi hb
   exact ⟨get_zero h1,hnoH b _ _ h1 (by decide)⟩
 ·
  rcases hb with hb | ⟨k,hk,rfl⟩ | hb | ⟨i,hi,hb⟩
  ·
   obtain ⟨x,t,h1⟩:=he.one b (hdv b hb)
   refine ⟨_,_,_,h1,fun j y hj hy=>?_⟩
   have hv:∃ k,k < 9 ∧ w.cell? ⟨b,0,none⟩=some (.iface 139 (.pointer (some (ad k)))):=by
    have e:=he.errs
    simp only [delayVars,List.contains_eq_mem,List.mem_cons,List.not_mem_nil,or_false,decide_eq_true_eq] at hb
    rcases hb with rfl | rfl | rfl | rfl | rfl | rfl | rfl | rfl | rfl
    · exact ⟨0,by omega,e.c0⟩
    · exact ⟨1,by omega,e.c1⟩
    · exact ⟨2,by omega,e.c2⟩
    · exact ⟨3,by omega,e.c3⟩
    · exact ⟨4,by omega,e.c4⟩
    · exact ⟨5,by omega,e.c5⟩
    · exact ⟨6,by omega,e.c6⟩
    · exact ⟨7,by omega,e.c7⟩
    · exact ⟨8,by omega,e.c8⟩
   obtain ⟨k,hk,hc⟩:=hv
   simp only [World.cell?,h1] at hc
   cases j with
   | zero=>
    have:y=.iface 139 (.pointer (some (ad k))):=by
     rw [hy] at hc
     simpa using hc
    subst this
    exact VR.make ⟨_,rfl,VR.ptr ⟨⟨rfl,.inr (.inl ⟨k,hk,rfl⟩)⟩,rfl,rfl⟩⟩
   | succ j=>simp at hy
  ·
   obtain ⟨c,t,h1⟩:=he.errs.blk k hk
   refine ⟨c,t,_,h1,fun j y hj hy=>?_⟩
   unfold tOf at hj
   rw [if_pos (he.low k hk),if_neg (by rw [he.out k hk];simp)] at hj
   omega
  ·
   obtain ⟨-,h0,cur,h1,h2⟩:=hrow b hb
   refine ⟨cur,_,_,h1,fun j y hj hy=>?_⟩
   rw [hT1 b h0 hb] at hj
   have hv:=hcell h2 hj y hy
   rw [hget j hj] at hv
   cases hv
   rcases ownL_form (hown j hj) with ⟨e1,-⟩ | ⟨g,c,cur',e1,-⟩
   ·
    rw [e1]
    exact VR.make ⟨none,rfl,trivial⟩
   ·
    have hg:blkOf (vs.getD j undef)=some g:=by rw [e1];rfl
    rw [e1]
    exact VR.make ⟨some ⟨g,0,none⟩,rfl,⟨rfl,.inr (.inr (.inr ⟨j,hj,hg⟩))⟩,rfl,rfl⟩
  ·
   obtain ⟨h0,cur,h1,-⟩:=hblk i b hi hb
   refine ⟨cur,_,_,h1,fun j y hj hy=>?_⟩
   rw [hT2 b h0 (hpart i b hi hb)] at hj
   obtain ⟨m,hm,hjm⟩:=most_at hj
   by_cases hbm:blkOf (vs.getD m undef)=some b
   ·
    rw [if_pos hbm] at hjm
    obtain ⟨-,cur2,k1,k2⟩:=hblk m b hm hbm
    rw [h1] at k1
    cases k1
    obtain ⟨z,rfl⟩:=cellsL_int (hcell k2 hjm y hy)
    exact VR.int _ _
   ·
    rw [if_neg hbm] at hjm
    omega
 ·
  unfold tOf
  rw [if_pos (hneed g hg),if_pos hg]
  omega
 ·
  cases hla:la with
  | none=>
   obtain ⟨-,⟨h1,h2⟩ | ⟨g,cap',cur,h1,-⟩⟩:=ho.list
   · omega
   ·
    rw [hla] at h1
    cases h1
  | some a=>
   have hB:(la.map (·.block))=some a.block:=by rw [hla];rfl
   obtain ⟨e1,-⟩:=hrow a.block hB
   rw [hla] at e1
   refine ⟨by simpa [lOf] using e1,.inr (.inr (.inl (by simp [lOf])))⟩
 ·
  cases hla:la with
  | none=>
   obtain ⟨-,⟨h1,h2⟩ | ⟨g,cap',cur,h1,-⟩⟩:=ho.list
   · omega
   ·
    rw [hla] at h1
    cases h1
  | some a=>
   have hB:(la.map (·.block))=some a.block:=by rw [hla];rfl
   obtain ⟨-,-,cur,h1,h2⟩:=hrow a.block hB
   have hv:vs[i]? = (cur.toList.take n)[i]?:=by rw [h2]
   rw [hget i hi,List.getElem?_take,if_pos hi] at hv
   have hc:w.cell? ⟨a.block,i,none⟩=some (vs.getD i undef):=by
    rw [hv]
    simp [World.cell?,h1]
   rw [(lies_own (hown i hi)).2.1] at hc
   simpa [lOf] using hc
 ·
  cases hla:la with
  | none=>
   obtain ⟨-,⟨h1,h2⟩ | ⟨g,cap',cur,h1,-⟩⟩:=ho.list
   · omega
   ·
    rw [hla] at h1
    cases h1
  | some a=>
   have hB:(la.map (·.block))=some a.block:=by rw [hla];rfl
   obtain ⟨-,h0,-⟩:=hrow a.block hB
   have:=hT1 a.block h0 hB
   rw [hla] at this
   simp [lOf,this,hi]
 ·
  have hbo:addrOf (vs.getD i undef)=some ⟨b,o,none⟩:=hbo
  rcases ownL_form (hown i hi) with ⟨e1,-⟩ | ⟨g,c,cur',e1,h0,-⟩
  ·
   rw [e1] at hbo
   cases hbo
  ·
   have hg:blkOf (vs.getD i undef)=some g:=by rw [e1];rfl
   rw [e1] at hbo
   have e2:(⟨g,0,none⟩:Addr)=⟨b,o,none⟩:=Option.some.inj hbo
   obtain rfl:b=g:=(congrArg Addr.block e2).symm
   obtain rfl:o=0:=(congrArg Addr.off e2).symm
   rw [hT2 b h0 (hpart i b hi hg)]
   have:=le_most (f:=fun i=>if blkOf (vs.getD i undef)=some b then (lss i).length * 2 else 0) hi
   simp only [hg,if_true] at this
   show 0+(lss i).length * 2 ≤ _
   omega
theorem delayIs_one {per d d':Int} {L:List (Int × Int)} (hL:okCurve L) (h1:1 ≤ per) (h:DelayIs per L d) (h':DelayIs per L d'):d=d':=by
 have le:∀ {d d':Int},DelayIs per L d → DelayIs per L d' → d ≤ d':=fun {d d'} h h'=>by
  obtain ⟨k,e,hh,-,-,-⟩:=h.at_
  obtain ⟨c0,c1⟩:=has_at L k hL hh
  have u:=h'.upper _ c0
  have m:=Int.mul_le_mul_of_nonneg_left c1 (show 0 ≤ per by omega)
  unfold waitOf at e
  omega
 have a1:=le h h'
 have a2:=le h' h
 omega
theorem goodD_one {per d d':Int} {ls:List (Int × Int)} (h:GoodD per ls d) (h':GoodD per ls d'):d=d':=delayIs_one h.1.1 h.1.2.1 h.2.2 h'.2.2
end Go.Proofs.YtbokomeejmnnoaaDoor

namespace Go.Proofs.YtbokomeejmnnoaaDoor
theorem okLine_no {ls:List (Int × Int)} {j:Nat} (hj:j < ls.length) (hb:∀ x y,ls[j]? = some (x,y) → okLine x y=false) (ho:okAll ls):False:=by
 have e:ls[j]? = some (ls[j].1,ls[j].2):=List.getElem?_eq_getElem hj
 have h1:=ho ls[j] (List.getElem_mem hj)
 rw [hb _ _ e] at h1
 cases h1
theorem fault_code_one {ls:List (Int × Int)} {c a c' a':Int} (h:FaultIs ls c a) (h':FaultIs ls c' a'):c=c':=by
 rcases h with ⟨h1,rfl,-⟩ | ⟨h1,h2,j,h3,-,h4,rfl,-⟩ | ⟨h1,rfl,-⟩ <;> rcases h' with ⟨k1,rfl,-⟩ | ⟨k1,k2,j',k3,-,k4,rfl,-⟩ | ⟨k1,rfl,-⟩
 · rfl
 · omega
 ·
  obtain ⟨a1,a2,-⟩:=k1
  omega
 · omega
 · rfl
 · exact (okLine_no h3 h4 k1.2.2).elim
 ·
  obtain ⟨a1,a2,-⟩:=h1
  omega
 · exact (okLine_no k3 k4 h1.2.2).elim
 · rfl
theorem fault_ok_zero {ls:List (Int × Int)} {c a:Int} (h:FaultIs ls c a) (hk:okCurve ls):c=0:=fault_code_one h (.inr (.inr ⟨hk,rfl,rfl⟩):FaultIs ls 0 (-1))
theorem good_bad {per:Int} {ls:List (Int × Int)} {d c:Int} (h:GoodD per ls d) (hb:BadD per ls c):False:=by
 obtain ⟨⟨h1,h2,h3⟩,h4,-⟩:=h
 rcases hb with ⟨p,⟨k1,k2⟩ | ⟨-,k1,-⟩⟩ | ⟨-,k1,-⟩
 · exact k2 (fault_ok_zero k1 h1)
 · omega
 · omega
theorem bad_one {per:Int} {ls:List (Int × Int)} {c c':Int} (h:BadD per ls c) (h':BadD per ls c'):c=c':=by
 rcases h with ⟨p,⟨h1,h2⟩ | ⟨h1,h2,h3,-⟩⟩ | ⟨h1,h2,h3⟩ <;> rcases h' with ⟨p',⟨k1,k2⟩ | ⟨k1,k2,k3,-⟩⟩ | ⟨k1,k2,k3⟩
 · exact fault_code_one h1 k1
 · exact (h2 (fault_ok_zero h1 k1)).elim
 · exact (h2 (fault_ok_zero h1 k1.1)).elim
 · exact (k2 (fault_ok_zero k1 h1)).elim
 · omega
 ·
  obtain ⟨-,a1,a2⟩:=k1
  omega
 · exact (k2 (fault_ok_zero k1 h1.1)).elim
 ·
  obtain ⟨-,a1,a2⟩:=h1
  omega
 · omega
theorem six_ok:LinkOk [(3,0)] 2:=by
 refine ⟨⟨by simp,by simp,fun p hp=>?_⟩,by omega,by omega⟩
 rw [List.mem_singleton.1 hp]
 decide
theorem six_is {d:Int} (h:GoodD 2 [(3,0)] d):d=6:=by
 obtain ⟨-,-,h1⟩:=h
 have u:=h1.upper 0 (Int.le_refl 0)
 have e:curveAt 0 [(3,0)]=3:=by decide
 rw [e] at u
 obtain ⟨k,hk,hm,-⟩:=h1.at_
 have el:lastC k [(3,0)]=(3,0):=rfl
 unfold waitOf at hk
 rw [el] at hk hm
 rcases hm with hm | hm
 ·
  unfold comesAt at hk
  rw [if_pos hm] at hk
  unfold miss at hm
  dsimp only at hm
  omega
 · exact absurd hm (by decide)
theorem six_good {c:Int} (h:BadD 2 [(3,0)] c):False:=by
 obtain ⟨a1,a2,a3⟩:=six_ok
 rcases h with ⟨p,⟨k1,k2⟩ | ⟨-,k1,-⟩⟩ | ⟨-,k1,-⟩
 · exact k2 (fault_ok_zero k1 a1)
 · omega
 · exact absurd k1 (by decide)
end Go.Proofs.YtbokomeejmnnoaaDoor
