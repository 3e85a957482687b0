/- Own facts, put together: no statement of its own. -/
import Derived.Test.YtbokomeejmnnoaaDoorD40
import Derived.Test.YtbokomeejmnnoaaDoorD05
import Derived.Test.YtbokomeejmnnoaaDoorD09
import Derived.Test.YtbokomeejmnnoaaDoorTie
import Derived.ProofKit
import Derived.OpenShut
import Derived.ShutString
import Derived.ChangeOld
import Derived.ChangeVars
import Derived.Deep.SlicePairs
import Derived.Lib.SmallJoins
import Derived.LaidMore
import Derived.LaidLaws
import Derived.LaidHandle
import Derived.Stop.LaidErr
import Derived.Stop.Joined
import Derived.Test.YtbokomeejmnnoaaDoorD01
set_option maxRecDepth 100000

set_option maxRecDepth 100000
set_option linter.unusedSimpArgs false
namespace Go.Proofs.YtbokomeejmnnoaaDoor
open Go.Conc Go.RowKit Go.Conc.Lib Go.ConcR.Gen
open Go.ConcR (KK WgAt stA smA rd wr mk)
def abAct0:Act:=⟨#[undef,undef,undef,undef,undef,undef,undef,undef,undef,undef,undef,undef,undef,undef,undef,undef,undef],[]⟩
def abEnter (f:Func) (cs:List Frame):Goroutine:=G ((base 4).at abAct0 [.code (bodyC f)]) cs
def abAct2 (a5 a6 d:Value):Act:=⟨#[.bool false,d,.nilIface,.tuple #[d,.nilIface],.agg #[.int .i64 3,.int .i64 0],a5,a6,.tuple #[d,.nilIface],d,.nilIface,undef,undef,undef,undef,undef,undef,undef],[]⟩
def abLast (f:Func):Code:=secondC (secondC (bodyC f))
section
variable {H:Nat → Prop} {ad:Nat → Addr} {cs:List Frame} {w:World} {Post:Value → World → Prop} {s0:Nat}
theorem ab_last (a5 a6:Value) (D:Nat) (v:World) (hd:LiesN v (some ⟨D,0,none⟩) [6]):(abLast Tryd.f4).wp Tryd.prog (fun e a v'=>e=.ret ∧ a.defers=[] ∧ a.tmps.getD 0 undef=.bool true ∧ LaterW v v') (abAct2 a5 a6 (.slice (some ⟨D,0,none⟩) 1 1)) v:=by
 obtain ⟨b,off,e1,hb,hd⟩:=hd.place (by simp)
 cases e1
 have h6:=hd 0 6 rfl
 have hb:v.heap[D]?.isSome:=by
  rw [Array.getElem?_eq_getElem hb]
  rfl
 have HC:Hid (Calls Tryd.prog 12 #[.slice (some ⟨D,0,none⟩) 1 1,.slice (some ⟨v.heap.size,0,none⟩) 1 1] (v.alloc (.cells #[.int .i64 6] 3 (0,0))) fun e w'=>e=.returned (.bool true) ∧ Below (v.alloc (.cells #[.int .i64 6] 3 (0,0))).heap.size (v.alloc (.cells #[.int .i64 6] 3 (0,0))) w'):=by
  refine sameInts_yes D 0 v.heap.size 0 1 1 1 (fun _=>6) _ (by omega) (fun i hi=>?_) (fun i hi=>?_)
  ·
   obtain rfl:i=0:=by omega
   unfold World.cell?
   rw [alloc_old _ _ (by have:=hd;simp at hb;omega)]
   exact h6
  ·
   obtain rfl:i=0:=by omega
   unfold World.cell?
   rw [alloc_at]
   rfl
 clear hd h6 hb
 simp only [abLast,abAct2,bodyC,firstC,secondC,Tryd.f4,Option.getD_some]
 go_wp2_with (refine HC.out.mono ?_)
 rintro e v1 ⟨rfl,hb1⟩
 have HB:Hid (LaterW v v1):=(LaterW.ofBelow ((Below.refl _ _).alloc (Nat.le_refl _) _)).trans (LaterW.ofBelow hb1)
 clear hb1
 go_wp2_with fail
 exact HB.out
theorem abreast_fin (he:ErrsW s0 w ad) (hid:HidWg H w) (hs:∀ b,H b → s0 ≤ b) {b₀:Frame} {a₀:Act} {ops:Array Oper} {i:Nat} {rest:List Nat} {k:List Item}
  (hend:∀ (H':Nat → Prop) w',LaterW w w' → HidWg H' w' → (∀ b,H' b → s0 ≤ b) → FinA Tryd.prog Post H' (G (b₀.at (a₀.put ((ops[i]?).bind (·.dst)) (.bool true)) (.inRegion ops rest :: k)) cs) w') :
  FinA Tryd.prog Post H (abEnter Tryd.f4 (b₀.at a₀ (.inRegion ops (i :: rest) :: k) :: cs)) w:=by
 unfold abEnter abAct0
 have eb:bodyC Tryd.f4=.seq (firstC (bodyC Tryd.f4)) (.seq (firstC (secondC (bodyC Tryd.f4))) (abLast Tryd.f4)):=rfl
 rw [eb]
 refine FinA.c rfl (fun _=>stepG_seq) ?_
 refine FinA.c rfl (fun _=>stepG_region) ?_
 try walk_nrm
 refine FinA.value (.bool false) rfl rfl (by decide) (fun _=>by go_simp) (fun _=>by simp [go_sem]) ?_;try walk_nrm
 refine FinA.c rfl (fun _=>stepG_region_end) ?_
 refine FinA.c rfl (fun _=>stepG_seq) ?_
 refine FinA.c rfl (fun _=>stepG_region) ?_
 try walk_nrm
 refine FinA.value (.agg #[.int .i64 3,.int .i64 0]) rfl rfl (by decide) (fun _=>by go_simp) (fun _=>by simp [go_sem]) ?_;try walk_nrm
 refine FinA.op (p:=sdPlan) sd_fns (Q:=fun x v'=>x=.slice (some ⟨w.heap.size,0,none⟩) 1 1 ∧ ∃ v,MaskT H v w ∧ v'=v.alloc (.cells #[.int .i64 3,.int .i64 0] 42 (0,0))) rfl rfl (by decide) (fun s hs=>(kf_none rfl rfl hs).elim) rfl hid.ok (fun v hv=>?_) ?_
 ·
  refine ⟨.slice (some ⟨w.heap.size,0,none⟩) 1 1,?W,?hrun,rfl,v,hv,?hW⟩
  case hrun=>
   rw [hv.size]
   go_simp
   rfl
  case hW=>rfl
 rintro x v1 w1 ⟨rfl,v,hv,rfl⟩ hm1 hp1
 have hl1:LaterW w w1:=LaterW.of hv hm1 hp1 ((Below.refl _ _).alloc (Nat.le_refl _) _)
 have j1:=hm1.rowBack (b:=w.heap.size) (by rw [hv.size];exact alloc_at _ _) fun hh=>by have:=hid.lt hh;omega
 clear hv hm1 hp1 v
 have hid1:=hid.later hl1
 try walk_nrm
 refine FinA.op (p:=sdPlan) sd_fns (Q:=fun x v'=>x=.slice (some ⟨w1.heap.size,0,none⟩) 1 1 ∧ ∃ v,MaskT H v w1 ∧ v'=v.alloc (.cells #[.slice (some ⟨w.heap.size,0,none⟩) 1 1] 24 (0,0))) rfl rfl (by decide) (fun s hs=>(kf_none rfl rfl hs).elim) rfl hid1.ok (fun v hv=>?_) ?_
 ·
  refine ⟨.slice (some ⟨w1.heap.size,0,none⟩) 1 1,?W2,?hrun2,rfl,v,hv,?hW2⟩
  case hrun2=>
   rw [hv.size]
   go_simp
   rfl
  case hW2=>rfl
 rintro x v1 w2 ⟨rfl,v,hv,rfl⟩ hm2 hp2
 have hl2:LaterW w1 w2:=LaterW.of hv hm2 hp2 ((Below.refl _ _).alloc (Nat.le_refl _) _)
 have j2:=hm2.rowBack (b:=w1.heap.size) (by rw [hv.size];exact alloc_at _ _) fun hh=>by have:=hid1.lt hh;omega
 clear hv hm2 hp2 v
 have hid2:=hid1.later hl2
 have hl02:=hl1.trans hl2
 try walk_nrm
 refine FinA.call rfl rfl (by decide) rfl Tryd.func6 (by decide) rfl ?_
 walk_nrmf Tryd.ntmps6
 show FinA Tryd.prog Post H (dlEnter Tryd.f6 (some ⟨w1.heap.size,0,none⟩) 1 1 2 2 _) w2
 have j1':=(hl2.old _ (get_zero j1)).trans j1
 have ho:OwnCs s0 w2 (some ⟨w1.heap.size,0,none⟩) 1 1 [.slice (some ⟨w.heap.size,0,none⟩) 1 1] (fun _=>[(3,0)]):=by
  refine ⟨⟨rfl,.inr ⟨w1.heap.size,1,_,rfl,Nat.le_trans he.size hl1.size,j2,Nat.le_refl _,by decide,rfl,rfl⟩⟩,fun i v hv=>?_⟩
  rcases i with _ | i
  ·
   cases hv
   exact ⟨rfl,.inr ⟨w.heap.size,1,_,rfl,he.size,j1',Nat.le_refl _,by decide,rfl,rfl⟩⟩
  · cases hv
 refine delays_fin (own_args (per:=2) (he.laterW hl02) hid2 hs ho) fun H' x y w3 hl3 hid3 hH3 hd=>?_
 obtain ⟨D,rfl,rfl,hD⟩:∃ D,x=.slice (some ⟨D,0,none⟩) 1 1 ∧ y=.nilIface ∧ LiesN w3 (some ⟨D,0,none⟩) [6]:=by
  rcases hd with ⟨h1,-⟩ | ⟨-,⟨i,c,hi,-,hb,-⟩ | ⟨ds,D,h1,h2,rfl,rfl,h3⟩⟩
  · exact (h1 (by decide)).elim
  · exact (six_good hb).elim
  ·
   obtain ⟨d,rfl⟩:∃ d,ds=[d]:=by
    rcases ds with _ | ⟨d,_ | ⟨d',ds⟩⟩
    · cases h1
    · exact ⟨d,rfl⟩
    · simp at h1
   obtain rfl:=six_is (h2 0 d rfl)
   exact ⟨D,rfl,rfl,h3⟩
 walk_nrm
 refine FinA.value (.tuple #[.slice (some ⟨D,0,none⟩) 1 1,.nilIface]) rfl rfl (by decide) (fun _=>by go_simp) (fun _=>by simp [go_sem]) ?_;try walk_nrm
 refine FinA.value (.slice (some ⟨D,0,none⟩) 1 1) rfl rfl (by decide) (fun _=>by go_simp) (fun _=>by simp [go_sem]) ?_;try walk_nrm
 refine FinA.value .nilIface rfl rfl (by decide) (fun _=>by go_simp) (fun _=>by simp [go_sem]) ?_;try walk_nrm
 refine FinA.value (.slice (some ⟨D,0,none⟩) 1 1) rfl rfl (by decide) (fun _=>by go_simp) (fun _=>by simp [go_sem]) ?_;try walk_nrm
 refine FinA.value .nilIface rfl rfl (by decide) (fun _=>by go_simp) (fun _=>by simp [go_sem]) ?_;try walk_nrm
 refine FinA.c rfl (fun _=>stepG_region_end) ?_
 have hs3:∀ b,H' b → s0 ≤ b:=fun b hb=>(hH3 b hb).elim (hs b) fun h=>Nat.le_trans (Nat.le_trans he.size hl02.size) h
 refine FinA.wp (p:=sdPlan) sd_fns (Q:=fun e a v'=>e=.ret ∧ a.defers=[] ∧ a.tmps.getD 0 undef=.bool true ∧ ∃ v,MaskT H' v w3 ∧ LaterW v v') ⟨⟨_,Tryd.func4⟩,fun s hs=>(kf_none rfl rfl hs).elim,rfl,rfl⟩ (by decide +kernel) hid3.ok (fun v hv=>?_) (fun e a v' hq=>.inr hq.1) (fun e a v' t ⟨q1,q2,q3,v,q4,q5⟩=>⟨q1,q2,q3,v,q4,q5.taped t⟩) (fun a' v' w' hq=>by cases hq.1) ?_
 ·
  refine Go.Code.wp_mono ?_ (ab_last _ _ D v (hD.mask hid3 hv))
  rintro e a v' ⟨q1,q2,q3,q4⟩
  exact ⟨q1,q2,q3,v,hv,q4⟩
 ·
  rintro a' todo v' w4 ⟨-,hdf,h0,v,hv,hlv⟩ hm4 hp4
  have hl4:=LaterW.of' hv hm4 hp4 hlv
  refine FinA.leave (fn:=Tryd.f4) (v:=.bool true) rfl hdf Tryd.func4 (fun _=>?_) (fun _=>by simp [results,Tryd.f4]) ?_
  ·
   simp only [Array.getD_eq_getD_getElem?] at h0
   simp [results,Tryd.f4,h0]
  · exact hend H' w4 ((hl02.trans hl3).trans hl4) (hid3.later hl4) hs3
end
end Go.Proofs.YtbokomeejmnnoaaDoor

set_option maxRecDepth 100000
set_option linter.unusedSimpArgs false
namespace Go.Proofs.YtbokomeejmnnoaaDoor
open Go.Conc Go.RowKit Go.Conc.Lib Go.ConcR.Gen
open Go.ConcR (KK WgAt stA smA rd wr mk)
theorem DlEnd.tells {cs:List (List (Int × Int))} {per wks:Int} {n:Nat} {x y:Value} {w:World} (h:DlEnd per (fun i=>cs.getD i []) n wks x y w):TellsD cs per wks n w x y:=by
 refine ⟨fun c hc h0=>?_,fun h0 k c hk hb hbad=>?_,fun h0 ds hl hg=>?_⟩
 ·
  rcases h with ⟨-,h1,h2⟩ | ⟨h1,-⟩
  ·
   rw [hc] at h2
   exact ⟨h1,h2.code⟩
  · exact (h0 (hc.symm.trans h1)).elim
 ·
  rcases h with ⟨h1,-⟩ | ⟨-,⟨i,c',hi,h1,h2,-,h3,h4⟩ | ⟨ds,D,h1,h2,-⟩⟩
  · exact (h1 h0).elim
  ·
   rcases Nat.lt_trichotomy i k with hlt | rfl | hlt
   ·
    obtain ⟨d,hd⟩:=hb i hlt
    exact (good_bad hd h2).elim
   ·
    rw [bad_one hbad h2]
    exact ⟨h3,h4.code⟩
   ·
    obtain ⟨d,hd⟩:=h1 k hlt
    exact (good_bad hd hbad).elim
  ·
   obtain ⟨d,hd,-⟩:=get_some ds k (by omega)
   exact (good_bad (h2 k d hd) hbad).elim
 ·
  rcases h with ⟨h1,-⟩ | ⟨-,⟨i,c',hi,h1,h2,-,h3,h4⟩ | ⟨ds',D,h1,h2,h3,h4,h5⟩⟩
  · exact (h1 h0).elim
  ·
   obtain ⟨d,hd,-⟩:=get_some ds i (by omega)
   exact (good_bad (hg i d hd) h2).elim
  ·
   obtain rfl:ds'=ds:=by
    refine List.ext_getElem (by omega) fun i h6 h7=>?_
    exact goodD_one (h2 i _ (List.getElem?_eq_getElem h6)) (hg i _ (List.getElem?_eq_getElem h7))
   exact ⟨h4,D,h3,h5⟩
theorem TellsD.mask {H:Nat → Prop} {cs:List (List (Int × Int))} {per wks:Int} {n:Nat} {x y:Value} {v w:World} (h:TellsD cs per wks n w x y) (hid:HidWg H w) (hm:MaskT H v w):TellsD cs per wks n v x y:=by
 refine ⟨fun c hc h0=>⟨(h.ask c hc h0).1,(h.ask c hc h0).2.mask hid hm⟩,fun h0 k c hk hb hbad=>⟨(h.bad h0 k c hk hb hbad).1,(h.bad h0 k c hk hb hbad).2.mask hid hm⟩,fun h0 ds hl hg=>?_⟩
 obtain ⟨h1,D,h2,h3⟩:=h.good h0 ds hl hg
 exact ⟨h1,D,h2,h3.mask hid hm⟩
theorem ErrsW.mask {H:Nat → Prop} {s0:Nat} {v w:World} {ad:Nat → Addr} (h:ErrsW s0 w ad) (hid:HidWg H w) (hs:∀ b,H b → s0 ≤ b) (hm:MaskT H v w):ErrsB v ad:=by
 refine { h.errs.toErrs9.mask hid hm with ne:=h.errs.ne,blk:=fun i hi=>?_ }
 obtain ⟨c,t,h1⟩:=h.errs.blk i hi
 exact ⟨c,t,hm.row (fun hh=>by have:=hs _ hh;have:=h.low i hi;omega) h1 (by simp)⟩
theorem lies_mask {H:Nat → Prop} {v w:World} {a:Option Addr} {ls:List (Int × Int)} (h:Lies w a ls) (hid:HidWg H w) (hm:MaskT H v w):Lies v a ls:=by
 rcases h with rfl | ⟨b,off,rfl,hlt,hc⟩
 · exact .inl rfl
 · exact .inr ⟨b,off,rfl,by rw [← hm.size];exact hlt,fun i x y hi=>⟨hid.cell hm (hc i x y hi).1 (by simp) (by simp),hid.cell hm (hc i x y hi).2 (by simp) (by simp)⟩⟩
theorem liesC_mask {H:Nat → Prop} {v w:World} {a:Option Addr} {cs:List (List (Int × Int))} (h:LiesC w a cs) (hid:HidWg H w) (hm:MaskT H v w):LiesC v a cs:=by
 rcases h with rfl | ⟨b,off,rfl,hlt,hc⟩
 · exact .inl rfl
 ·
  refine .inr ⟨b,off,rfl,by rw [← hm.size];exact hlt,fun i ls hi=>?_⟩
  obtain ⟨a',cap,h1,h2,h3⟩:=hc i ls hi
  exact ⟨a',cap,hid.cell hm h1 (by simp) (by simp),lies_mask h2 hid hm,h3⟩
theorem LiesC.laterW {w w1:World} {a:Option Addr} {cs:List (List (Int × Int))} (h:LiesC w a cs) (hl:LaterW w w1):LiesC w1 a cs:=by
 rcases h with rfl | ⟨b,off,rfl,hlt,hc⟩
 · exact .inl rfl
 ·
  refine .inr ⟨b,off,rfl,Nat.lt_of_lt_of_le hlt hl.size,fun i ls hi=>?_⟩
  obtain ⟨a',cap,h1,h2,h3⟩:=hc i ls hi
  exact ⟨a',cap,hl.cell h1,h2.laterW hl,h3⟩
theorem OwnLs.back {H:Nat → Prop} {s0 B:Nat} {v w:World} {x8:Value} {cs:List (List (Int × Int))} {xs:List Value} (h:OwnLs v B x8 cs xs) (hm:MaskT H v w) (hB:∀ b,H b → b < B) (hs:s0 ≤ B):∃ la cap,x8=.slice la cs.length cap ∧ OwnCs s0 w la cs.length cap xs fun i=>cs.getD i []:=by
 have back:∀ {e:TypeId} {sz:Nat} {y:Value} {m:Nat} {ys:List Value},v.ownsRow B e sz y m ys → w.ownsRow s0 e sz y m ys:=fun {e sz y m ys} hh=>by
  obtain ⟨h1,h2 | ⟨g,cap,cur,rfl,hB',hg,r⟩⟩:=hh
  · exact ⟨h1,.inl h2⟩
  · exact ⟨h1,.inr ⟨g,cap,cur,rfl,Nat.le_trans hs hB',hm.rowBack hg (fun hx=>by have:=hB g hx;omega),r⟩⟩
 have hx:∃ la cap,x8=.slice la cs.length cap:=by
  obtain ⟨h1,⟨rfl,h0⟩ | ⟨g,cap,cur,rfl,-⟩⟩:=h.row
  · exact ⟨none,0,by rw [h0]⟩
  · exact ⟨_,cap,rfl⟩
 obtain ⟨la,cap,rfl⟩:=hx
 have hxl:xs.length=cs.length:=by have:=h.row.1;simpa using this
 refine ⟨la,cap,rfl,back h.row,fun i y hi=>?_⟩
 obtain ⟨ls,hls,-⟩:=get_some cs i (by have:=lt_of_get hi;omega)
 obtain ⟨y',e1,e2,-⟩:=h.each i ls hls
 rw [hi] at e1
 cases e1
 have e:cs.getD i []=ls:=by simp [List.getD_eq_getElem?_getD,hls]
 rw [e]
 exact back e2
end Go.Proofs.YtbokomeejmnnoaaDoor

set_option maxRecDepth 100000
set_option linter.unusedSimpArgs false
namespace Go.Proofs.YtbokomeejmnnoaaDoor
open Go.Conc Go.RowKit Go.Conc.Lib Go.ConcR.Gen
open Go.ConcR (KK WgAt stA smA rd wr mk)
def X2Q (x0 x1 x2:Value) (n:Nat) (e:Exit) (a:Act):Prop:=(e=.ret ∧ a.defers=[] ∧ a.tmps.getD 6 undef=.bool true) ∨ (e=.normal ∧ n ≤ 110 ∧ a=lwV x0 x1 x2 (.bool false) (.bool true) (a.tmps.getD 8 undef) fun i=>a.tmps.getD i undef)
section
variable {H:Nat → Prop} {ad:Nat → Addr} {w:World} {Post:Value → World → Prop} {s0:Nat} {cs:List (List (Int × Int))}
theorem lw_x2 (ca:Option Addr) (n ccap:Nat) (per wks:Int) (x8:Value) (f:Nat → Value) (v:World):(lwX2 Tryd.f3).wp Tryd.prog (fun e a v'=>v'=v ∧ X2Q (.slice ca n ccap) (.int .i64 per) (.int .i64 wks) n e a) (lwV (.slice ca n ccap) (.int .i64 per) (.int .i64 wks) (.bool false) (.bool true) x8 f) v:=by
 by_cases hn:110 < n
 ·
  simp only [lwX2,lwRest1,lwV,bodyC,firstC,secondC,Tryd.f3,Option.getD_some]
  go_wp2_with fail
  exact .inl ⟨rfl,rfl,rfl⟩
 ·
  have HN:Hid (n ≤ 110):=by
   show n ≤ 110
   omega
  simp only [lwX2,lwRest1,lwV,bodyC,firstC,secondC,Tryd.f3,Option.getD_some]
  go_wp2_with fail
  exact .inr ⟨rfl,HN.out,rfl⟩
theorem law_end {H':Nat → Prop} {a':Act} {todo:List Item} {w':World} (hd:a'.defers=[]) (h6:a'.tmps.getD 6 undef=.bool true) (h:∀ d,Post (.bool true) (w'.at d)):FinA Tryd.prog Post H' (G { (base 3).at a' todo with mode:=.returning } []) w':=by
 refine FinA.end_ (fn:=Tryd.f3) (v:=.bool true) rfl hd Tryd.func3 (fun _=>?_) (fun _=>by simp [results,Tryd.f3]) (by kernel_rfl) h
 simp only [Array.getD_eq_getD_getElem?] at h6
 simp [results,Tryd.f3,h6]
theorem law_fin (he:ErrsW s0 w ad) (hid:HidWg H w) (hs:∀ b,H b → s0 ≤ b) (ca:Option Addr) (n ccap:Nat) (per wks:Int) (hc:LiesC w ca cs) (hm:cs.length=n) (hcap:n ≤ ccap) (hend:∀ w',LaterW w w' → Post (.bool true) w') :
  FinA Tryd.prog Post H (G ((base 3).at (lwV (.slice ca n ccap) (.int .i64 per) (.int .i64 wks) undef undef undef fun _=>undef) [.code (bodyC Tryd.f3)]) []) w:=by
 have eb:bodyC Tryd.f3=.seq (firstC (bodyC Tryd.f3)) (.seq (firstC (secondC (bodyC Tryd.f3))) (.seq (lwX2 Tryd.f3) (.seq (lwR4 Tryd.f3) (.seq (lwL1 Tryd.f3) (.seq (firstC (secondC (secondC (secondC (lwRest1 Tryd.f3))))) (lwRest Tryd.f3)))))):=rfl
 rw [eb]
 refine FinA.c rfl (fun _=>stepG_seq) ?_
 refine FinA.c rfl (fun _=>stepG_region) ?_
 refine FinA.value (.bool false) rfl rfl (by decide) (fun _=>by go_simp) (fun _=>by simp [go_sem]) ?_
 refine FinA.c rfl (fun _=>stepG_region_end) ?_
 refine FinA.c rfl (fun _=>stepG_seq) ?_
 refine FinA.c rfl (fun _=>stepG_region) ?_
 refine FinA.call rfl rfl (by decide) rfl Tryd.func4 (by decide) rfl ?_
 walk_nrmf Tryd.ntmps4
 show FinA Tryd.prog Post H (abEnter Tryd.f4 (_ :: [])) w
 refine abreast_fin he hid hs fun H1 w1 hl1 hid1 hs1=>?_
 refine FinA.value (.bool true) rfl rfl (by decide) (fun _=>by go_simp;intro h;simp [lwV] at h) (fun _=>by simp [go_sem]) ?_
 refine FinA.c rfl (fun _=>stepG_region_end) ?_
 refine FinA.c rfl (fun _=>stepG_seq) ?_
 have he1:=he.laterW hl1
 have hc1:=hc.laterW hl1
 refine FinA.wp (p:=sdPlan) (a:=lwV (.slice ca n ccap) (.int .i64 per) (.int .i64 wks) (.bool false) (.bool true) undef fun i=>if i=19 then .bool true else undef) sd_fns (Q:=fun e a v'=>(∃ v,MaskT H1 v w1 ∧ LaterW v v') ∧ X2Q (.slice ca n ccap) (.int .i64 per) (.int .i64 wks) n e a) ⟨⟨_,Tryd.func3⟩,fun s hs=>(kf_none rfl rfl hs).elim,rfl,rfl⟩ (by decide +kernel) hid1.ok (fun v hv=>?_) (fun e a v' hq=>hq.2.elim (fun q=>.inr q.1) fun q=>.inl q.1) (fun e a v' t ⟨⟨v,q2,q3⟩,q4⟩=>⟨⟨v,q2,q3.taped t⟩,q4⟩) ?_ ?_
 ·
  refine Go.Code.wp_mono ?_ (lw_x2 ca n ccap per wks undef _ v)
  rintro e a v' ⟨rfl,q⟩
  exact ⟨⟨v',hv,LaterW.refl _⟩,q⟩
 ·
  rintro a2 v' w2 ⟨⟨v,hv,hlv⟩,⟨q1,-⟩ | ⟨-,hn,ha2⟩⟩ hm2 hp2
  · cases q1
  have hl2:LaterW w1 w2:=LaterW.of' hv hm2 hp2 hlv
  clear hv hlv hm2 hp2 v v'
  obtain ⟨x8,f2,rfl⟩:∃ x8 f2,a2=lwV (.slice ca n ccap) (.int .i64 per) (.int .i64 wks) (.bool false) (.bool true) x8 f2:=⟨_,_,ha2⟩
  clear ha2
  have he2:=he1.laterW hl2
  have hc2:=hc1.laterW hl2
  have hid2:=hid1.later hl2
  refine FinA.c rfl (fun _=>stepG_seq) ?_
  refine FinA.c rfl (fun _=>stepG_region) ?_
  refine FinA.value (.slice none 0 0) rfl rfl (by decide) (fun _=>by go_simp) (fun _=>by simp [go_sem]) ?_
  refine FinA.c rfl (fun _=>stepG_region_end) ?_
  refine FinA.c rfl (fun _=>stepG_seq) ?_
  refine FinA.wp (p:=sdPlan) (a:=lwV (.slice ca n ccap) (.int .i64 per) (.int .i64 wks) (.bool false) (.bool true) (.slice none 0 0) f2) sd_fns (Q:=fun e a v'=>∃ v,MaskT H1 v w2 ∧ LaterW v v' ∧ ((e=.ret ∧ a.defers=[] ∧ a.tmps.getD 6 undef=.bool true) ∨ (e=.normal ∧ (∀ (i:Nat) (ls:List (Int × Int)),cs[i]? = some ls → ls.length ≤ 20) ∧ ∃ v8 xs,OwnLs v' v.heap.size v8 cs xs ∧ a=lwV (.slice ca n ccap) (.int .i64 per) (.int .i64 wks) (a.tmps.getD 6 undef) (.bool true) v8 fun i=>a.tmps.getD i undef))) ⟨⟨_,Tryd.func3⟩,fun s hs=>(kf_none rfl rfl hs).elim,rfl,rfl⟩ (by decide +kernel) hid2.ok (fun v hv=>?_) (fun e a v' ⟨v,_,_,hq⟩=>hq.elim (fun q=>.inr q.1) fun q=>.inl q.1) (fun e a v' t ⟨v,q2,q3,q4⟩=>⟨v,q2,q3.taped t,or_map id (fun ⟨p1,p2,v8,xs,p3,p4⟩=>⟨p1,p2,v8,xs,⟨p3.row,p3.each⟩,p4⟩) q4⟩) ?_ ?_
  ·
   refine Go.Code.wp_mono ?_ (lw_loop1 ca n ccap per wks f2 v (liesC_mask hc2 hid2 hv) hm hn hcap)
   rintro e a v' ⟨q1,q2⟩
   exact ⟨v,hv,LaterW.ofBelow q1,q2⟩
  ·
   rintro a3 v' w3 ⟨v,hv,hlv,⟨q1,-⟩ | ⟨-,h20,v8,xs,hown,ha3⟩⟩ hm3 hp3
   · cases q1
   have hl3:LaterW w2 w3:=LaterW.of' hv hm3 hp3 hlv
   obtain ⟨la,cap,rfl,ho⟩:=hown.back (s0:=s0) hm3 (fun b hb=>by rw [← hv.size];exact hid2.lt hb) (by rw [← hv.size];exact he2.size)
   rw [hm] at ho ha3
   obtain ⟨x6,f3,rfl⟩:∃ x6 f3,a3=lwV (.slice ca n ccap) (.int .i64 per) (.int .i64 wks) x6 (.bool true) (.slice la n cap) f3:=⟨_,_,ha3⟩
   clear ha3 hv hlv hm3 hp3 hown v v'
   have he3:=he2.laterW hl3
   have hc3:=hc2.laterW hl3
   have hid3:=hid2.later hl3
   refine FinA.c rfl (fun _=>stepG_seq) ?_
   refine FinA.c rfl (fun _=>stepG_region) ?_
   unfold lwV
   try walk_nrm
   refine FinA.value (.slice la n cap) rfl rfl (by decide) (fun _=>by go_simp) (fun _=>by simp [go_sem]) ?_;try walk_nrm
   refine FinA.value (.int .i64 per) rfl rfl (by decide) (fun _=>by go_simp) (fun _=>by simp [go_sem]) ?_;try walk_nrm
   refine FinA.value (.int .i64 wks) rfl rfl (by decide) (fun _=>by go_simp) (fun _=>by simp [go_sem]) ?_;try walk_nrm
   refine FinA.call rfl rfl (by decide) rfl Tryd.func6 (by decide) rfl ?_
   walk_nrmf Tryd.ntmps6
   show FinA Tryd.prog Post H1 (dlEnter Tryd.f6 la n cap per wks _) w3
   refine delays_fin (own_args (per:=per) he3 hid3 hs1 ho) fun H4 x y w4 hl4 hid4 hH4 hd=>?_
   have hs4:∀ b,H4 b → s0 ≤ b:=fun b hb=>(hH4 b hb).elim (hs1 b) fun h=>Nat.le_trans he3.size h
   walk_nrm
   refine FinA.value (.tuple #[x,y]) rfl rfl (by decide) (fun _=>by go_simp) (fun _=>by simp [go_sem]) ?_;try walk_nrm
   refine FinA.value x rfl rfl (by decide) (fun _=>by go_simp) (fun _=>by simp [go_sem]) ?_;try walk_nrm
   refine FinA.value y rfl rfl (by decide) (fun _=>by go_simp) (fun _=>by simp [go_sem]) ?_;try walk_nrm
   refine FinA.value x rfl rfl (by decide) (fun _=>by go_simp) (fun _=>by simp [go_sem]) ?_;try walk_nrm
   refine FinA.value y rfl rfl (by decide) (fun _=>by go_simp) (fun _=>by simp [go_sem]) ?_;try walk_nrm
   refine FinA.c rfl (fun _=>stepG_region_end) ?_
   have ht:TellsD cs per wks n w4 x y:=DlEnd.tells hd
   have hc4:=hc3.laterW hl4
   have he4:=he3.laterW hl4
   have hl04:=((hl1.trans hl2).trans hl3).trans hl4
   refine FinA.wp (p:=sdPlan) (a:=lwW (.slice ca n ccap) (.int .i64 per) (.int .i64 wks) x6 (.bool true) (.slice la n cap) x y fun i=>if i=49 then .tuple #[x,y] else if i=50 then .slice la n cap else if i=51 then .int .i64 per else if i=52 then .int .i64 wks else if i=53 then .tuple #[x,y] else if i=54 then x else if i=55 then y else f3 i) sd_fns (Q:=fun e a v'=>e=.ret ∧ a.defers=[] ∧ a.tmps.getD 6 undef=.bool true ∧ ∃ v,MaskT H4 v w4 ∧ LaterW v v') ⟨⟨_,Tryd.func3⟩,fun s hs=>(kf_none rfl rfl hs).elim,rfl,rfl⟩ (by decide +kernel) hid4.ok (fun v hv=>?_) (fun e a v' hq=>.inr hq.1) (fun e a v' t ⟨q1,q2,q3,v,q4,q5⟩=>⟨q1,q2,q3,v,q4,q5.taped t⟩) (fun a' v' w' hq=>by cases hq.1) ?_
   ·
    refine Go.Code.wp_mono ?_ (lw_rest ca n ccap per wks _ x6 (.slice la n cap) x y v ad (he4.mask hid4 hs4 hv) (liesC_mask hc4 hid4 hv) hm hn hcap h20 (ht.mask hid4 hv))
    rintro e a v' ⟨q1,q2,q3,q4⟩
    exact ⟨q1,q2,q3,v,hv,LaterW.ofBelow q4⟩
   ·
    rintro a5 todo v' w5 ⟨-,hd5,h6,v,hv,hlv⟩ hm5 hp5
    have hl5:LaterW w4 w5:=LaterW.of' hv hm5 hp5 hlv
    exact law_end hd5 h6 fun d=>hend _ ((hl04.trans hl5).trans (LaterW.at w5 d))
  ·
   rintro a3 todo v' w3 ⟨v,hv,hlv,⟨-,hd3,h6⟩ | ⟨q1,-⟩⟩ hm3 hp3
   ·
    have hl3:LaterW w2 w3:=LaterW.of' hv hm3 hp3 hlv
    exact law_end hd3 h6 fun d=>hend _ (((hl1.trans hl2).trans hl3).trans (LaterW.at w3 d))
   · cases q1
 ·
  rintro a2 todo v' w2 ⟨⟨v,hv,hlv⟩,⟨-,hd2,h6⟩ | ⟨q1,-⟩⟩ hm2 hp2
  ·
   have hl2:LaterW w1 w2:=LaterW.of' hv hm2 hp2 hlv
   exact law_end hd2 h6 fun d=>hend _ ((hl1.trans hl2).trans (LaterW.at w2 d))
  · cases q1
end
end Go.Proofs.YtbokomeejmnnoaaDoor

namespace Go.Proofs.YtbokomeejmnnoaaDoor
open Go.ChangeShapes Go.WideShapes Go.ChangeAt Go.RowKit
theorem Tryd.own:ownKnob Tryd.prog.godebug=none:=by kernel_rfl
theorem Tryd.laidOut:laidOutB Tryd.prog=true:=by kernel_rfl
theorem Tryd.cellsInt:Tryd.prog.cellsOf 3=1:=by kernel_rfl
theorem Tryd.cellsES:Tryd.prog.cellsOf 160=1:=by kernel_rfl
theorem Tryd.cellsStr:Tryd.prog.cellsOf 9=1:=by kernel_rfl
def nameES:String:=match (Rows.laid_floodgate_api_ErrBound:DataW Unit) with | .iface n _=>n | _ => "none"
theorem rows_star {P:Program} {tp:TypeId} {s:String} (hs:s=nameES) (h:((List.range P.types.size).all fun u=>P.typeName? 3 u != some nameES || u == tp)=true):((List.range P.types.size).all fun u=>P.typeName? 3 u != some s || u == tp)=true:=by
 rw [hs]
 exact h
theorem Tryd.rowPES (u:TypeId) (h:Tryd.prog.typeName? 3 u=some nameES):u=139:=
 typeName_ptr_named (P:=Tryd.prog) (nm := "errors.errorString") (tp:=139) (rows_star (by decide) (by kernel_rfl)) (by kernel_rfl) (by decide) u (h.trans (congrArg some (by decide)))
theorem sentinel_of_laid {n nm:String} {text:List UInt8} {r:List (String × DataW Unit)} {W:World} {g:Nat}
  (h:laidMet Tryd.prog ((n,.iface nm (.ptr (.agg [.lit (.string text)]))) :: r) W)
  (hnm:nm=nameES) (hg:Tryd.prog.globalNamed n=some g) (ht:(Tryd.prog.globals[g]?).map (·.type)=some 28) :
  ∃ (a:Addr) (s:ByteArray),W.cell? ⟨g,0,none⟩=some (.iface 139 (.pointer (some a))) ∧ W.cell? a=some (.string s) ∧ s.data.toList=text ∧ ∃ c t,W.heap[a.block]? = some (.cells c t (0,0)):=by
 obtain ⟨ps,⟨g0,t0,cs0,f0,p0,q0,hg0,ht0,hv0,hd0,_,e0⟩,_,hrows⟩:=h
 obtain rfl:=Option.some.inj (hg.symm.trans hg0)
 obtain rfl:=Option.some.inj (ht.symm.trans ht0)
 subst e0
 obtain ⟨l0⟩:=cs0
 have ok0:∀ u v,l0=[.iface u v] → Value.okWide Tryd.prog W .any 0 u v:=fun u v e=>by
  subst e
  exact (hrows g 0 (by simp [MemPlace.row])).2 u v (by simpa using World.var?_cell hg0 hv0 0)
 obtain ⟨a0,s0,rfl,hc0,hs0,hz0,rfl⟩:=errorString_of_trod Tryd.underlying28 (fun u hu=>Tryd.rowPES u (by rw [← hnm];exact hu)) Tryd.underlying139 Tryd.underlying160 rfl rfl Tryd.underlying9 Tryd.cellsES Tryd.cellsStr hd0 ok0
 exact ⟨a0,s0,by simpa using World.var?_cell hg0 hv0 0,hc0,hs0,(hrows a0.block a0.off (by simp [MemPlace.row])).1⟩
theorem Tryd.oneRow:((List.range 172).filter fun t=>Tryd.prog.rowNamed t [101,114,114,111,114])=[28]:=by kernel_rfl
theorem Tryd.sizeTypes:Tryd.prog.types.size=172:=by kernel_rfl
theorem Tryd.handleErr:typeHandle Tryd.prog 28=.pointer (some ⟨10,28,none⟩):=by kernel_rfl
theorem Tryd.gType:Tryd.prog.globalNamed "errors.errorType" = some 9:=by kernel_rfl
def nth9 (a0 a1 a2 a3 a4 a5 a6 a7 a8:Addr):Nat → Addr
 | 0=>a0 | 1=>a1 | 2=>a2 | 3=>a3 | 4=>a4 | 5=>a5 | 6=>a6 | 7=>a7 | _=>a8
theorem errsB_of_laid {W:World} (h:laidMetH Tryd.prog Rows.sideDelaysRow.laid W):∃ ad,ErrsB W ad ∧ ∀ k,k < 9 → ∃ s:ByteArray,W.cell? (ad k)=some (.string s):=by
 have h':laidMet Tryd.prog Rows.sideDelaysRow.laid.tail W ∧ handlesMet Tryd.prog [("errors.errorType",Rows.laid_errors_errorType)] W:=h
 obtain ⟨h1,h2⟩:=h'
 have hty:W.cell? ⟨9,0,none⟩=some (.iface 125 (.agg #[.pointer (some ⟨10,28,none⟩)])):=by
  obtain ⟨name,u,ty,e1,e2,e3,e4,e5⟩:=h2 _ (List.mem_singleton.2 rfl)
  have en:name=[101,114,114,111,114]:=(Option.some.inj e1).symm
  subst en
  obtain rfl:u=125:=Option.some.inj (e2.symm.trans (by kernel_rfl))
  have hm:ty ∈ (List.range 172).filter fun t=>Tryd.prog.rowNamed t [101,114,114,111,114]:=List.mem_filter.2 ⟨List.mem_range.2 (by rw [← Tryd.sizeTypes];exact e3),e4⟩
  rw [Tryd.oneRow] at hm
  obtain rfl:=List.mem_singleton.1 hm
  rw [Tryd.handleErr] at e5
  simpa using World.var?_cell Tryd.gType e5 0
 obtain ⟨a0,s0,v0,c0,t0,b0⟩:=sentinel_of_laid (g:=3) h1 rfl (by kernel_rfl) (by kernel_rfl)
 obtain ⟨a1,s1,v1,c1,t1,b1⟩:=sentinel_of_laid (g:=2) h1.tail rfl (by kernel_rfl) (by kernel_rfl)
 obtain ⟨a2,s2,v2,c2,t2,b2⟩:=sentinel_of_laid (g:=1) h1.tail.tail rfl (by kernel_rfl) (by kernel_rfl)
 obtain ⟨a3,s3,v3,c3,t3,b3⟩:=sentinel_of_laid (g:=0) h1.tail.tail.tail rfl (by kernel_rfl) (by kernel_rfl)
 obtain ⟨a4,s4,v4,c4,t4,b4⟩:=sentinel_of_laid (g:=4) h1.tail.tail.tail.tail rfl (by kernel_rfl) (by kernel_rfl)
 obtain ⟨a5,s5,v5,c5,t5,b5⟩:=sentinel_of_laid (g:=5) h1.tail.tail.tail.tail.tail rfl (by kernel_rfl) (by kernel_rfl)
 obtain ⟨a6,s6,v6,c6,t6,b6⟩:=sentinel_of_laid (g:=6) h1.tail.tail.tail.tail.tail.tail rfl (by kernel_rfl) (by kernel_rfl)
 obtain ⟨a7,s7,v7,c7,t7,b7⟩:=sentinel_of_laid (g:=7) h1.tail.tail.tail.tail.tail.tail.tail rfl (by kernel_rfl) (by kernel_rfl)
 obtain ⟨a8,s8,v8,c8,t8,b8⟩:=sentinel_of_laid (g:=8) h1.tail.tail.tail.tail.tail.tail.tail.tail rfl (by kernel_rfl) (by kernel_rfl)
 have hc:∀ i,i < 9 → ∃ s:ByteArray,W.cell? (nth9 a0 a1 a2 a3 a4 a5 a6 a7 a8 i)=some (.string s) ∧ some s.data.toList=[s0,s1,s2,s3,s4,s5,s6,s7,s8][i]?.map fun s=>s.data.toList:=by
  intro i hi
  match i,hi with
  | 0,_=>exact ⟨s0,c0,rfl⟩
  | 1,_=>exact ⟨s1,c1,rfl⟩
  | 2,_=>exact ⟨s2,c2,rfl⟩
  | 3,_=>exact ⟨s3,c3,rfl⟩
  | 4,_=>exact ⟨s4,c4,rfl⟩
  | 5,_=>exact ⟨s5,c5,rfl⟩
  | 6,_=>exact ⟨s6,c6,rfl⟩
  | 7,_=>exact ⟨s7,c7,rfl⟩
  | 8,_=>exact ⟨s8,c8,rfl⟩
  | i+9,h=>omega
 refine ⟨nth9 a0 a1 a2 a3 a4 a5 a6 a7 a8,⟨⟨hty,v0,v1,v2,v3,v4,v5,v6,v7,v8⟩,?_,?_⟩,fun k hk=>(hc k hk).elim fun s hs=>⟨s,hs.1⟩⟩
 ·
  have hl:[s0,s1,s2,s3,s4,s5,s6,s7,s8].map (fun s=>s.data.toList)=(Rows.sideDelaysRow.laid.tail.map fun x=>match x.2 with | .iface _ (.ptr (.agg [.lit (.string t)]))=>t | _=>[]):=by
   simp only [List.map_cons,List.map_nil,t0,t1,t2,t3,t4,t5,t6,t7,t8]
   rfl
  have hnd:((Rows.sideDelaysRow.laid.tail.map fun x=>match x.2 with | .iface _ (.ptr (.agg [.lit (.string t)]))=>t | _=>[]):List (List UInt8)).Nodup:=by decide
  intro i j hi hj hij he
  obtain ⟨s,h1,h2⟩:=hc i hi
  obtain ⟨u,h3,h4⟩:=hc j hj
  rw [he,h3] at h1
  injection h1 with h1
  injection h1 with h1
  subst h1
  rw [← List.getElem?_map,hl] at h2 h4
  exact hij ((List.getElem?_inj (by rw [← hl];simpa using hi) hnd).1 (h2.symm.trans h4))
 ·
  intro i hi
  match i,hi with
  | 0,_=>exact b0
  | 1,_=>exact b1
  | 2,_=>exact b2
  | 3,_=>exact b3
  | 4,_=>exact b4
  | 5,_=>exact b5
  | 6,_=>exact b6
  | 7,_=>exact b7
  | 8,_=>exact b8
  | i+9,h=>omega
theorem door_met9 (os:Os) (args:Array Value):laidMetH Tryd.prog Rows.sideDelaysRow.laid ((World.doorLaid Tryd.prog 187 os).forCall (fun _ _=>0) ⟨#[],args,[]⟩).memory:=
 laidMetH_of_parts3 (fuel:=8) (laidMet_of_run' 8 (by kernel_rfl) (by kernel_rfl)) (by kernel_rfl) (by kernel_rfl)
end Go.Proofs.YtbokomeejmnnoaaDoor

set_option maxRecDepth 100000
namespace Go.Proofs.YtbokomeejmnnoaaDoor
open Go.ChangeShapes Go.WideShapes Go.ChangeAt Go.RowKit
theorem one_of_shape {W:World} (hs:W.ShapedOpen Tryd.prog) {g:Nat} (hg:g < Tryd.prog.globals.size) (h0:(((begin Tryd.prog (fun _ _=>0) default).world.heap[g]?).bind Obj.row?).map (fun p=>p.1.size)=some 1):∃ x t,W.heap[g]? = some (.cells #[x] t (0,0)):=by
 obtain ⟨⟨zero,t⟩,h1,h2⟩:=Option.map_eq_some_iff.1 h0
 obtain ⟨cs,hh,hsz,-⟩:=hs.1 g zero t hg h1
 have hsz:cs.size=1:=hsz.trans h2
 obtain ⟨l⟩:=cs
 match l,hsz,hh with
 | [y],_,hh=>exact ⟨y,t,hh⟩
theorem need_one {W:World} (hs:W.ShapedOpen Tryd.prog) {g:Nat} (hg:needG g=true):∃ x t,W.heap[g]? = some (.cells #[x] t (0,0)):=by
 have hg':=hg
 simp only [needG,delayVars,Bool.or_eq_true,beq_iff_eq,List.contains_eq_mem,List.mem_cons,List.not_mem_nil,or_false,decide_eq_true_eq] at hg'
 have hl:=need_lt hg
 rcases hg' with rfl | rfl | rfl | rfl | rfl | rfl | rfl | rfl | rfl | rfl <;> exact one_of_shape hs hl (by kernel_rfl)
theorem errsW_of_laid {W:World} (h:laidMetH Tryd.prog Rows.sideDelaysRow.laid W) (hs:W.ShapedOpen Tryd.prog) (hsz:Tryd.prog.globals.size ≤ W.heap.size):∃ ad,ErrsW W.heap.size W ad:=by
 obtain ⟨ad,he,hc⟩:=errsB_of_laid h
 have hcell:∀ g,needG g=true → ∃ ty v,W.cell? ⟨g,0,none⟩=some (.iface ty v):=fun g hg=>by
  simp only [needG,delayVars,Bool.or_eq_true,beq_iff_eq,List.contains_eq_mem,List.mem_cons,List.not_mem_nil,or_false,decide_eq_true_eq] at hg
  rcases hg with rfl | rfl | rfl | rfl | rfl | rfl | rfl | rfl | rfl | rfl
  · exact ⟨_,_,he.typ⟩
  · exact ⟨_,_,he.c0⟩
  · exact ⟨_,_,he.c1⟩
  · exact ⟨_,_,he.c2⟩
  · exact ⟨_,_,he.c3⟩
  · exact ⟨_,_,he.c4⟩
  · exact ⟨_,_,he.c5⟩
  · exact ⟨_,_,he.c6⟩
  · exact ⟨_,_,he.c7⟩
  · exact ⟨_,_,he.c8⟩
 refine ⟨ad,he,fun g hg=>need_one hs hg,fun k hk=>?_,fun k hk=>?_,hsz,Nat.le_refl _⟩
 ·
  cases hn:needG (ad k).block with
  | false=>rfl
  | true=>
   obtain ⟨s,hstr⟩:=hc k hk
   obtain ⟨x,t,hrow⟩:=need_one hs hn
   obtain ⟨ty,v,hif⟩:=hcell _ hn
   have hx:x=.iface ty v:=by simpa [World.cell?,hrow] using hif
   subst hx
   unfold World.cell? at hstr
   rw [hrow] at hstr
   simp at hstr
   obtain ⟨-,h2⟩:=hstr
   rcases hoff:(ad k).off with _ | o <;> rw [hoff] at h2 <;> simp at h2
 ·
  obtain ⟨s,hstr⟩:=hc k hk
  exact cell_lt hstr
end Go.Proofs.YtbokomeejmnnoaaDoor
