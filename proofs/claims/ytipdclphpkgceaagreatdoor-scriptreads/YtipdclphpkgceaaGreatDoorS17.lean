/- Own facts, put together: no statement of its own. -/
import Derived.BigRegion
import Derived.Test.YtipdclphpkgceaaGreatDoorS02
import Derived.Test.YtipdclphpkgceaaGreatDoorS04
import Derived.Test.YtipdclphpkgceaaGreatDoorS10
import Derived.Test.YtipdclphpkgceaaGreatDoorS13
import Derived.Deep.LoopGhost
import Derived.Test.YtipdclphpkgceaaGreatDoorS09
import Derived.Maps.OwnOps
import Derived.Maps.Views
import Derived.Laws.EntriesVeiled
import Derived.Laws.StructEq
import Derived.Test.YtipdclphpkgceaaGreatDoorS01
import Derived.Test.YtipdclphpkgceaaGreatDoorS08
set_option maxHeartbeats 2000000
set_option maxRecDepth 100000

namespace Go.Proofs.YtipdclphpkgceaaGreatDoor
open Go.RowKit
theorem liesN_keep {S:Nat → Prop} {w w':World} {a:Option Addr} {ns:List Int} (h:LiesN w a ns) (hb:But S w w') (hs:∀ ad,a=some ad → ¬ S ad.block):LiesN w' a ns:=by
 rcases h with rfl | ⟨b,off,rfl,hlt,hc⟩
 · exact .inl rfl
 ·
  have hn:¬ S b:=hs _ rfl
  exact .inr ⟨b,off,rfl,Nat.lt_of_lt_of_le hlt hb.size,fun i x hi=>by rw [hb.cell (p:=⟨b,off+i,none⟩) hlt hn];exact hc i x hi⟩
def linesF (ds:List (Int × Int)) (j:Nat):Value:=.int .i64 (if j % 2=0 then (ds.getD (j / 2) (0,0)).1 else (ds.getD (j / 2) (0,0)).2)
theorem linesF_put (ds:List (Int × Int)) (x y:Int):putV (putV (linesF ds) (2 * ds.length) (.int .i64 x)) (2 * ds.length+1) (.int .i64 y)=linesF (ds ++ [(x,y)]):=by
 funext i
 unfold putV linesF
 by_cases h1:i=2 * ds.length+1
 ·
  subst h1
  rw [if_pos rfl,if_neg (by omega),show (2 * ds.length+1) / 2=ds.length by omega]
  simp
 ·
  rw [if_neg h1]
  by_cases h2:i=2 * ds.length
  ·
   subst h2
   rw [if_pos rfl,if_pos (by omega),show (2 * ds.length) / 2=ds.length by omega]
   simp
  ·
   rw [if_neg h2]
   rcases Nat.lt_or_ge (i / 2) ds.length with h' | h'
   · simp [List.getElem?_append_left h']
   · simp [List.getElem?_eq_none h',List.getElem?_eq_none (show (ds ++ [(x,y)]).length ≤ i / 2 by simp;omega)]
theorem lies_of_vals {w:World} {g:Nat} {ds:List (Int × Int)} (h:ValsAt w g (2 * ds.length) (linesF ds)):Lies w (some ⟨g,0,none⟩) ds:=by
 refine .inr ⟨g,0,rfl,h.lt,fun i x y hi=>?_⟩
 have hl:=lt_of_get hi
 rw [Nat.zero_add,h.cell (i * 2) (by omega),h.cell (i * 2+1) (by omega)]
 unfold linesF
 rw [if_pos (by omega),if_neg (by omega),show i * 2 / 2=i by omega,show (i * 2+1) / 2=i by omega]
 simp [hi]
theorem make_lines (n:Nat) (hn:n ≤ 1000) (w':World):(Instr.makeSlice 62 (.int .i64 n) (.int .i64 n)).run Tryz.prog w'=.ok (.slice (some ⟨w'.heap.size,0,none⟩) n n) (w'.alloc (.cells (madeCells #[.int .i64 0,.int .i64 0] (n * 2)) 83)):=by
 obtain ⟨i0,hi,hz0,hz1,hz2⟩:=info_parts Tryz.infoLine
 have:=run_make (P:=Tryz.prog) w' 62 83 i0 (.agg #[.int .i64 0,.int .i64 0]) Tryz.underlying62 hi hz0 .i64 .i64 n n (by omega) (by omega) (by rw [hz2];omega) (by omega)
 simpa [hz1,Value.cells] using this
theorem made_two (n j:Nat) (h:j < n):(madeCells #[.int .i64 0,.int .i64 0] n)[j]? = some (.int .i64 0):=by
 unfold madeCells
 rcases (show j % 2=0 ∨ j % 2=1 by omega) with e | e <;> simp [h,e]
theorem lines_made (w:World) (n:Nat) (t:TypeId):ValsAt (w.alloc (.cells (madeCells #[.int .i64 0,.int .i64 0] (n * 2)) t)) w.heap.size (2 * n) (linesF []):=by
 refine ⟨fun i hi=>?_,fun i=>World.frozen?_alloc_new w _ _ i,by simp⟩
 rw [World.cell?_alloc_at _ _ _ _ rfl,made_two _ _ (by omega)]
 unfold linesF
 simp
def LinesEnd (a0:Addr) (o:Option (List (Int × Int))) (w:World) (e:Ending) (w':World):Prop:=
 Below w.heap.size w w' ∧ ((o=none ∧ e=.returned (.tuple #[.slice none 0 0,.iface 312 (.pointer (some a0))])) ∨
  ∃ ls g,o=some ls ∧ e=.returned (.tuple #[.slice (some ⟨g,0,none⟩) ls.length ls.length,.nilIface]) ∧ w.heap.size ≤ g ∧ g < w'.heap.size ∧ Lies w' (some ⟨g,0,none⟩) ls)
section
variable (a:Option Addr) (cap:Nat) (ws:List (List UInt8)) (w:World) (a0:Addr) (h0:w.cell? ⟨1,0,none⟩=some (.iface 312 (.pointer (some a0)))) (hl:LiesW w a ws) (hs:ShortW ws)
theorem readLines_is (a:Option Addr) (cap:Nat) (ws:List (List UInt8)) (w:World) (a0:Addr) (h0:w.cell? ⟨1,0,none⟩=some (.iface 312 (.pointer (some a0)))) (hl:LiesW w a ws) (hs:ShortW ws) :
  Calls Tryz.prog 99 #[.slice a ws.length cap] w fun e w'=>LinesEnd a0 (linesW ws) w e w':=by
 have HC:=(show Hid (Calls Tryz.prog 103 #[.slice a ws.length cap] w fun e w'=>ReadsEnd a0 (numsW ws) w e w') from readNumbers_is a cap ws w a0 h0 hl hs)
 obtain ⟨n,hn⟩:∃ n,ws.length=n:=⟨_,rfl⟩
 have HN:Hid (ws.length=n):=hn
 have hn1:n ≤ 1000:=by rw [← hn];exact hs.1
 rw [hn] at HC ⊢
 have r0:(0:Int) ≤ n:=by omega
 by_cases hodd:n % 2=0
 ·
  have hm2:(n:Int) % 2=0:=by omega
  obtain ⟨h,hh⟩:∃ h,n=2 * h:=⟨n / 2,by omega⟩
  have hd2:(n:Int) / 2=h:=by omega
  have hh1:h ≤ 500:=by omega
  have hmk:=make_lines h (by omega)
  have HH:Hid (n=2 * h):=hh
  clear hl hs hn h0 hodd hh
  go_enter Tryz.func99,Tryz.ntmps99
  go_wp2_with fail
  refine HC.out.mono ?_
  rintro e w1 ⟨hb1,⟨ho,rfl⟩ | ⟨ns,g,ho,rfl,hg,-,hns⟩⟩
  ·
   have HE:Hid (LinesEnd a0 (linesW ws) w (.returned (.tuple #[.slice none 0 0,.iface 312 (.pointer (some a0))])) w1):=⟨hb1,.inl ⟨by unfold linesW;rw [ho,if_neg (by rw [HN.out];omega)];rfl,rfl⟩⟩
   clear ho hb1
   go_wp2_with fail
   go_ret2
   exact HE.out
  ·
   have hnl:ns.length=n:=by rw [numsW_length ho,HN.out]
   obtain ⟨r,hr⟩:∃ r,ns.length=r:=⟨_,rfl⟩
   have HNL:Hid (ns.length=2 * h):=by rw [hnl];exact HH.out
   have HR:Hid (r=2 * h):=by rw [← hr];exact HNL.out
   have HO:Hid (numsW ws=some ns ∧ Below w.heap.size w w1 ∧ w.heap.size ≤ g ∧ LiesN w1 (some ⟨g,0,none⟩) ns):=⟨ho,hb1,hg,hns⟩
   have hb2:Below w.heap.size w (w1.alloc (.cells (madeCells #[.int .i64 0,.int .i64 0] (h * 2)) 83)):=hb1.alloc hb1.size _
   have hv2:ValsAt (w1.alloc (.cells (madeCells #[.int .i64 0,.int .i64 0] (h * 2)) 83)) w1.heap.size (2 * h) (linesF []):=lines_made w1 h 83
   have hn2:LiesN (w1.alloc (.cells (madeCells #[.int .i64 0,.int .i64 0] (h * 2)) 83)) (some ⟨g,0,none⟩) ns:=hns.below ((Below.refl _ _).alloc (Nat.le_refl _) _)
   obtain ⟨V,hV⟩:∃ V,w1.alloc (.cells (madeCells #[.int .i64 0,.int .i64 0] (h * 2)) 83)=V:=⟨_,rfl⟩
   obtain ⟨G,hG⟩:∃ G,w1.heap.size=G:=⟨_,rfl⟩
   rw [hV] at hb2 hv2 hn2
   have hmk1:(Instr.makeSlice 62 (.int .i64 h) (.int .i64 h)).run Tryz.prog w1=.ok (.slice (some ⟨G,0,none⟩) h h) V:=by rw [hmk w1,hV,hG]
   rw [hG] at hv2
   have hgG:0 < h → g < G:=fun hpos=>by
    rw [← hG]
    rcases hns with h' | ⟨b,off,hb,hlt,-⟩
    ·
     subst h'
     have:=HNL.out
     simp at this
     omega
    · cases hb;exact hlt
   have HV:Hid (Below w.heap.size w V ∧ ValsAt V G (2 * h) (linesF []) ∧ LiesN V (some ⟨g,0,none⟩) ns):=⟨hb2,hv2,hn2⟩
   have HG:Hid (w.heap.size ≤ G ∧ (0 < h → g < G)):=⟨by rw [← hG];exact hb1.size,hgG⟩
   rw [hr]
   clear ho hb1 hg hns hb2 hv2 hn2 hV hG hmk hgG hnl hr HC
   go_wp2_with fail
   go_loopw [27] (fun i wr=>∃ k:Nat,∃ ds:List (Int × Int),k ≤ h ∧ i=.int .i64 k ∧ ds.length=k ∧ Below w.heap.size w wr ∧ ValsAt wr G (2 * h) (linesF ds) ∧ LiesN wr (some ⟨g,0,none⟩) ns ∧ ∀ (j:Nat) x y,ds[j]? = some (x,y) → ns[2 * j]? = some x ∧ ns[2 * j+1]? = some y) (fun i _=>h - (intOf i).toNat)
   case atStart=>exact ⟨0,[],Nat.zero_le _,rfl,rfl,HV.out.1,HV.out.2.1,HV.out.2.2,fun j x y h=>by simp at h⟩
   case round=>
    obtain ⟨k,ds,hk,rfl,hds,hb,hv,hn,hd⟩:=hrel
    by_cases hkh:k < h
    ·
     obtain ⟨p,hp⟩:∃ p,2 * k=p:=⟨_,rfl⟩
     obtain ⟨q,hq⟩:∃ q,p+1=q:=⟨_,rfl⟩
     have hpz:(2:Int) * (k:Int)=(p:Int):=by omega
     have hqz:(p:Int)+1=(q:Int):=by omega
     have hpn:p < r:=by rw [HR.out];omega
     have hqn:q < r:=by rw [HR.out];omega
     obtain ⟨x,hx,-⟩:=get_some ns p (by rw [HNL.out];omega)
     obtain ⟨y,hy,-⟩:=get_some ns q (by rw [HNL.out];omega)
     have hcx:wr.cell? ⟨g,p,none⟩=some (.int .i64 x):=by
      rcases hn with h' | ⟨b,off,hb',-,hc⟩
      · rw [h'] at hx;simp at hx
      ·
       cases hb'
       have:=hc p x hx
       rwa [Nat.zero_add] at this
     have hcy:wr.cell? ⟨g,q,none⟩=some (.int .i64 y):=by
      rcases hn with h' | ⟨b,off,hb',-,hc⟩
      · rw [h'] at hx;simp at hx
      ·
       cases hb'
       have:=hc q y hy
       rwa [Nat.zero_add] at this
     have f0:=hv.frozen (k * 2)
     have f1:=hv.frozen (k * 2+1)
     have c0:=hv.cell (k * 2) (by omega)
     have c1:=hv.cell (k * 2+1) (by omega)
     have HNx:Hid (∀ V,((wr.setCell ⟨G,k * 2,none⟩ (.int .i64 x)).setCell ⟨G,k * 2+1,none⟩ (.int .i64 y))=V → Below w.heap.size w V ∧ ValsAt V G (2 * h) (linesF (ds ++ [(x,y)])) ∧ LiesN V (some ⟨g,0,none⟩) ns ∧ (ds ++ [(x,y)]).length=k+1 ∧ ∀ (j:Nat) x' y',(ds ++ [(x,y)])[j]? = some (x',y') → ns[2 * j]? = some x' ∧ ns[2 * j+1]? = some y'):=by
      intro V hV
      subst hV
      refine ⟨below_store (below_store hb HG.out.1 _) HG.out.1 _,?_,?_,by simp [hds],?_⟩
      ·
       rw [← linesF_put,hds,show 2 * k=k * 2 by omega]
       exact (hv.put (by omega) _).put (by omega) _
      ·
       refine liesN_keep (S:=fun b=>b=G) hn (But.setCell (p:=⟨G,k * 2+1,none⟩) (But.setCell (p:=⟨G,k * 2,none⟩) (But.refl (fun b=>b=G) wr) rfl _) rfl _) fun ad e=>?_
       cases e
       have:=HG.out.2 (by omega)
       show ¬ g=G
       omega
      ·
       intro j x' y' hj
       rcases get_snoc hj with ⟨-,h2⟩ | ⟨h1,h2⟩
       · exact hd j x' y' h2
       ·
        cases h2
        rw [h1,hds,hp,hq]
        exact ⟨hx,hy⟩
     clear hb hv hn hd hds hx hy hp hq
     go_wp2_with fail
     go_region
     obtain ⟨V,hV⟩:∃ V,((wr.setCell ⟨G,k * 2,none⟩ (.int .i64 x)).setCell ⟨G,k * 2+1,none⟩ (.int .i64 y))=V:=⟨_,rfl⟩
     have HF:=(show Hid _ from HNx.out V hV)
     rw [hV]
     clear hV HNx hcx hcy f0 f1 c0 c1
     go_wp2_with fail
     go_roundw
     case rel=>exact ⟨k+1,ds ++ [(x,y)],by omega,by go_num,HF.out.2.2.2.1,HF.out.1.drew,HF.out.2.1.drew,HF.out.2.2.1.below ((Below.refl _ _).drew),HF.out.2.2.2.2⟩
     case measure=>simp [intOf];omega
    ·
     obtain rfl:k=h:=by omega
     have e:ds=pairsW ns:=by
      apply List.ext_getElem?
      intro i
      rcases Nat.lt_or_ge i ds.length with h' | h'
      ·
       obtain ⟨⟨x,y⟩,hi,-⟩:=get_some ds i h'
       obtain ⟨h1,h2⟩:=hd i x y hi
       rw [hi,pairsW_get ns i x y h1 h2]
      · rw [List.getElem?_eq_none h',List.getElem?_eq_none (by rw [pairsW_length,HNL.out];omega)]
     have HE:Hid (LinesEnd a0 (linesW ws) w (.returned (.tuple #[.slice (some ⟨G,0,none⟩) k k,.nilIface])) wr):=by
      refine ⟨hb,.inr ⟨ds,G,by unfold linesW;rw [if_neg (by rw [HN.out,HH.out];omega),HO.out.1,e];rfl,by rw [hds],HG.out.1,hv.lt,lies_of_vals (by rw [hds];exact hv)⟩⟩
     clear hb hv hn hd hds e
     go_wp2_with fail
     go_ret2
     exact HE.out
 ·
  have hm2:(n:Int) % 2=1:=by omega
  have HE:Hid (∀ q,LinesEnd a0 (linesW ws) w (.returned (.tuple #[.slice none 0 0,.iface 312 (.pointer (some a0))])) (w.drewN q)):=fun q=>⟨below_drewN (Below.refl _ _) q,.inl ⟨by unfold linesW;rw [if_pos];rw [hn];omega,rfl⟩⟩
  clear hl hs hn HC hodd
  go_enter Tryz.func99,Tryz.ntmps99
  go_wp2_with fail
  go_quiet (fail)
  go_wp2_with fail
  go_ret2
  exact HE.out nq
end
def AtEnd (p:Int) (v:Value) (w:World) (e:Ending) (w':World):Prop:=∃ B,e=.returned (.iface 75 (.pointer (some ⟨B,0,none⟩))) ∧ w'.cell? ⟨B,0,none⟩=some (.int .i64 p) ∧ w'.cell? ⟨B,1,none⟩=some v ∧ w.heap.size ≤ B ∧ Below w.heap.size w w'
theorem atEnd_made {p:Int} {v:Value} {w W:World} {t:TypeId} (h:Below w.heap.size w W):AtEnd p v w (.returned (.iface 75 (.pointer (some ⟨W.heap.size,0,none⟩)))) (W.alloc (.cells #[.int .i64 p,v] t)):=
 ⟨W.heap.size,rfl,by simp,by simp,h.size,h.alloc h.size _⟩
theorem faultAt_fault (p:Int) (pb:Nat) (ty:TypeId) (x:Value) (w:World) (ad:Nat → Addr) (he:Errs9 w ad) (hp1:w.cell? ⟨pb,1,none⟩=some (.iface ty x)) :
  Calls Tryz.prog 148 #[.int .i64 p,.iface 75 (.pointer (some ⟨pb,0,none⟩))] w (AtEnd p (.iface ty x) w):=by
 have HB0:Hid (Below w.heap.size w (w.alloc (.cells #[.pointer none] 75))):=(Below.refl _ _).alloc (Nat.le_refl _) _
 have HE:Hid (Errs9 w ad):=he
 have HP1:Hid (w.cell? ⟨pb,1,none⟩=some (.iface ty x)):=hp1
 clear he hp1
 go_enter Tryz.func148,Tryz.ntmps148
 go_wp2_with fail
 refine (as_hit ⟨pb,0,none⟩ ⟨w.heap.size,0,none⟩ (.pointer none) _ (HE.out.below HB0.out).typ (by simp) (by simp)).mono ?_
 rintro e w1 ⟨rfl,hw1⟩
 have hb1:Below w.heap.size w w1:=by
  rw [hw1]
  exact ((((HB0.out.alloc (by simp) _).alloc (by simp;omega) _).alloc (by simp;omega) _).alloc (by simp;omega) _).setCell (Nat.le_refl _) _
 have ht1:w1.cell? ⟨w.heap.size,0,none⟩=some (.pointer (some ⟨pb,0,none⟩)):=by
  rw [hw1]
  exact set_at w _ _ _ _ _
 have HB1:Hid (Below w.heap.size w w1):=hb1
 have hq1:w1.cell? ⟨pb,1,none⟩=some (.iface ty x):=cell_later hb1 HP1.out
 clear hw1 hb1
 go_wp2_with fail
 go_ret
 exact atEnd_made HB1.out
theorem faultAt_sent (p:Int) (e:Addr) (w:World) (ad:Nat → Addr) (he:Errs9 w ad) :
  Calls Tryz.prog 148 #[.int .i64 p,.iface 312 (.pointer (some e))] w (AtEnd p (.iface 312 (.pointer (some e))) w):=by
 have HB0:Hid (Below w.heap.size w (w.alloc (.cells #[.pointer none] 75))):=(Below.refl _ _).alloc (Nat.le_refl _) _
 have HE:Hid (Errs9 w ad):=he
 clear he
 go_enter Tryz.func148,Tryz.ntmps148
 go_wp2_with fail
 refine (as_miss e ⟨w.heap.size,0,none⟩ _ (HE.out.below HB0.out).typ).mono ?_
 rintro e w1 ⟨rfl,hw1⟩
 have HB1:Hid (Below w.heap.size w w1):=by
  show Below _ _ _
  rw [hw1]
  exact ((HB0.out.alloc (by simp) _).alloc (by simp;omega) _).alloc (by simp;omega) _
 clear hw1
 go_wp2_with fail
 go_ret
 exact atEnd_made HB1.out
theorem isEmpty_any (a:Option Addr) (n cap:Nat) (w:World) (b:Bool) (hb:((n:Int) == 0)=b) :
  Calls Tryz.prog 118 #[.slice a n cap] w fun e w'=>e=.returned (.bool b) ∧ w'=w:=by
 go_enter Tryz.func118,Tryz.ntmps118
 go_wp2_with fail
 go_ret
 exact ⟨rfl,rfl⟩
def BareOf (ad:Nat → Addr) (c:Int) (w:World) (e:Ending) (w':World):Prop:=∃ ty v,e=.returned (.iface ty v) ∧ Below w.heap.size w w' ∧ ∃ k:Nat,k < 9 ∧ c=((k+1:Nat):Int) ∧ ∀ W (p:Int),Below w'.heap.size w' W → Calls Tryz.prog 148 #[.int .i64 p,.iface ty v] W (AtEnd p (.iface 312 (.pointer (some (ad k)))) W)
theorem check_bare (a:Option Addr) (cap:Nat) (ls:List (Int × Int)) (w:World) (ad:Nat → Addr) (he:Errs9 w ad) (hl:Lies w a ls) (hcap:ls.length ≤ cap) (hm:cap ≤ maxLen) (c p:Int) (h:FaultIs ls c p) (hc:0 < c) :
  Calls Tryz.prog 89 #[.slice a ls.length cap] w fun e w'=>BareOf ad c w e w':=by
 rcases h with ⟨h1,rfl,rfl⟩ | ⟨h1,h6,j,hj,hg,hb,rfl,rfl⟩ | ⟨h,rfl,rfl⟩
 ·
  refine (check_shape a ls.length cap w _ he.c2 (by omega) h1).mono ?_
  rintro e w' ⟨rfl,rfl⟩
  exact ⟨_,_,rfl,Below.refl _ _,2,by omega,rfl,fun W p hW=>faultAt_sent p (ad 2) W ad (he.below hW)⟩
 ·
  refine (check_bad a cap ls w (ad 1) he.c1 hl h1 h6 j hj hg hb).mono ?_
  rintro e w' ⟨hbel,B,rfl,h7,h8,h9,h10⟩
  exact ⟨_,_,rfl,hbel,1,by omega,rfl,fun W p hW=>faultAt_fault p B _ _ W ad ((he.below hbel).below hW) (cell_later hW h10)⟩
 · exact absurd hc (by omega)
theorem curvesCheck_short (ca:Option Addr) (m ccap:Nat) (w:World) (ad:Nat → Addr) (he:Errs9 w ad) (h:m ≠ 8) :
  Calls Tryz.prog 116 #[.slice ca m ccap] w fun e w'=>∃ E,e=.returned E ∧ ErrIs w' E 3 (-1) ∧ Below w.heap.size w w':=by
 have c2:=he.c2
 have HE:Hid (Errs9 w ad):=he
 have hz:((m:Int) == 8)=false:=by simp;omega
 have hz2:¬ (m:Int)=8:=by omega
 clear he
 go_enter Tryz.func116,Tryz.ntmps116
 go_wp2_with fail
 go_ret
 exact ⟨_,rfl,errIs_sent HE.out 2 (by omega),Below.refl _ _⟩
def CurvesEnd (c p:Int) (w:World) (e:Ending) (w':World):Prop:=∃ E,e=.returned E ∧ ErrIs w' E c p ∧ Below w.heap.size w w'
theorem curvesCheck_to (ca:Option Addr) (ccap:Nat) (cs:List (List (Int × Int))) (w:World) (ad:Nat → Addr) (he:Errs9 w ad) (hl:LiesC w ca cs) (h8:cs.length=8) (i:Nat) (hi:i ≤ 8) (hto:CurvesTo cs i) (c p:Int) (hbad:(i=8 ∧ c=0 ∧ p = -1) ∨ (CurveBad cs i c ∧ p=i)) :
  Calls Tryz.prog 116 #[.slice ca cs.length ccap] w fun e w'=>CurvesEnd c p w e w':=by
 have HE:Hid (Errs9 w ad):=he
 have HTo:Hid (CurvesTo cs i):=hto
 have HBad:Hid ((i=8 ∧ c=0 ∧ p = -1) ∨ (CurveBad cs i c ∧ p=i)):=hbad
 obtain ⟨b,off,rfl,-,hcc⟩:=hl.place (by omega)
 have HC:Hid (∀ (i:Nat) ls,cs[i]? = some ls → ∃ a' cap,w.cell? ⟨b,off+i,none⟩=some (.slice a' ls.length cap) ∧ Lies w a' ls ∧ ls.length ≤ cap ∧ cap ≤ maxLen ∧ (a'=none → ls=[] ∧ cap=0)):=hcc
 have H8:Hid (cs.length=8):=h8
 rw [h8]
 clear he hto hbad hl hcc h8
 go_enter Tryz.func116,Tryz.ntmps116
 go_wp2_with fail
 go_loopg [12] 8 (fun gk iv wr=>∃ k:Nat,iv=.int .i64 (k:Int) ∧ k ≤ i ∧ 8 - k ≤ gk ∧ Hid (Below w.heap.size w wr))
 case atStart=>exact ⟨0,rfl,Nat.zero_le _,by omega,Below.refl _ _⟩
 case round=>
  obtain ⟨k,rfl,hki,hgk,HB⟩:=hrel
  by_cases hk8:k < 8
  ·
   have hkz:(k:Int) < 8:=by omega
   obtain ⟨ls,hls,-⟩:=get_some cs k (by rw [H8.out];exact hk8)
   obtain ⟨a',cap,cj0,hlies,hlc,hlm,-⟩:=HC.out k ls hls
   have cj:=cell_later HB.out cj0
   have HG:Hid (cs[k]? = some ls):=hls
   obtain ⟨n,hn⟩:∃ n,ls.length=n:=⟨_,rfl⟩
   have HN:Hid (ls.length=n):=hn
   have HL:Hid (Lies w a' ls ∧ ls.length ≤ cap ∧ cap ≤ maxLen):=⟨hlies,hlc,hlm⟩
   rw [hn] at cj
   clear hls cj0 hlies hlc hlm hn
   by_cases hn0:n=0
   ·
    have HEm:Hid (Calls Tryz.prog 118 #[.slice a' n cap] wr fun e w'=>e=.returned (.bool true) ∧ w'=wr):=isEmpty_any a' n cap wr true (by simp;exact hn0)
    have HNe:Hid (k < i):=by
     show k < i
     rcases Nat.lt_or_ge k i with h | h
     · exact h
     ·
      obtain rfl:k=i:=by omega
      rcases HBad.out with ⟨h1,-⟩ | ⟨⟨ls',p',h1,h2,-⟩,-⟩
      · omega
      ·
       rw [HG.out] at h1
       obtain rfl:=Option.some.inj h1
       exact absurd (List.length_eq_zero_iff.1 (HN.out.trans hn0)) h2
    clear hn0
    go_wp2_with fail
    refine HEm.out.mono ?_
    rintro e w1 ⟨rfl,rfl⟩
    go_wp2_with fail
    go_roundg (8 - (k+1))
    case measure=>omega
    case rel=>exact ⟨k+1,by go_num,HNe.out,Nat.le_refl _,HB⟩
   ·
    have HEm:Hid (Calls Tryz.prog 118 #[.slice a' n cap] wr fun e w'=>e=.returned (.bool false) ∧ w'=wr):=isEmpty_any a' n cap wr false (by simp;omega)
    by_cases hk:k < i
    ·
     have hok:okCurve ls:=by
      rcases HTo.out k ls hk HG.out with h | h
      · exact absurd (by rw [← HN.out,h];rfl) hn0
      · exact h
     have HCh:Hid (Calls Tryz.prog 89 #[.slice a' n cap] wr fun e w'=>e=.returned .nilIface ∧ Below wr.heap.size wr w'):=by
      have:=check_ok a' cap ls wr (HL.out.1.below HB.out) hok
      rwa [HN.out] at this
     clear hok hn0
     go_wp2_with fail
     refine HEm.out.mono ?_
     rintro e w1 ⟨rfl,rfl⟩
     go_wp2_with fail
     refine HCh.out.mono ?_
     rintro e w2 ⟨rfl,hb2⟩
     have HB2:Hid (Below w.heap.size w w2):=HB.out.trans (hb2.mono HB.out.size)
     clear hb2
     go_wp2_with fail
     go_roundg (8 - (k+1))
     case measure=>omega
     case rel=>exact ⟨k+1,by go_num,hk,Nat.le_refl _,HB2⟩
    ·
     obtain rfl:k=i:=by omega
     obtain ⟨hbc,hpi⟩:CurveBad cs k c ∧ p=k:=by
      rcases HBad.out with ⟨h1,-⟩ | h1
      · omega
      · exact h1
     obtain ⟨ls',p',h1,-,h3,h4⟩:=hbc
     rw [HG.out] at h1
     obtain rfl:=Option.some.inj h1
     have HCh:Hid (Calls Tryz.prog 89 #[.slice a' n cap] wr fun e w'=>BareOf ad c wr e w'):=by
      have:=check_bare a' cap ls wr ad (HE.out.below HB.out) (HL.out.1.below HB.out) HL.out.2.1 HL.out.2.2 c p' h3 h4
      rwa [HN.out] at this
     have HP:Hid (p=(k:Int)):=hpi
     clear hpi h3 h4 h1 hn0
     go_wp2_with fail
     refine HEm.out.mono ?_
     rintro e w1 ⟨rfl,rfl⟩
     go_wp2_with fail
     refine HCh.out.mono ?_
     rintro e w2 ⟨ty,v,rfl,hb2,q,hq9,hcq,hbare⟩
     have HBa:=(show Hid (Calls Tryz.prog 148 #[.int .i64 (k:Int),.iface ty v] w2 (AtEnd (k:Int) (.iface 312 (.pointer (some (ad q)))) w2)) from hbare w2 (k:Int) (Below.refl _ _))
     have HB2:Hid (Below w.heap.size w w2):=HB.out.trans (hb2.mono HB.out.size)
     have HQ:Hid (c=((q+1:Nat):Int)):=hcq
     clear hb2 hbare hcq
     go_wp2_with fail
     refine HBa.out.mono ?_
     rintro e w3 ⟨B,rfl,h30,h31,-,hb3⟩
     have HB3:Hid (Below w.heap.size w w3):=HB2.out.trans (hb3.mono HB2.out.size)
     have H3:Hid (w3.cell? ⟨B,0,none⟩=some (.int .i64 (k:Int)) ∧ w3.cell? ⟨B,1,none⟩=some (.iface 312 (.pointer (some (ad q))))):=⟨h30,h31⟩
     clear hb3 h30 h31
     go_wp2_with fail
     go_ret
     refine ⟨_,rfl,?_,HB3.out⟩
     rw [HQ.out,HP.out]
     refine ⟨?_,fun h=>by omega,fun _=>⟨_,_,rfl⟩⟩
     have:=codeIs_fault (HE.out.below HB3.out) q hq9 (k:Int) B H3.out.1 H3.out.2
     simpa using this
  ·
   have hkz:¬ (k:Int) < 8:=by omega
   obtain rfl:i=8:=by omega
   have HR:Hid (c=0 ∧ p = -1):=by
    rcases HBad.out with ⟨-,h⟩ | ⟨⟨ls',p',h1,-⟩,-⟩
    · exact h
    ·
     rw [List.getElem?_eq_none (by rw [H8.out];omega)] at h1
     cases h1
   obtain rfl:k=8:=by omega
   go_wp2_with fail
   go_ret
   refine ⟨_,rfl,?_,HB.out⟩
   rw [HR.out.1,HR.out.2]
   exact errIs_nil wr
theorem checkS {P:Program} {k:TypeId} (hk:P.underlying k=some .string) (w:World) (b:Bool) (s:ByteArray):(Instr.checkKey b 10000 k (.string s)).run P w=.ok () w:=by
 show (Instr.checkKey b (9999+1) k (.string s)).run P w=_
 unfold Instr.checkKey
 simp [run_underlying hk,Result.andThen]
theorem putS {P:Program} {t k e:TypeId} (ht:P.underlying t=some (.map k e)) (hk:P.underlying k=some .string) {w:World} {b:Nat} {es:Array MapEntry} {clock:Nat} (hb:w.heap[b]? = some (.map es clock)) (s:ByteArray) (v:Value) (hn:Instr.findNow .string (.string s) es.toList 0=some none) :
  ∃ w',(Instr.mapUpdate t (.map (some b)) (.string s) v).run P w=.ok () w' ∧ w'.heap[b]? = some (.map (es.push { key:=.string s,val:=v,born:=clock }) (clock+1)) ∧ But (fun k=>k=b) w w':=by
 refine ⟨ChangeMaps.setBlock w b (.map (es.push { key:=.string s,val:=v,born:=clock }) (clock+1)),?_,ChangeMaps.heap_setBlock_same hb _,⟨rfl,rfl,rfl,by simp [ChangeMaps.setBlock],fun i _ hi=>ChangeMaps.heap_setBlock_other hb _ (fun e=>hi e)⟩⟩
 simp [Instr.mapUpdate,run_underlying ht,MapKept.run_getObj_map hb,checkS hk,run_underlying hk,Instr.findKey,hn,MapKept.run_setObj_map _ hb,Result.andThen,ChangeMaps.setBlock]
theorem lookS {P:Program} {t k e:TypeId} (ht:P.underlying t=some (.map k e)) (hk:P.underlying k=some .string) {w:World} {b:Nat} {es:Array MapEntry} {clock:Nat} (hb:w.heap[b]? = some (.map es clock)) (s:ByteArray) (i:Nat) (v:Value) (hn:Instr.findNow .string (.string s) es.toList 0=some (some (i,v))) (c:Bool) :
  (Instr.lookup t (.map (some b)) (.string s) c).run P w=.ok (if c then .tuple #[v,.bool true] else v) w:=by
 cases c <;> simp [Instr.lookup,run_underlying ht,MapKept.run_getObj_map hb,checkS hk,run_underlying hk,Instr.findKey,hn,Result.andThen]
theorem lookS_none {P:Program} {t k e:TypeId} (ht:P.underlying t=some (.map k e)) (hk:P.underlying k=some .string) {w:World} {b:Nat} {es:Array MapEntry} {clock:Nat} (hb:w.heap[b]? = some (.map es clock)) (s:ByteArray) (z:Value) (hz:(zeroValue e).run P w=.ok z w) (hn:Instr.findNow .string (.string s) es.toList 0=some none) (c:Bool) :
  (Instr.lookup t (.map (some b)) (.string s) c).run P w=.ok (if c then .tuple #[z,.bool false] else z) w:=by
 cases c <;> simp [Instr.lookup,run_underlying ht,MapKept.run_getObj_map hb,checkS hk,run_underlying hk,Instr.findKey,hn,hz,Result.andThen]
def sendVal (X:Nat):Nat → Value
 | 1=>.func (.func 167) #[] #[.pointer (some ⟨X,0,none⟩)]
 | 2=>.func (.func 144) #[] #[]
 | 3=>.func (.func 145) #[] #[]
 | 4=>.func (.func 146) #[] #[]
 | 5=>.func (.func 147) #[] #[]
 | _=>.nilFunc
def sendObj (X:Nat):Obj:=.map #[{ key:=.string ⟨#[102,105,102,111]⟩,val:=sendVal X 1,born:=0 },{ key:=.string ⟨#[114,97,110,107]⟩,val:=sendVal X 2,born:=1 },{ key:=.string ⟨#[100,117,101]⟩,val:=sendVal X 3,born:=2 },{ key:=.string ⟨#[114,111,117,110,100]⟩,val:=sendVal X 4,born:=3 },{ key:=.string ⟨#[102,97,105,114]⟩,val:=sendVal X 5,born:=4 }] 5
structure SendMap (w:World) (M X:Nat):Prop where
 obj:w.heap[M]? = some (sendObj X)
 box:w.cell? ⟨X,0,none⟩=some (.func (.func 143) #[] #[])
theorem find_kind (kb:ByteArray) (X k:Nat) (hk:kindOf kb.toList=k):Instr.findNow .string (.string kb) [{ key:=.string ⟨#[102,105,102,111]⟩,val:=sendVal X 1,born:=0 },{ key:=.string ⟨#[114,97,110,107]⟩,val:=sendVal X 2,born:=1 },{ key:=.string ⟨#[100,117,101]⟩,val:=sendVal X 3,born:=2 },{ key:=.string ⟨#[114,111,117,110,100]⟩,val:=sendVal X 4,born:=3 },{ key:=.string ⟨#[102,97,105,114]⟩,val:=sendVal X 5,born:=4 }] 0=some (if k=0 then none else some (k - 1,sendVal X k)):=by
 have t:=kindTests kb
 rw [hk] at t
 have h5:k ≤ 5:=by rw [← hk];exact kindOf_le _
 have e1:=beq_toListBytes kb ⟨#[102,105,102,111]⟩
 have e2:=beq_toListBytes kb ⟨#[114,97,110,107]⟩
 have e3:=beq_toListBytes kb ⟨#[100,117,101]⟩
 have e4:=beq_toListBytes kb ⟨#[114,111,117,110,100]⟩
 have e5:=beq_toListBytes kb ⟨#[102,97,105,114]⟩
 rw [t.u1] at e1
 rw [t.u2] at e2
 rw [t.u3] at e3
 rw [t.u4] at e4
 rw [t.u5] at e5
 rcases (show k=0 ∨ k=1 ∨ k=2 ∨ k=3 ∨ k=4 ∨ k=5 by omega) with rfl | rfl | rfl | rfl | rfl | rfl <;> simp only [Instr.findNow,Instr.sameNow,e1,e2,e3,e4,e5] <;> rfl
theorem Tryz.sendersU:Tryz.prog.underlying 189=some (.map 9 188):=by kernel_rfl
theorem Tryz.strU:Tryz.prog.underlying 9=some .string:=by kernel_rfl
theorem Tryz.senderZero (w:World):(zeroValue 188).run Tryz.prog w=.ok .nilFunc w:=by kernel_rfl
theorem SendMap.look {w:World} {M X:Nat} (h:SendMap w M X) (kb:ByteArray) {k:Nat} (hk:kindOf kb.toList=k) (c:Bool):(Instr.lookup 189 (.map (some M)) (.string kb) c).run Tryz.prog w=.ok (if c then .tuple #[sendVal X k,.bool (decide (k ≠ 0))] else sendVal X k) w:=by
 have hf:=find_kind kb X k hk
 by_cases h0:k=0
 ·
  subst h0
  rw [if_pos rfl] at hf
  exact lookS_none Tryz.sendersU Tryz.strU h.obj kb .nilFunc (Tryz.senderZero w) hf c
 ·
  rw [if_neg h0] at hf
  have:=lookS (P:=Tryz.prog) Tryz.sendersU Tryz.strU h.obj kb _ _ hf c
  rw [this]
  simp [h0]
theorem withoutNumbers_any (v:Value) (w:World) (f:Nat) (hv:v=.func (.func f) #[] #[]) :
  Calls Tryz.prog 142 #[v] w fun e w'=>e=.returned (.func (.func 167) #[] #[.pointer (some ⟨w.heap.size,0,none⟩)]) ∧ w'=w.alloc (.cells #[v] 213):=by
 subst hv
 go_enter Tryz.func142,Tryz.ntmps142
 go_wp2_with fail
 go_ret
 exact ⟨rfl,rfl⟩
theorem senders_ok (w:World):Calls Tryz.prog 115 #[] w fun e w'=>∃ M X,e=.returned (.map (some M)) ∧ SendMap w' M X ∧ Below w.heap.size w w':=by
 have HW:Hid (∀ W,Calls Tryz.prog 142 #[.func (.func 143) #[] #[]] W fun e w'=>e=.returned (.func (.func 167) #[] #[.pointer (some ⟨W.heap.size,0,none⟩)]) ∧ w'=W.alloc (.cells #[.func (.func 143) #[] #[]] 213)):=fun W=>withoutNumbers_any _ W _ rfl
 have hb1:Below w.heap.size w (w.alloc (.map #[] 0)):=(Below.refl _ _).alloc (Nat.le_refl _) _
 have hb2:Below w.heap.size w ((w.alloc (.map #[] 0)).alloc (.cells #[.func (.func 143) #[] #[]] 213)):=hb1.alloc hb1.size _
 have o0:((w.alloc (.map #[] 0)).alloc (.cells #[.func (.func 143) #[] #[]] 213)).heap[w.heap.size]? = some (.map #[] 0):=(((Below.refl (w.alloc (.map #[] 0)).heap.size (w.alloc (.map #[] 0))).alloc (Nat.le_refl _) (.cells #[.func (.func 143) #[] #[]] 213)).block w.heap.size (by simp)).trans (by show (w.heap.push (Obj.map #[] 0))[w.heap.size]? = some (Obj.map #[] 0);simp)
 have x0:((w.alloc (.map #[] 0)).alloc (.cells #[.func (.func 143) #[] #[]] 213)).cell? ⟨w.heap.size+1,0,none⟩=some (.func (.func 143) #[] #[]):=by simp
 have hs:(w.alloc (.map #[] 0)).heap.size=w.heap.size+1:=by simp
 obtain ⟨W0,hW0⟩:∃ W,(w.alloc (.map #[] 0)).alloc (.cells #[.func (.func 143) #[] #[]] 213)=W:=⟨_,rfl⟩
 rw [hW0] at hb2 o0 x0
 obtain ⟨W1,r1,o1,b1⟩:=putS Tryz.sendersU Tryz.strU o0 ⟨#[102,105,102,111]⟩ (.func (.func 167) #[] #[.pointer (some ⟨w.heap.size+1,0,none⟩)]) (by kernel_rfl)
 obtain ⟨W2,r2,o2,b2⟩:=putS Tryz.sendersU Tryz.strU o1 ⟨#[114,97,110,107]⟩ (.func (.func 144) #[] #[]) (by kernel_rfl)
 obtain ⟨W3,r3,o3,b3⟩:=putS Tryz.sendersU Tryz.strU o2 ⟨#[100,117,101]⟩ (.func (.func 145) #[] #[]) (by kernel_rfl)
 obtain ⟨W4,r4,o4,b4⟩:=putS Tryz.sendersU Tryz.strU o3 ⟨#[114,111,117,110,100]⟩ (.func (.func 146) #[] #[]) (by kernel_rfl)
 obtain ⟨W5,r5,o5,b5⟩:=putS Tryz.sendersU Tryz.strU o4 ⟨#[102,97,105,114]⟩ (.func (.func 147) #[] #[]) (by kernel_rfl)
 have hbt:=(((b1.trans b2).trans b3).trans b4).trans b5
 have HE:Hid (SendMap W5 w.heap.size (w.heap.size+1) ∧ Below w.heap.size w W5):=by
  refine ⟨⟨o5,?_⟩,hb2.trans (hbt.below hb2.size fun k hk=>by rw [hk];exact Nat.le_refl _)⟩
  rw [hbt.cell (p:=⟨w.heap.size+1,0,none⟩) (cell_lt x0) (by show ¬ w.heap.size+1=w.heap.size;omega)]
  exact x0
 have hmm:=@run_makeMap Tryz.prog
 have HW0:Hid ((w.alloc (.map #[] 0)).alloc (.cells #[.func (.func 143) #[] #[]] 213)=W0):=hW0
 clear hb1 hb2 o0 x0 o1 o2 o3 o4 o5 b1 b2 b3 b4 b5 hbt hW0
 go_enter Tryz.func115,Tryz.ntmps115
 go_wp2_with fail
 refine (HW.out _).mono ?_
 rintro e w1 ⟨rfl,rfl⟩
 rw [hs,HW0.out]
 go_wp2_with fail
 go_ret
 exact ⟨_,_,rfl,HE.out.1,HE.out.2⟩
theorem upTo_yes (hi x:Int) (g:Nat) (w:World) (hc:w.cell? ⟨g,0,none⟩=some (.int .i64 hi)) (h:0 ≤ x ∧ x ≤ hi) :
  Calls Tryz.prog 199 #[.int .i64 x,.pointer (some ⟨g,0,none⟩)] w fun e w'=>e=.returned (.bool true) ∧ w'=w:=by
 obtain ⟨h1,h2⟩:=h
 go_enter Tryz.func199,Tryz.ntmps199
 go_wp2
 go_ret
 exact ⟨rfl,rfl⟩
theorem upTo_no (hi x:Int) (g:Nat) (w:World) (hc:w.cell? ⟨g,0,none⟩=some (.int .i64 hi)) (h:¬ (0 ≤ x ∧ x ≤ hi)) :
  Calls Tryz.prog 199 #[.int .i64 x,.pointer (some ⟨g,0,none⟩)] w fun e w'=>e=.returned (.bool false) ∧ w'=w:=by
 by_cases h1:0 ≤ x
 ·
  have h2:¬ x ≤ hi:=fun h'=>h ⟨h1,h'⟩
  clear h
  go_enter Tryz.func199,Tryz.ntmps199
  go_wp2
  go_ret
  exact ⟨rfl,rfl⟩
 ·
  clear h
  go_enter Tryz.func199,Tryz.ntmps199
  go_wp2
  go_ret
  exact ⟨rfl,rfl⟩
theorem checkNumbers_shape (a:Option Addr) (n cap:Nat) (f:Value) (w:World) (ad:Nat → Addr) (h:n ≠ 8) (he:w.cell? ⟨2,0,none⟩=some (.iface 312 (.pointer (some (ad 2))))) :
  Calls Tryz.prog 175 #[.slice a n cap,f] w fun e w'=>e=.returned (.iface 312 (.pointer (some (ad 2)))) ∧ w'=w:=by
 have h8:(n:Int) ≠ 8:=by omega
 have h8':((n:Int) == 8)=false:=by simpa using h8
 go_enter Tryz.func175,Tryz.ntmps175
 go_wp2
 go_ret
 exact ⟨rfl,rfl⟩
theorem checkNumbers_to (a:Option Addr) (cap:Nat) (ns:List Int) (hi:Int) (g:Nat) (w:World) (ad:Nat → Addr) (hc:w.cell? ⟨g,0,none⟩=some (.int .i64 hi)) (hl:LiesN w a ns) (h8:ns.length=8) (j:Nat) (hj:j ≤ 8) (hg:∀ (i:Nat) y,i < j → ns[i]? = some y → 0 ≤ y ∧ y ≤ hi) (R:Value)
  (h:(j=8 ∧ R=.nilIface) ∨ (R=.iface 312 (.pointer (some (ad 1))) ∧ w.cell? ⟨0,0,none⟩=some (.iface 312 (.pointer (some (ad 1)))) ∧ ∃ x,ns[j]? = some x ∧ ¬ (0 ≤ x ∧ x ≤ hi))) :
  Calls Tryz.prog 175 #[.slice a 8 cap,.func (.func 199) #[] #[.pointer (some ⟨g,0,none⟩)]] w fun e w'=>e=.returned R ∧ w'=w:=by
 have HG:Hid (∀ (i:Nat) y,i < j → ns[i]? = some y → 0 ≤ y ∧ y ≤ hi):=hg
 have HR:Hid ((j=8 ∧ R=.nilIface) ∨ (R=.iface 312 (.pointer (some (ad 1))) ∧ w.cell? ⟨0,0,none⟩=some (.iface 312 (.pointer (some (ad 1)))) ∧ ∃ x,ns[j]? = some x ∧ ¬ (0 ≤ x ∧ x ≤ hi))):=h
 obtain ⟨b,off,rfl,-,hcell⟩:=hl.place (by omega)
 have HC:Hid (∀ (i:Nat) x,ns[i]? = some x → w.cell? ⟨b,off+i,none⟩=some (.int .i64 x)):=hcell
 have H8:Hid (ns.length=8):=h8
 clear hg h hl hcell h8
 go_enter Tryz.func175,Tryz.ntmps175
 go_wp2_with fail
 go_loopw [13] (fun i wr=>∃ k:Nat,k ≤ j ∧ i=.int .i64 k ∧ wr=w) (fun i _=>8 - (intOf i).toNat)
 case atStart=>exact ⟨0,Nat.zero_le _,rfl,rfl⟩
 case round=>
  obtain ⟨k,hk,rfl,rfl⟩:=hrel
  by_cases hkj:k < j
  ·
   obtain ⟨x,hx,-⟩:=get_some ns k (by rw [H8.out];omega)
   have hok:=HG.out k x hkj hx
   have c1:=HC.out k x hx
   clear hx
   go_wp2_with fail
   refine (upTo_yes hi x g _ hc hok).mono ?_
   rintro e w1 ⟨rfl,rfl⟩
   go_wp2_with fail
   go_roundw
   case rel=>exact ⟨k+1,by omega,by go_num,trivial⟩
   case measure=>simp [intOf];omega
  ·
   obtain rfl:k=j:=by omega
   rcases HR.out with ⟨rfl,rfl⟩ | ⟨rfl,he,x,hx,hbad⟩
   ·
    go_wp2_with fail
    go_ret
    exact ⟨rfl,rfl⟩
   ·
    have c1:=HC.out k x hx
    have hk8:k < 8:=by
     rw [← H8.out]
     rcases Nat.lt_or_ge k ns.length with h' | h'
     · exact h'
     · simp [List.getElem?_eq_none h'] at hx
    clear hx
    go_wp2_with fail
    refine (upTo_no hi x g _ hc hbad).mono ?_
    rintro e w1 ⟨rfl,rfl⟩
    go_wp2_with fail
    go_ret
    exact ⟨rfl,rfl⟩
def NumErrs (w:World) (ad:Nat → Addr):Prop:=w.cell? ⟨0,0,none⟩=some (.iface 312 (.pointer (some (ad 1)))) ∧ w.cell? ⟨2,0,none⟩=some (.iface 312 (.pointer (some (ad 2))))
theorem NumErrs.below {w w':World} {ad:Nat → Addr} (h:NumErrs w ad) (hb:Below w.heap.size w w'):NumErrs w' ad:=⟨cell_later hb h.1,cell_later hb h.2⟩
theorem checkUpTo_core {R:Value} (a:Option Addr) (n cap:Nat) (hi:Int) (w:World) (h:Calls Tryz.prog 175 #[.slice a n cap,.func (.func 199) #[] #[.pointer (some ⟨w.heap.size,0,none⟩)]] (w.alloc (.cells #[.int .i64 hi] 3)) fun e w'=>e=.returned R ∧ w'=w.alloc (.cells #[.int .i64 hi] 3)) :
  Calls Tryz.prog 171 #[.slice a n cap,.int .i64 hi] w fun e w'=>e=.returned R ∧ Below w.heap.size w w':=by
 have HC:Hid (Calls Tryz.prog 175 #[.slice a n cap,.func (.func 199) #[] #[.pointer (some ⟨w.heap.size,0,none⟩)]] (w.alloc (.cells #[.int .i64 hi] 3)) fun e w'=>e=.returned R ∧ w'=w.alloc (.cells #[.int .i64 hi] 3)):=h
 clear h
 go_enter Tryz.func171,Tryz.ntmps171
 go_wp2_with fail
 refine HC.out.mono ?_
 rintro e w1 ⟨rfl,rfl⟩
 go_wp2_with fail
 go_ret
 exact ⟨rfl,(Below.refl _ _).alloc (Nat.le_refl _) _⟩
theorem checkUpTo_ok (a:Option Addr) (cap:Nat) (ns:List Int) (hi:Int) (w:World) (hl:LiesN w a ns) (ho:NumsOk 0 hi ns) :
  Calls Tryz.prog 171 #[.slice a ns.length cap,.int .i64 hi] w fun e w'=>e=.returned .nilIface ∧ Below w.heap.size w w':=by
 have hb:Below w.heap.size w (w.alloc (.cells #[.int .i64 hi] 3)):=(Below.refl _ _).alloc (Nat.le_refl _) _
 rw [ho.len]
 exact checkUpTo_core a 8 cap hi w (checkNumbers_to a cap ns hi w.heap.size _ (fun _=>⟨0,0,none⟩) (by simp) (hl.below hb) ho.len 8 (Nat.le_refl _) (fun i y _ hy=>ho.each i y hy) .nilIface (.inl ⟨rfl,rfl⟩))
theorem checkUpTo_bad (a:Option Addr) (cap:Nat) (ns:List Int) (hi:Int) (w:World) (ad:Nat → Addr) (he:NumErrs w ad) (hl:LiesN w a ns) (c:Nat) (h:NumsFault 0 hi ns c) (hc:0 < c) :
  Calls Tryz.prog 171 #[.slice a ns.length cap,.int .i64 hi] w fun e w'=>e=.returned (sentOf ad c) ∧ Below w.heap.size w w':=by
 have hb:Below w.heap.size w (w.alloc (.cells #[.int .i64 hi] 3)):=(Below.refl _ _).alloc (Nat.le_refl _) _
 rcases h with ⟨rfl,h8⟩ | ⟨rfl,j,h8,hx,hg⟩ | ⟨rfl,-⟩
 · exact checkUpTo_core a _ cap hi w (checkNumbers_shape a _ cap _ _ ad h8 (he.below hb).2)
 ·
  rw [h8]
  have hj:j ≤ 8:=by
   obtain ⟨x,hx,-⟩:=hx
   rw [← h8]
   rcases Nat.lt_or_ge j ns.length with h' | h'
   · exact Nat.le_of_lt h'
   · simp [List.getElem?_eq_none h'] at hx
  exact checkUpTo_core a 8 cap hi w (checkNumbers_to a cap ns hi w.heap.size _ ad (by simp) (hl.below hb) h8 j hj hg _ (.inr ⟨rfl,(he.below hb).1,hx⟩))
 · omega
end Go.Proofs.YtipdclphpkgceaaGreatDoor
