/- Own facts, put together: no statement of its own. -/
import Derived.Test.YtipdclphpkgceaaGreatDoorS10
import Derived.Deep.DeepCutAuto
import Derived.Deep.RegionLaw
import Derived.Test.YtipdclphpkgceaaGreatDoorS09
import Derived.Test.YtipdclphpkgceaaGreatDoorS05
import Derived.Test.YtipdclphpkgceaaGreatDoorS04
import Derived.Laws.StructEq
import Derived.BigQuiet
import Derived.Test.YtipdclphpkgceaaGreatDoorS08
import Derived.Test.YtipdclphpkgceaaGreatDoorS01
import Derived.Deep.AppendLies
set_option maxHeartbeats 2000000
set_option maxRecDepth 100000

namespace Go.Proofs.YtipdclphpkgceaaGreatDoor
open Go.RowKit
theorem drop_cons {α:Type} {l:List α} {k:Nat} {p:α} (h:l[k]? = some p):l.drop k=p :: l.drop (k + 1):=by
 have hk:k < l.length:=by
  rcases Nat.lt_or_ge k l.length with h' | h'
  · exact h'
  · simp [List.getElem?_eq_none h'] at h
 rw [List.drop_eq_getElem_cons hk]
 rw [List.getElem?_eq_getElem hk] at h
 rw [Option.some.inj h]
theorem ShAt.but {S:Nat → Prop} {w w':World} {B:Nat} {gs:List Nat} {bs:List Bk} (h:ShAt w B gs bs) (hb:But S w w') (hB:¬ S B) (hg:∀ g,g ∈ gs → ¬ S g) (hlt:B < w.heap.size):ShAt w' B gs bs:=
 ⟨h.len,fun i g hi=>by rw [hb.cell (p:=⟨B,i,none⟩) hlt hB]; exact h.ptr i g hi,h.new,fun i g b hi hb'=>(h.bk i g b hi hb').but hb (hg g (List.mem_of_getElem? hi)),h.one⟩
theorem ShAt.below {w w':World} {B:Nat} {gs:List Nat} {bs:List Bk} (h:ShAt w B gs bs) (hb:Below w.heap.size w w') (hlt:B < w.heap.size):ShAt w' B gs bs:=
 h.but (S:=fun _=>False) (.ofBelow hb) id (fun _ _=>id) hlt
theorem pass_any (B:Nat) (gs:List Nat) (bs:List Bk) (t n:Int) (N:Nat) (w0 w:World) (ad:Nat → Addr) (he:Errs4 w0 ad) (hw:Below w0.heap.size w0 w) (hB:w0.heap.size ≤ B) (hBl:B < w.heap.size) (hsh:ShAt w B gs bs) (hN:bs.length=N) (hN6:N ≤ 6)
  (hok:∀ b,b ∈ bs → b.Ok ∧ b.last ≤ t) (t0:0 ≤ t) (t1:t ≤ 1099511627776) (n0:1 ≤ n) (n1:n ≤ 1500) :
  Calls Tryz.prog 192 #[.slice (some ⟨B,0,none⟩) N N,.int .i64 t,.int .i64 n] w fun e w'=>e=.returned (whenVal ad (passT bs t n)) ∧ (∀ T,passT bs t n=some T → ShAt w' B gs (bs.map fun b=>b.take T n)) ∧ But (fun k=>k ∈ gs) w w':=by
 obtain ⟨Q,hQ⟩:∃ Q,passT bs t n=Q:=⟨_,rfl⟩
 rw [hQ]
 have HQ:Hid (passT bs t n=Q):=hQ
 have HE:Hid (Errs4 w0 ad ∧ Below w0.heap.size w0 w ∧ w0.heap.size ≤ B):=⟨he,hw,hB⟩
 have HSh:Hid (ShAt w B gs bs):=hsh
 have HN:Hid (bs.length=N):=hN
 have HOk:Hid (∀ b,b ∈ bs → b.Ok ∧ b.last ≤ t):=hok
 have HBl:Hid (B < w.heap.size):=hBl
 obtain ⟨V,hV⟩:∃ V,whenVal ad Q=V:=⟨_,rfl⟩
 rw [hV]
 have HV:Hid (whenVal ad Q=V):=hV
 clear hQ he hw hB hsh hN hok hBl hV
 go_enter Tryz.func192,Tryz.ntmps192
 go_wp2_with fail
 go_loopw [1,18] (fun a i wr=>∃ k:Nat,k ≤ N ∧ i=.int .i64 k ∧ ∃ u:Int,a=.int .i64 u ∧ t ≤ u ∧ u ≤ 1099511627776 ∧ passT (bs.drop k) u n=Q ∧ Below w.heap.size w wr) (fun _ i _=>N - (intOf i).toNat)
 case atStart=>exact ⟨0,Nat.zero_le _,rfl,t,rfl,Int.le_refl _,t1,by simpa using HQ.out,Below.refl _ _⟩
 case round=>
  obtain ⟨k,hk,rfl,u,rfl,hu0,hu1,hq,hb⟩:=hrel
  have HB:Hid (Below w.heap.size w wr):=hb
  have HP:Hid (passT (bs.drop k) u n=Q):=hq
  by_cases hkn:k < N
  ·
   obtain ⟨b,hbk,hbm⟩:=get_some bs k (by rw [HN.out]; exact hkn)
   obtain ⟨g,hgk,-⟩:=get_some gs k (by rw [HSh.out.len,HN.out]; exact hkn)
   have hptr:wr.cell? ⟨B,k,none⟩=some (.pointer (some ⟨g,0,none⟩)):=by rw [hb.cell (p:=⟨B,k,none⟩) HBl.out]; exact HSh.out.ptr k g hgk
   have HStep:Hid (passT (bs.drop k) u n=match b.when u n with | none=>none | some v=>passT (bs.drop (k + 1)) v n):=by
    show _=_
    rw [drop_cons hbk]; rfl
   have HAsk:Hid (askErr b.last u n=0):=askErr_ok.2 ⟨n0,n1,by omega,hu1,by have:=(HOk.out b hbm).2; omega⟩
   have HBO:Hid b.Ok:=(HOk.out b hbm).1
   have HW:Hid (Calls Tryz.prog 218 #[.pointer (some ⟨g,0,none⟩),.int .i64 u,.int .i64 n] wr fun e w'=>e=.returned (whenVal ad (b.when u n)) ∧ Below wr.heap.size wr w'):=
    when_ok g b u n wr ad (HE.out.1.below (HE.out.2.1.trans (hb.mono HE.out.2.1.size))) ((HSh.out.bk k g b hgk hbk).below hb) HBO.out HAsk.out
   clear hb hq hbk hgk hbm
   cases hwn:b.when u n with
   | none=>
    rw [hwn] at HW HStep
    have HR:Hid (Q=none):=HP.out.symm.trans HStep.out
    change Hid (Calls Tryz.prog 218 #[.pointer (some ⟨g,0,none⟩),.int .i64 u,.int .i64 n] wr fun e w'=>e=.returned (.tuple #[.int .i64 0,.iface 312 (.pointer (some (ad 3)))]) ∧ Below wr.heap.size wr w') at HW
    clear hwn
    go_wp2_with fail
    refine HW.out.mono ?_
    rintro e w5 ⟨rfl,hb5⟩
    have HB5:Hid (Below w.heap.size w w5):=HB.out.trans (hb5.mono HB.out.size)
    clear hb5
    go_wp2_with fail
    go_ret2
    have hR:=HR.out
    refine ⟨?_,fun T e=>(by rw [hR] at e; cases e),.ofBelow HB5.out⟩
    rw [← HV.out,hR]; rfl
   | some v=>
    rw [hwn] at HW HStep
    have HR:Hid (passT (bs.drop (k + 1)) v n=Q):=HStep.out.symm.trans HP.out
    change Hid (Calls Tryz.prog 218 #[.pointer (some ⟨g,0,none⟩),.int .i64 u,.int .i64 n] wr fun e w'=>e=.returned (.tuple #[.int .i64 v,.nilIface]) ∧ Below wr.heap.size wr w') at HW
    obtain ⟨v1,v2,-,-⟩:=Bk.when_some HBO.out hu1 hwn
    clear hwn
    go_wp2_with fail
    refine HW.out.mono ?_
    rintro e w5 ⟨rfl,hb5⟩
    have HB5:Hid (Below w.heap.size w w5):=HB.out.trans (hb5.mono HB.out.size)
    clear hb5
    go_wp2_with fail
    go_roundw
    case rel=>exact ⟨k + 1,by omega,by go_num,v,rfl,by omega,v2,HR.out,HB5.out⟩
    case measure=>simp [intOf]; omega
  ·
   have HR:Hid (Q=some u):=by
    show _=_
    rw [← HP.out,List.drop_eq_nil_of_le (by rw [HN.out]; omega)]
    rfl
   clear hq hb
   go_wp2_with fail
   go_loopw [36] (fun i wx=>∃ k:Nat,k ≤ N ∧ i=.int .i64 k ∧ But (fun q=>q ∈ gs) w wx ∧ (∀ (i:Nat) g,gs[i]? = some g → wx.cell? ⟨B,i,none⟩=some (.pointer (some ⟨g,0,none⟩))) ∧ ∀ (i:Nat) g b,gs[i]? = some g → bs[i]? = some b → BkAt wx g (if i < k then b.take u n else b)) (fun i _=>N - (intOf i).toNat)
   case atStart=>
    have hsh:=HSh.out.below HB.out HBl.out
    exact ⟨0,Nat.zero_le _,rfl,.ofBelow HB.out,hsh.ptr,fun i g b hg hb=>by rw [if_neg (by omega)]; exact hsh.bk i g b hg hb⟩
   case round=>
    obtain ⟨j,hj,rfl,hbt,hpt,hbs⟩:=hrel
    have HBt:Hid (But (fun q=>q ∈ gs) w wr):=hbt
    have HPt:Hid (∀ (i:Nat) g,gs[i]? = some g → wr.cell? ⟨B,i,none⟩=some (.pointer (some ⟨g,0,none⟩))):=hpt
    have HBs:Hid (∀ (i:Nat) g b,gs[i]? = some g → bs[i]? = some b → BkAt wr g (if i < j then b.take u n else b)):=hbs
    by_cases hjn:j < N
    ·
     obtain ⟨b,hbk,hbm⟩:=get_some bs j (by rw [HN.out]; exact hjn)
     obtain ⟨g,hgk,hgm⟩:=get_some gs j (by rw [HSh.out.len,HN.out]; exact hjn)
     have hptr:=hpt j g hgk
     have HAsk:Hid (askErr b.last u n=0):=askErr_ok.2 ⟨n0,n1,by omega,hu1,by have:=(HOk.out b hbm).2; omega⟩
     have hbka:BkAt wr g b:=by have:=hbs j g b hgk hbk; rwa [if_neg (by omega)] at this
     have HG0:Hid (∀ q,q ∈ gs → w0.heap.size ≤ q):=fun q hq=>by have h1:=HSh.out.new q hq; have h2:=HE.out.2.2; omega
     have HW:Hid (Calls Tryz.prog 219 #[.pointer (some ⟨g,0,none⟩),.int .i64 u,.int .i64 n] wr fun e w'=>e=.returned (.tuple #[.bool (decide (n * 1000 ≤ b.lev u)),.nilIface]) ∧ BkAt w' g (b.take u n) ∧ But (fun k=>k=g) wr w'):=
      take_ok g b u n wr ad (HE.out.1.below (HE.out.2.1.trans (hbt.below HE.out.2.1.size (fun q hq=>HG0.out q hq)))) hbka (HOk.out b hbm).1 HAsk.out
     have HJ:Hid (gs[j]? = some g ∧ bs[j]? = some b ∧ g ∈ gs):=⟨hgk,hbk,hgm⟩
     clear hbt hpt hbs hgk hbk hgm hbka hbm
     generalize decide (n * 1000 ≤ b.lev u)=z at *
     go_wp2_with fail
     refine HW.out.mono ?_
     rintro e w5 ⟨rfl,hk5,hb5⟩
     have HK5:Hid (BkAt w5 g (b.take u n)):=hk5
     have HB5:Hid (But (fun k=>k=g) wr w5):=hb5
     clear hk5 hb5
     go_wp2_with fail
     go_roundw
     case rel=>
      have hb5:=HB5.out
      refine ⟨j + 1,by omega,by go_num,HBt.out.trans (hb5.mono fun q hq=>(by rw [hq]; exact HJ.out.2.2)),fun i g' hg'=>?_,fun i g' b' hg' hb'=>?_⟩
      ·
       have hne:¬ B=g:=by have:=HSh.out.new g HJ.out.2.2; omega
       rw [hb5.cell (p:=⟨B,i,none⟩) (Nat.lt_of_lt_of_le HBl.out HBt.out.size) hne]
       exact HPt.out i g' hg'
      ·
       by_cases hij:i=j
       ·
        subst hij
        obtain rfl:g'=g:=Option.some.inj (hg'.symm.trans HJ.out.1)
        obtain rfl:b'=b:=Option.some.inj (hb'.symm.trans HJ.out.2.1)
        rw [if_pos (by omega)]
        exact HK5.out
       ·
        have h1:=HBs.out i g' b' hg' hb'
        have hne:¬ g'=g:=fun e=>hij (HSh.out.one i j g' hg' (by rw [e]; exact HJ.out.1))
        have h2:=h1.but hb5 hne
        by_cases hlt:i < j
        · rw [if_pos hlt] at h2; rw [if_pos (by omega)]; exact h2
        · rw [if_neg hlt] at h2; rw [if_neg (by omega)]; exact h2
     case measure=>simp [intOf]; omega
    ·
     clear hbt hpt hbs
     go_wp2_with fail
     go_ret2
     have hR:=HR.out
     refine ⟨?_,fun T e=>?_,HBt.out⟩
     · rw [← HV.out,hR]; rfl
     ·
      rw [hR] at e
      cases e
      refine ⟨by simp [HSh.out.len],HPt.out,HSh.out.new,fun i g b hg hb=>?_,HSh.out.one⟩
      simp only [List.getElem?_map,Option.map_eq_some_iff] at hb
      obtain ⟨c,hc,rfl⟩:=hb
      have:=HBs.out i g c hg hc
      have hi:i < bs.length:=by
       rcases Nat.lt_or_ge i bs.length with h | h
       · exact h
       · simp [List.getElem?_eq_none h] at hc
      rwa [if_pos (by rw [HN.out] at hi; omega)] at this
theorem checkBoth_ok (la:Option Addr) (lcap:Nat) (ls:List (Int × Int)) (pa:Option Addr) (cap:Nat) (ps:List Pk) (w:World) (hl:Lies w la ls) (hk:okCurve ls) (hp:LiesP w pa ps) (ho:OkPks ps) :
  Calls Tryz.prog 190 #[.slice la ls.length lcap,.slice pa ps.length cap] w fun e w'=>e=.returned .nilIface ∧ Below w.heap.size w w':=by
 have HP:Hid (LiesP w pa ps ∧ OkPks ps):=⟨hp,ho⟩
 have HL:Hid (Lies w la ls ∧ okCurve ls):=⟨hl,hk⟩
 clear hl hk hp ho
 go_enter Tryz.func190,Tryz.ntmps190
 go_wp2_with fail
 refine (pcheck_ok pa cap ps _ HP.out.1 HP.out.2).mono ?_
 rintro e w1 ⟨rfl,hb⟩
 have HB:Hid (Below w.heap.size w w1):=hb
 clear hb
 go_wp2_with fail
 refine (check_ok la lcap ls _ (HL.out.1.below HB.out) HL.out.2).mono ?_
 rintro e w2 ⟨rfl,hb2⟩
 have HB2:Hid (Below w.heap.size w w2):=HB.out.trans (hb2.mono HB.out.size)
 clear hb2
 go_wp2_with fail
 go_ret
 exact ⟨rfl,HB2.out⟩
def OutAt (w:World) (D:Nat) (q:List Pk):Prop:=∀ (i:Nat) p,q[i]? = some p → w.cell? ⟨D,i * 3,none⟩=some (.int .i64 p.flow) ∧ w.cell? ⟨D,i * 3 + 1,none⟩=some (.int .i64 p.size) ∧ w.cell? ⟨D,i * 3 + 2,none⟩=some (.int .i64 p.tick)
theorem OutAt.but {S:Nat → Prop} {w w':World} {D:Nat} {q:List Pk} (h:OutAt w D q) (hb:But S w w') (hD:D < w.heap.size) (hs:¬ S D):OutAt w' D q:=fun i p hi=>by
 have:=h i p hi
 exact ⟨by rw [hb.cell (p:=⟨D,i * 3,none⟩) hD hs]; exact this.1,by rw [hb.cell (p:=⟨D,i * 3 + 1,none⟩) hD hs]; exact this.2.1,by rw [hb.cell (p:=⟨D,i * 3 + 2,none⟩) hD hs]; exact this.2.2⟩
theorem OutAt.step {w:World} {D n:Nat} {q:List Pk} (h:OutAt w D q) (hr:Room w D n) (k:Nat) (hk:q.length=k) (hn:k * 3 + 2 < n) (x y z:Int) :
  OutAt (((w.setCell ⟨D,k * 3,none⟩ (.int .i64 x)).setCell ⟨D,k * 3 + 1,none⟩ (.int .i64 y)).setCell ⟨D,k * 3 + 2,none⟩ (.int .i64 z)) D (q ++ [⟨x,y,z⟩]):=by
 intro i p hi
 rcases get_snoc hi with ⟨h1,h2⟩ | ⟨h1,h2⟩
 ·
  have:=h i p h2
  refine ⟨?_,?_,?_⟩
  · rw [World.cell?_setCell_other _ _ _ _ (by simp <;> omega),World.cell?_setCell_other _ _ _ _ (by simp <;> omega),World.cell?_setCell_other _ _ _ _ (by simp <;> omega)]; exact this.1
  · rw [World.cell?_setCell_other _ _ _ _ (by simp <;> omega),World.cell?_setCell_other _ _ _ _ (by simp <;> omega),World.cell?_setCell_other _ _ _ _ (by simp <;> omega)]; exact this.2.1
  · rw [World.cell?_setCell_other _ _ _ _ (by simp <;> omega),World.cell?_setCell_other _ _ _ _ (by simp <;> omega),World.cell?_setCell_other _ _ _ _ (by simp <;> omega)]; exact this.2.2
 ·
  rw [h1,h2,hk]
  obtain ⟨u0,hu0⟩:=hr.cell (k * 3) (by omega)
  obtain ⟨u1,hu1⟩:=(hr.set (k * 3) (.int .i64 x)).cell (k * 3 + 1) (by omega)
  obtain ⟨u2,hu2⟩:=((hr.set (k * 3) (.int .i64 x)).set (k * 3 + 1) (.int .i64 y)).cell (k * 3 + 2) (by omega)
  refine ⟨?_,?_,?_⟩
  ·
   rw [World.cell?_setCell_other _ _ _ _ (by simp),World.cell?_setCell_other _ _ _ _ (by simp)]
   exact World.cell?_setCell_same _ _ _ hu0
  ·
   rw [World.cell?_setCell_other _ _ _ _ (by simp)]
   exact World.cell?_setCell_same _ _ _ hu1
  · exact World.cell?_setCell_same _ _ _ hu2
def ShapeEnd (ls:List (Int × Int)) (ps:List Pk) (ad:Nat → Addr) (w:World) (e:Ending) (w':World):Prop:=
 Below w.heap.size w w' ∧
 ((∃ s D,shape ls ps=some s ∧ e=.returned (.tuple #[.slice (some ⟨D,0,none⟩) ps.length ps.length,.nilIface]) ∧ w.heap.size ≤ D ∧ LiesP w' (some ⟨D,0,none⟩) s.out) ∨
  (∃ (j:Nat) (p:Pk) (s:Sh) (F:Nat),ps[j]? = some p ∧ shape ls (ps.take j)=some s ∧ shStep s p=none ∧ e=.returned (.tuple #[.slice none 0 0,.iface 75 (.pointer (some ⟨F,0,none⟩))]) ∧ w'.cell? ⟨F,0,none⟩=some (.int .i64 j) ∧ w'.cell? ⟨F,1,none⟩=some (.iface 312 (.pointer (some (ad 3))))))
structure Work (ls:List (Int × Int)) (ps:List Pk) (w wr:World) (B D:Nat) (gs:List Nat) (n k:Nat) (s:Sh):Prop where
 run:shape ls (ps.take k)=some s
 sh:ShAt wr B gs s.bs
 room:Room wr D (n * 3)
 out:OutAt wr D s.out
 below:Below w.heap.size w wr
 dlt:D < wr.heap.size
structure Laid (w:World) (B D:Nat) (gs:List Nat):Prop where
 b0:w.heap.size ≤ B
 bd:B < D
 gd:∀ g,g ∈ gs → B < g ∧ g < D
theorem shape_any (la:Option Addr) (lcap:Nat) (ls:List (Int × Int)) (pa:Option Addr) (cap:Nat) (ps:List Pk) (w:World) (ad:Nat → Addr) (he:Errs4 w ad) (hl:Lies w la ls) (hk:okCurve ls) (hp:LiesP w pa ps) (ho:OkPks ps) :
  Calls Tryz.prog 164 #[.slice la ls.length lcap,.slice pa ps.length cap] w fun e w'=>ShapeEnd ls ps ad w e w':=by
 have HP:Hid (LiesP w pa ps ∧ OkPks ps):=⟨hp,ho⟩
 have HL:Hid (Lies w la ls ∧ okCurve ls):=⟨hl,hk⟩
 have HE:Hid (Errs4 w ad):=he
 have hn300:ps.length ≤ 300:=ho.few
 clear hl hk hp ho he
 obtain ⟨n,hn⟩:∃ n,ps.length=n:=⟨_,rfl⟩
 have HN:Hid (ps.length=n):=hn
 have HCB:Hid (Calls Tryz.prog 190 #[.slice la ls.length lcap,.slice pa n cap] w fun e w'=>e=.returned .nilIface ∧ Below w.heap.size w w'):=by
  have:=checkBoth_ok la lcap ls pa cap ps w HL.out.1 HL.out.2 HP.out.1 HP.out.2
  rwa [hn] at this
 rw [hn] at hn300 ⊢
 clear hn
 obtain ⟨i0,hi,hz0,hz1,hz2⟩:=info_parts Tryz.infoPkt
 have hmk:∀ w':World,(Instr.makeSlice 52 (.int .i64 n) (.int .i64 n)).run Tryz.prog w'=.ok (.slice (some ⟨w'.heap.size,0,none⟩) n n) (w'.alloc (.cells (madeCells #[.int .i64 0,.int .i64 0,.int .i64 0] (n * 3)) 58)):=fun w'=>by
  have:=run_make (P:=Tryz.prog) w' 52 58 i0 (.agg #[.int .i64 0,.int .i64 0,.int .i64 0]) Tryz.underlying52 hi hz0 .i64 .i64 n n (by omega) (by omega) (by rw [hz2]; omega) (by omega)
  simpa [hz1,Value.cells] using this
 clear hi hz0 hz1 hz2
 go_enter Tryz.func164,Tryz.ntmps164
 go_wp2_with fail
 refine HCB.out.mono ?_
 rintro e w1 ⟨rfl,hb1⟩
 have HB1:Hid (Below w.heap.size w w1):=hb1
 clear hb1
 go_wp2_with fail
 refine (fullShaper_ok la lcap ls _ (HL.out.1.below HB1.out) HL.out.2).mono ?_
 rintro e w2 ⟨gs,rfl,hsh2,hb2⟩
 have HSh2:Hid (ShAt w2 w1.heap.size gs (ls.map bkOf)):=hsh2
 have HB2:Hid (Below w.heap.size w w2):=HB1.out.trans (hb2.mono HB1.out.size)
 have hB2:w1.heap.size < w2.heap.size:=by
  obtain ⟨g,hg,-⟩:=get_some gs 0 (by rw [hsh2.len,List.length_map]; exact HL.out.2.1)
  exact cell_lt (hsh2.ptr 0 g hg)
 have hgd:∀ g,g ∈ gs → w1.heap.size < g ∧ g < w2.heap.size:=fun g hg=>by
  refine ⟨hsh2.new g hg,?_⟩
  obtain ⟨i,hi⟩:=List.mem_iff_getElem?.1 hg
  have hil:i < (ls.map bkOf).length:=by
   rw [← hsh2.len]
   rcases Nat.lt_or_ge i gs.length with h | h
   · exact h
   · simp [List.getElem?_eq_none h] at hi
  exact (hsh2.bk i g _ hi (List.getElem?_eq_getElem hil)).lt
 have HLaid:Hid (Laid w w1.heap.size w2.heap.size gs):=⟨HB1.out.size,hB2,hgd⟩
 have hal:Below w2.heap.size w2 (w2.alloc (.cells (madeCells #[.int .i64 0,.int .i64 0,.int .i64 0] (n * 3)) 58)):=(Below.refl _ _).alloc (Nat.le_refl _) _
 have HWork:Hid (Work ls ps w (w2.alloc (.cells (madeCells #[.int .i64 0,.int .i64 0,.int .i64 0] (n * 3)) 58)) w1.heap.size w2.heap.size gs n 0 ⟨ls.map bkOf,0,[]⟩):=
  ⟨by simp [shape],hsh2.below hal hB2,room_made w2 _ (n * 3) 58,(fun i p h=>by simp at h),HB2.out.trans (hal.mono HB2.out.size),by simp⟩
 clear hsh2 hb2 hB2 hgd hal
 go_wp2_with fail
 generalize w2.alloc (.cells (madeCells #[.int .i64 0,.int .i64 0,.int .i64 0] (n * 3)) 58)=w3 at *
 generalize w1.heap.size=B at *
 generalize w2.heap.size=D at *
 clear hmk
 go_loopw [9,27] (fun l i wr=>∃ k:Nat,k ≤ n ∧ i=.int .i64 k ∧ ∃ s,l=.int .i64 s.left ∧ Work ls ps w wr B D gs n k s) (fun _ i _=>n - (intOf i).toNat)
 case atStart=>exact ⟨0,Nat.zero_le _,rfl,_,rfl,HWork.out⟩
 case round=>
  obtain ⟨k,hk,rfl,s,rfl,hwk⟩:=hrel
  have HWk:Hid (Work ls ps w wr B D gs n k s):=hwk
  have hok':OkPks (ps.take k):=by
   refine ⟨by have:=HP.out.2.few; simp; omega,fun i p hi=>?_⟩
   have hik:i < k:=by
    rcases Nat.lt_or_ge i k with h | h
    · exact h
    · rw [List.getElem?_take,if_neg (by omega)] at hi; cases hi
   rw [List.getElem?_take_of_lt hik] at hi
   have:=HP.out.2.each i p hi
   refine ⟨this.1,?_⟩
   have e:ahead (ps.take k) i=ahead ps i:=by
    cases i with
    | zero=>rfl
    | succ i=>simp only [ahead]; rw [List.getElem?_take_of_lt (by omega)]
   rw [e]; exact this.2
  have HGood:Hid (ShGood ls (ps.take k) s):=shape_good HL.out.2 _ _ hok' hwk.run
  clear hok'
  by_cases hkn:k < n
  ·
   obtain ⟨⟨x,y,z⟩,hp,-⟩:=get_some ps k (by rw [HN.out]; exact hkn)
   obtain ⟨b,off,rfl,-,hc⟩:=(HP.out.1.below hwk.below).place (by rw [HN.out]; omega)
   obtain ⟨c1,c2,c3⟩:=hc k _ hp
   simp only at c1 c2 c3
   have o:=okPk_true (HP.out.2.each k _ hp).1
   simp only at o
   obtain ⟨-,-,y1,y2,z1,z2⟩:=o
   have hleft:=HGood.out.okOut.final
   rw [← HGood.out.left] at hleft
   have HPk:Hid (ps[k]? = some ⟨x,y,z⟩):=hp
   have hal:Below wr.heap.size wr (wr.alloc (.cells #[.int .i64 x,.int .i64 y,.int .i64 z] 58)):=(Below.refl _ _).alloc (Nat.le_refl _) _
   have hBl:B < wr.heap.size:=Nat.lt_trans HLaid.out.bd hwk.dlt
   have HPass:Hid (Calls Tryz.prog 192 #[.slice (some ⟨B,0,none⟩) ls.length ls.length,.int .i64 (max z s.left),.int .i64 y] (wr.alloc (.cells #[.int .i64 x,.int .i64 y,.int .i64 z] 58)) fun e w'=>e=.returned (whenVal ad (passT s.bs (max z s.left) y)) ∧ (∀ T,passT s.bs (max z s.left) y=some T → ShAt w' B gs (s.bs.map fun b=>b.take T y)) ∧ But (fun k=>k ∈ gs) (wr.alloc (.cells #[.int .i64 x,.int .i64 y,.int .i64 z] 58)) w'):=
    pass_any B gs s.bs (max z s.left) y ls.length w _ ad HE.out (hwk.below.trans (hal.mono hwk.below.size)) HLaid.out.b0 (by simp; omega) (hwk.sh.below hal hBl) HGood.out.few HL.out.2.2.1
     (fun b hb=>⟨(HGood.out.ok b hb).1,by rw [(HGood.out.ok b hb).2]; omega⟩) (by omega) (by omega) y1 y2
   have HTk:Hid (ps.take (k + 1)=ps.take k ++ [⟨x,y,z⟩]):=by show _=_; rw [List.take_add_one,hp]; rfl
   have HGn:Hid (∀ g,g ∈ gs → g ≠ wr.heap.size):=fun g hg=>by have:=(HLaid.out.gd g hg).2; have:=hwk.dlt; omega
   clear hp hc hal hBl
   have HDl:Hid (D < wr.heap.size):=hwk.dlt
   have HLf:Hid (s.left=s.left):=rfl
   clear hwk
   generalize hLf:s.left=L at *
   have HLeft:Hid (s.left=L):=hLf
   clear hLf HLf
   obtain ⟨M,hM⟩:∃ M,max z L=M:=⟨_,rfl⟩
   rw [hM] at HPass
   have HM:Hid (max z L=M):=hM
   obtain ⟨Q,hQ⟩:∃ Q,passT s.bs M y=Q:=⟨_,rfl⟩
   rw [hQ] at HPass
   have HQ:Hid (passT s.bs M y=Q):=hQ
   have hMc:(L ≤ z ∧ M=z) ∨ (z < L ∧ M=L):=by omega
   clear hM hQ
   cases Q with
   | none=>
    change Hid (Calls Tryz.prog 192 #[.slice (some ⟨B,0,none⟩) ls.length ls.length,.int .i64 M,.int .i64 y] (wr.alloc (.cells #[.int .i64 x,.int .i64 y,.int .i64 z] 58)) fun e w'=>e=.returned (.tuple #[.int .i64 0,.iface 312 (.pointer (some (ad 3)))]) ∧ (∀ T,none=some T → ShAt w' B gs (s.bs.map fun b=>b.take T y)) ∧ But (fun k=>k ∈ gs) (wr.alloc (.cells #[.int .i64 x,.int .i64 y,.int .i64 z] 58)) w') at HPass
    have HNo:Hid (shStep s ⟨x,y,z⟩=none):=by
     show _=_
     unfold shStep
     simp only
     rw [HLeft.out,HM.out,HQ.out]
    rcases hMc with ⟨h1,h2⟩ | ⟨h1,h2⟩
    all_goals
     rw [h2] at HPass
     have H2:Hid (max z L=_):=HM.out.trans h2
     clear h2
     go_wp2_with fail
     try rw [H2.out]
     refine HPass.out.mono ?_
     rintro e w5 ⟨rfl,-,hb5⟩
     have HB5:Hid (Below w.heap.size w w5):=by
      have hwb:=HWk.out.below
      have h1:Below w.heap.size w (wr.alloc (.cells #[.int .i64 x,.int .i64 y,.int .i64 z] 58)):=hwb.alloc hwb.size _
      exact h1.trans (hb5.below h1.size fun g hg=>by have h2:=(HLaid.out.gd g hg).1; have h3:=HLaid.out.b0; omega)
     clear hb5
     go_wp2_with fail
     go_ret2
     exact ⟨HB5.out.alloc HB5.out.size _,.inr ⟨k,⟨x,y,z⟩,s,w5.heap.size,HPk.out,HWk.out.run,HNo.out,rfl,by simp,by simp⟩⟩
   | some T=>
    change Hid (Calls Tryz.prog 192 #[.slice (some ⟨B,0,none⟩) ls.length ls.length,.int .i64 M,.int .i64 y] (wr.alloc (.cells #[.int .i64 x,.int .i64 y,.int .i64 z] 58)) fun e w'=>e=.returned (.tuple #[.int .i64 T,.nilIface]) ∧ (∀ T',some T=some T' → ShAt w' B gs (s.bs.map fun b=>b.take T' y)) ∧ But (fun k=>k ∈ gs) (wr.alloc (.cells #[.int .i64 x,.int .i64 y,.int .i64 z] 58)) w') at HPass
    have HYes:Hid (shStep s ⟨x,y,z⟩=some ⟨s.bs.map fun b=>b.take T y,T,s.out ++ [⟨x,y,T⟩]⟩):=by
     show _=_
     unfold shStep
     simp only
     rw [HLeft.out,HM.out,HQ.out]
    have HOl:Hid (s.out.length=k):=by
     show _=_
     rw [HGood.out.len,List.length_take,HN.out]; omega
    rcases hMc with ⟨h1,h2⟩ | ⟨h1,h2⟩
    all_goals
     rw [h2] at HPass
     have H2:Hid (max z L=_):=HM.out.trans h2
     clear h2
     go_wp2_with fail
     try rw [H2.out]
     refine HPass.out.mono ?_
     rintro e w5 ⟨rfl,hsh5,hb5⟩
     have HSh5:Hid (ShAt w5 B gs (s.bs.map fun b=>b.take T y)):=hsh5 T rfl
     have hDg:¬ D ∈ gs:=fun h=>by have:=(HLaid.out.gd D h).2; omega
     have hCg:¬ wr.heap.size ∈ gs:=fun h=>HGn.out _ h rfl
     have hal:Below wr.heap.size wr (wr.alloc (.cells #[.int .i64 x,.int .i64 y,.int .i64 z] 58)):=(Below.refl _ _).alloc (Nat.le_refl _) _
     have HB5:Hid (Below w.heap.size w w5):=by
      have hwb:=HWk.out.below
      have h1:Below w.heap.size w (wr.alloc (.cells #[.int .i64 x,.int .i64 y,.int .i64 z] 58)):=hwb.trans (hal.mono hwb.size)
      exact h1.trans (hb5.below h1.size fun g hg=>by have h2:=(HLaid.out.gd g hg).1; have h3:=HLaid.out.b0; omega)
     have hlt5:wr.heap.size < (wr.alloc (.cells #[.int .i64 x,.int .i64 y,.int .i64 z] 58)).heap.size:=by simp
     have hDl:=HDl.out
     have hDl5:D < (wr.alloc (.cells #[.int .i64 x,.int .i64 y,.int .i64 z] 58)).heap.size:=Nat.lt_trans hDl hlt5
     have HSz5:Hid (wr.heap.size < w5.heap.size):=Nat.lt_of_lt_of_le hlt5 hb5.size
     have e0:w5.cell? ⟨wr.heap.size,0,none⟩=some (.int .i64 x):=by rw [hb5.cell (p:=⟨wr.heap.size,0,none⟩) hlt5 hCg]; simp
     have e1:w5.cell? ⟨wr.heap.size,1,none⟩=some (.int .i64 y):=by rw [hb5.cell (p:=⟨wr.heap.size,1,none⟩) hlt5 hCg]; simp
     have e2:w5.cell? ⟨wr.heap.size,2,none⟩=some (.int .i64 z):=by rw [hb5.cell (p:=⟨wr.heap.size,2,none⟩) hlt5 hCg]; simp
     have f2:w5.frozen? ⟨wr.heap.size,2,none⟩=false:=by rw [hb5.frozen (p:=⟨wr.heap.size,2,none⟩) hlt5 hCg]; simp
     have hroom5:=(HWk.out.room.below hal hDl).but hb5 hDl5 hDg
     have HRoom5:Hid (Room w5 D (n * 3)):=hroom5
     have HOut5:Hid (OutAt w5 D s.out):=(HWk.out.out.but (S:=fun _=>False) (.ofBelow hal) hDl id).but hb5 hDl5 hDg
     obtain ⟨u0,g0⟩:=hroom5.cell (k * 3) (by omega)
     obtain ⟨u1,g1⟩:=hroom5.cell (k * 3 + 1) (by omega)
     obtain ⟨u2,g2⟩:=hroom5.cell (k * 3 + 2) (by omega)
     have k0:=hroom5.frozen (k * 3)
     have k1:=hroom5.frozen (k * 3 + 1)
     have k2:=hroom5.frozen (k * 3 + 2)
     have hne:¬ wr.heap.size=D:=by omega
     have hne':¬ D=wr.heap.size:=by omega
     clear hsh5 hb5 hDg hal hlt5 hDl5 hroom5 hCg
     generalize wr.heap.size=C at *
     go_wp2_with fail
     go_roundw
     case rel=>
      refine ⟨k + 1,by omega,by go_num,⟨s.bs.map fun b=>b.take T y,T,s.out ++ [⟨x,y,T⟩]⟩,rfl,?_⟩
      have hf1:But (fun q=>q=C) w5 (w5.setCell ⟨C,2,none⟩ (.int .i64 T)):=But.setCell (S:=fun q=>q=C) (But.refl _ _) rfl _
      have hr1:=HRoom5.out.but hf1 (Nat.lt_trans HDl.out HSz5.out) hne'
      have ho1:=HOut5.out.but hf1 (Nat.lt_trans HDl.out HSz5.out) hne'
      have hf2:But (fun q=>q=C ∨ q=D) w5 ((((w5.setCell ⟨C,2,none⟩ (.int .i64 T)).setCell ⟨D,k * 3,none⟩ (.int .i64 x)).setCell ⟨D,k * 3 + 1,none⟩ (.int .i64 y)).setCell ⟨D,k * 3 + 2,none⟩ (.int .i64 T)):=
       But.setCell (S:=fun q=>q=C ∨ q=D) (But.setCell (S:=fun q=>q=C ∨ q=D) (But.setCell (S:=fun q=>q=C ∨ q=D) (But.setCell (S:=fun q=>q=C ∨ q=D) (But.refl _ _) (.inl rfl) _) (.inr rfl) _) (.inr rfl) _) (.inr rfl) _
      have hb0:=HLaid.out.b0
      have hbd:=HLaid.out.bd
      have hDC:=HDl.out
      refine ⟨?_,HSh5.out.but hf2 (by omega) (fun g hg h=>?_) (by have:=HSz5.out; omega),((hr1.set _ _).set _ _).set _ _,ho1.step hr1 k HOl.out (by omega) x y T,HB5.out.trans (hf2.below HB5.out.size (fun q hq=>by omega)),Nat.lt_of_lt_of_le (Nat.lt_trans HDl.out HSz5.out) hf2.size⟩
      ·
       rw [HTk.out,shape_snoc,HWk.out.run]
       exact HYes.out
      ·
       have h1:=HLaid.out.gd g hg
       have h2:=HGn.out g hg
       omega
     case measure=>simp [intOf]; omega
  ·
   clear hwk
   go_wp2_with fail
   go_ret2
   obtain rfl:k=n:=by omega
   have h1:=HWk.out
   refine ⟨h1.below,.inl ⟨s,D,by have:=h1.run; rwa [List.take_of_length_le (by rw [HN.out]; omega)] at this,by have e:=HN.out; rw [e]; rfl,Nat.le_trans HLaid.out.b0 (Nat.le_of_lt HLaid.out.bd),?_⟩⟩
   exact .inr ⟨D,0,rfl,h1.dlt,fun i p hi=>by
    have:=h1.out i p hi
    simpa using this⟩
theorem foldl_none (l:List Pk):l.foldl (fun (s:Option Sh) p=>s.bind fun s=>shStep s p) none=none:=by
 induction l with
 | nil=>rfl
 | cons a r ih=>exact ih
theorem shape_stuck {ls:List (Int × Int)} {ps:List Pk} {j:Nat} {p:Pk} {s:Sh} (h1:ps[j]? = some p) (h2:shape ls (ps.take j)=some s) (h3:shStep s p=none):shape ls ps=none:=by
 have e:ps=ps.take j ++ p :: ps.drop (j + 1):=by rw [← drop_cons h1,List.take_append_drop]
 have h2':(ps.take j).foldl (fun (s:Option Sh) p=>s.bind fun s=>shStep s p) (some ⟨ls.map bkOf,0,[]⟩)=some s:=h2
 rw [e]
 unfold shape
 rw [List.foldl_append,h2',List.foldl_cons]
 show List.foldl _ (shStep s p) _=none
 rw [h3]
 exact foldl_none _
structure Slim (cs:List (List (Int × Int))) (ns:List Int):Prop where
 curves:cs.length ≤ 20
 nums:ns.length ≤ 30
 each:∀ (i:Nat) ls,cs[i]? = some ls → ls.length ≤ 20
theorem Tryz.infoLines:(Tryz.prog.info? 62).map (fun i=>(i.zero,i.size,i.bytes))=some (some (.slice none 0 0),1,24):=by kernel_rfl
def LiesS (w:World) (a:Option Addr) (ps:List Sn):Prop:=
 ps=[] ∨ ∃ b off,a=some ⟨b,off,none⟩ ∧ b < w.heap.size ∧ ∀ (i:Nat) p,ps[i]? = some p → w.cell? ⟨b,off + i * 3,none⟩=some (.int .i64 p.num) ∧ w.cell? ⟨b,off + i * 3 + 1,none⟩=some (.int .i64 p.beg) ∧ w.cell? ⟨b,off + i * 3 + 2,none⟩=some (.int .i64 p.fin)
theorem LiesS.place {w:World} {a:Option Addr} {ps:List Sn} (h:LiesS w a ps) (h1:1 ≤ ps.length) :
  ∃ b off,a=some ⟨b,off,none⟩ ∧ b < w.heap.size ∧ ∀ (i:Nat) p,ps[i]? = some p → w.cell? ⟨b,off + i * 3,none⟩=some (.int .i64 p.num) ∧ w.cell? ⟨b,off + i * 3 + 1,none⟩=some (.int .i64 p.beg) ∧ w.cell? ⟨b,off + i * 3 + 2,none⟩=some (.int .i64 p.fin):=by
 rcases h with rfl | h
 · simp at h1
 · exact h
theorem LiesS.but {S:Nat → Prop} {w w':World} {a:Option Addr} {ps:List Sn} (h:LiesS w a ps) (hb:But S w w') (hs:∀ ad,a=some ad → ¬ S ad.block):LiesS w' a ps:=by
 rcases h with rfl | ⟨b,off,rfl,hlt,hc⟩
 · exact .inl rfl
 ·
  have hn:¬ S b:=hs _ rfl
  refine .inr ⟨b,off,rfl,Nat.lt_of_lt_of_le hlt hb.size,fun i p hi=>?_⟩
  have:=hc i p hi
  exact ⟨by rw [hb.cell (p:=⟨b,off + i * 3,none⟩) hlt hn]; exact this.1,by rw [hb.cell (p:=⟨b,off + i * 3 + 1,none⟩) hlt hn]; exact this.2.1,by rw [hb.cell (p:=⟨b,off + i * 3 + 2,none⟩) hlt hn]; exact this.2.2⟩
theorem LiesS.below {w w':World} {a:Option Addr} {ps:List Sn} (h:LiesS w a ps) (hb:Below w.heap.size w w'):LiesS w' a ps:=
 h.but (S:=fun _=>False) (.ofBelow hb) (fun _ _ h=>h)
def cellsS (ps:List Sn):List Value:=ps.flatMap fun p=>[.int .i64 p.num,.int .i64 p.beg,.int .i64 p.fin]
theorem cellsS_cons (p:Sn) (r:List Sn):cellsS (p :: r)=.int .i64 p.num :: .int .i64 p.beg :: .int .i64 p.fin :: cellsS r:=rfl
theorem cellsS_append (a b:List Sn):cellsS (a ++ b)=cellsS a ++ cellsS b:=by simp [cellsS]
theorem cellsS_get (ps:List Sn):∀ (i:Nat) p,ps[i]? = some p → (cellsS ps)[i * 3]? = some (.int .i64 p.num) ∧ (cellsS ps)[i * 3 + 1]? = some (.int .i64 p.beg) ∧ (cellsS ps)[i * 3 + 2]? = some (.int .i64 p.fin):=by
 induction ps with
 | nil=>intro i p h; simp at h
 | cons q r ih=>
  intro i p h
  rw [cellsS_cons]
  cases i with
  | zero=>simp at h; subst h; exact ⟨rfl,rfl,rfl⟩
  | succ i=>
   have:=ih i p (by simpa using h)
   rw [show (i + 1) * 3=i * 3 + 1 + 1 + 1 by omega]
   exact ⟨by simpa using this.1,by simpa using this.2.1,by simpa using this.2.2⟩
theorem cellsS_at (ps:List Sn):∀ j u,(cellsS ps)[j]? = some u → ∃ (i:Nat) (p:Sn),ps[i]? = some p ∧ ((j=i * 3 ∧ u=.int .i64 p.num) ∨ (j=i * 3 + 1 ∧ u=.int .i64 p.beg) ∨ (j=i * 3 + 2 ∧ u=.int .i64 p.fin)):=by
 induction ps with
 | nil=>intro j u h; simp [cellsS] at h
 | cons p r ih=>
  intro j u h
  rw [cellsS_cons] at h
  match j,h with
  | 0,h=>exact ⟨0,p,rfl,.inl ⟨rfl,by simpa using h.symm⟩⟩
  | 1,h=>exact ⟨0,p,rfl,.inr (.inl ⟨rfl,by simpa using h.symm⟩)⟩
  | 2,h=>exact ⟨0,p,rfl,.inr (.inr ⟨rfl,by simpa using h.symm⟩)⟩
  | j + 3,h=>
   obtain ⟨i,q,hi,hj⟩:=ih j u (by simpa using h)
   refine ⟨i + 1,q,by simpa using hi,?_⟩
   rcases hj with ⟨e,f⟩ | ⟨e,f⟩ | ⟨e,f⟩
   · exact .inl ⟨by omega,f⟩
   · exact .inr (.inl ⟨by omega,f⟩)
   · exact .inr (.inr ⟨by omega,f⟩)
theorem cellsS_one (ps:List Sn):∀ u ∈ cellsS ps,u.oneCell'=true:=by
 intro u hu
 obtain ⟨j,hj⟩:=List.mem_iff_getElem?.1 hu
 obtain ⟨i,p,-,h⟩:=cellsS_at ps j u hj
 rcases h with ⟨-,rfl⟩ | ⟨-,rfl⟩ | ⟨-,rfl⟩ <;> rfl
def OwnS (w:World) (B:Nat) (v:Value) (ps:List Sn):Prop:=w.ownsRow B 69 3 v ps.length (cellsS ps)
theorem OwnS.open {w:World} {B:Nat} {v:Value} {ps:List Sn} (h:OwnS w B v ps) :
  ∃ a cap,v=.slice a ps.length cap ∧ ps.length ≤ cap ∧ cap ≤ maxLen ∧ LiesS w a ps ∧ (∀ ad,a=some ad → B ≤ ad.block) ∧ (a=none → ps=[] ∧ cap=0):=by
 obtain ⟨hlen,⟨rfl,h0⟩ | ⟨g,cap,cur,rfl,hB,hg,hn,hm,hc,ht⟩⟩:=h
 · exact ⟨none,0,by rw [h0],by omega,by simp [maxLen],.inl (List.length_eq_zero_iff.1 h0),(fun ad e=>by cases e),fun _=>⟨List.length_eq_zero_iff.1 h0,rfl⟩⟩
 ·
  refine ⟨_,cap,rfl,hn,hm,.inr ⟨g,0,rfl,?_,fun i p hi=>?_⟩,(fun ad e=>by cases e; exact hB),fun e=>by cases e⟩
  ·
   rcases Nat.lt_or_ge g w.heap.size with h | h
   · exact h
   · simp [Array.getElem?_eq_none h] at hg
  ·
   have hh:w.ownsRow B 69 3 (.slice (some ⟨g,0,none⟩) ps.length cap) ps.length (cellsS ps):=⟨hlen,.inr ⟨g,cap,cur,rfl,hB,hg,hn,hm,hc,ht⟩⟩
   have hil:i < ps.length:=by
    rcases Nat.lt_or_ge i ps.length with h | h
    · exact h
    · simp [List.getElem?_eq_none h] at hi
   have:=cellsS_get ps i p hi
   rw [hh.cellAt _ (by omega),hh.cellAt _ (by omega),hh.cellAt _ (by omega),Nat.zero_add]
   exact this
theorem Tryz.infoSent:(Tryz.prog.info? 69).map (fun i=>(i.zero,i.size,i.bytes))=some (some (.agg #[.int .i64 0,.int .i64 0,.int .i64 0]),3,24):=by kernel_rfl
end Go.Proofs.YtipdclphpkgceaaGreatDoor
