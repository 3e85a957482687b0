/- Own facts, put together: no statement of its own. -/
import Derived.Deep.LoopGhost
import Derived.Test.YtipdclphpkgceaaGreatDoorA09
import Derived.Deep.Onto
import Derived.Laws.Rows
import Derived.Test.YtipdclphpkgceaaGreatDoorA01
set_option maxHeartbeats 4000000
set_option maxRecDepth 100000

namespace Go.Proofs.YtipdclphpkgceaaGreatDoor
open Go.RowKit
theorem Tryz.methodCome (x:Value) (w:World):(Go.method 442 266 x "Come").run Tryz.prog w=.ok (284,x) w:=by kernel_rfl
theorem Tryz.methodPick (x:Value) (w:World):(Go.method 442 266 x "Pick").run Tryz.prog w=.ok (285,x) w:=by kernel_rfl
theorem Tryz.methodRest (x:Value) (w:World):(Go.method 442 266 x "Rest").run Tryz.prog w=.ok (286,x) w:=by kernel_rfl
theorem PD {σ:Type} (Q:Que σ) (Held:World → (Nat → Prop) → σ → Prop) (per:Int) (ps:List Pk) (q0:σ) (B:Nat) (x1 x2 x3:Value) (hm:Gc Held B) (hlaw:Ia Q per ps q0) (ho:Aj ps) (h1:1 ≤ per) (h2:per ≤ 1000)
  (hCome:∀ w D s p,Reaches Q per ps q0 s → ps[s.next]? = some p → Held w D s.q → Calls Tryz.prog 284 #[.agg #[x1,x2,x3],.int .i64 s.next] w fun e w'=>e=.returned (.tuple #[]) ∧ Az Held w w' D (Q.come s.q s.next))
  (hPick:∀ w D s,Reaches Q per ps q0 s → 0 < Q.rest s.q → Held w D s.q → Calls Tryz.prog 285 #[.agg #[x1,x2,x3]] w fun e w'=>e=.returned (.int .i64 (Q.pick s.q:Nat)) ∧ Az Held w w' D (Q.left s.q))
  (hRest:∀ w D s,Reaches Q per ps q0 s → Held w D s.q → Calls Tryz.prog 286 #[.agg #[x1,x2,x3]] w fun e w'=>e=.returned (.int .i64 (Q.rest s.q:Nat)) ∧ Az Held w w' D (Q.asked s.q))
  (a:Option Addr) (cap:Nat) (w:World) (hl:AO w a ps) (hB:B ≤ w.heap.size) (ha:∀ ad,a=some ad → 0 < ps.length → ad.block < B) (D0:Nat → Prop) (h0:Held w D0 q0) :
  Calls Tryz.prog 169 #[.slice a ps.length cap,.int .i64 per,.iface 266 (.agg #[x1,x2,x3])] w fun e w'=>∃ s v,e=.returned v ∧ Reaches Q per ps q0 s ∧ ¬ s.next < ps.length ∧ Q.rest s.q=0 ∧ Ig w' w.heap.size v s.out ∧ Below B w w' ∧ ∃ D,Held w' D (Q.asked s.q):=by
 have HM:Hid (Gc Held B ∧ B ≤ w.heap.size ∧ AO w a ps ∧ (∀ ad,a=some ad → 0 < ps.length → ad.block < B)):=⟨hm,hB,hl,ha⟩
 have HL:Hid (Ia Q per ps q0 ∧ Aj ps):=⟨hlaw,ho⟩
 have HCome:Hid (∀ w D s p,Reaches Q per ps q0 s → ps[s.next]? = some p → Held w D s.q → Calls Tryz.prog 284 #[.agg #[x1,x2,x3],.int .i64 s.next] w fun e w'=>e=.returned (.tuple #[]) ∧ Az Held w w' D (Q.come s.q s.next)):=hCome
 have HPick:Hid (∀ w D s,Reaches Q per ps q0 s → 0 < Q.rest s.q → Held w D s.q → Calls Tryz.prog 285 #[.agg #[x1,x2,x3]] w fun e w'=>e=.returned (.int .i64 (Q.pick s.q:Nat)) ∧ Az Held w w' D (Q.left s.q)):=hPick
 have HRest:Hid (∀ w D s,Reaches Q per ps q0 s → Held w D s.q → Calls Tryz.prog 286 #[.agg #[x1,x2,x3]] w fun e w'=>e=.returned (.int .i64 (Q.rest s.q:Nat)) ∧ Az Held w w' D (Q.asked s.q)):=hRest
 have HS0:Hid (Dw Q Held per ps q0 B w w (.slice none 0 0) ⟨[],0,0,q0⟩ D0):=⟨.start,World.ownsRow_nil _ _ _ _,h0,fun g hg=>(by cases hg),Below.refl _ _⟩
 obtain ⟨i0,hi,hz0,hz1,hz2⟩:=info_parts Tryz.infoSent
 have hfew:=ho.few
 have m1:=Tryz.methodCome
 have m2:=Tryz.methodPick
 have m3:=Tryz.methodRest
 clear hm hlaw ho hCome hPick hRest hl hB ha h0
 obtain ⟨n,hn⟩:∃ n,ps.length=n:=⟨_,rfl⟩
 have HN:Hid (ps.length=n):=hn
 rw [hn] at hfew ⊢
 clear hn
 go_enter Tryz.func169,Tryz.ntmps169
 go_wp2_with fail
 go_loopg [7,8,9] (leftOf ps (⟨[],0,0,q0⟩:St σ)) (fun gk v t i wr=>∃ s D,gk=leftOf ps s ∧ t=.int .i64 s.now ∧ i=.int .i64 (s.next:Nat) ∧ Dw Q Held per ps q0 B w wr v s D)
 case atStart=>exact ⟨_,D0,rfl,rfl,rfl,HS0.out⟩
 case round=>
  obtain ⟨s,D,rfl,rfl,rfl,hat⟩:=hrel
  obtain ⟨W0,hW0⟩:∃ W,W=wr:=⟨_,rfl⟩
  subst hW0
  have HA0:Hid (Dw Q Held per ps q0 B w W0 u7 s D):=hat
  obtain ⟨nw,hnw⟩:∃ nw,s.now=nw:=⟨_,rfl⟩
  have HNw:Hid (s.now=nw):=hnw
  rw [hnw]
  clear hat hnw
  go_wp2_with fail
  go_loopg [9] (n - s.next) (fun gi i wr2=>∃ s2 D2,gi=n - s2.next ∧ i=.int .i64 (s2.next:Nat) ∧ s2.out=s.out ∧ s2.now=s.now ∧ s.next ≤ s2.next ∧ Dw Q Held per ps q0 B w wr2 u7 s2 D2)
  case atStart=>exact ⟨s,D,rfl,rfl,rfl,rfl,Nat.le_refl _,HA0.out⟩
  case round=>
   obtain ⟨s2,D2,rfl,rfl,e1,e2,e3,hat⟩:=hrel
   have HA:Hid (Dw Q Held per ps q0 B w wr u7 s2 D2):=hat
   have HEq:Hid (s2.out=s.out ∧ s2.now=s.now ∧ s.next ≤ s2.next):=⟨e1,e2,e3⟩
   obtain ⟨nx,hnx⟩:∃ nx,s2.next=nx:=⟨_,rfl⟩
   have hnw:s2.now=nw:=e2.trans HNw.out
   have HX:Hid (s2.next=nx ∧ s2.now=nw):=⟨hnx,hnw⟩
   have hnow:=hat.reach.now_in ⟨h1,h2⟩ HL.out.2
   have hcnt:=hat.reach.count HL.out.1
   have hnl:=hat.reach.next_le
   rw [HN.out,hnx] at hnl
   have hol:s2.out.length ≤ 300:=by omega
   rw [hnw] at hnow
   rw [hnx]
   clear hat e1 e2 e3 hnx hnw hcnt
   have HReach:Hid (Reaches Q per ps q0 s2):=HA.out.reach
   have HC1:Hid (∀ p,ps[nx]? = some p → Calls Tryz.prog 284 #[.agg #[x1,x2,x3],.int .i64 nx] wr fun e w'=>e=.returned (.tuple #[]) ∧ Az Held wr w' D2 (Q.come s2.q nx)):=fun p hp=>by
    have:=HCome.out wr D2 s2 p HA.out.reach (by rw [HX.out.1];exact hp) HA.out.held
    rwa [HX.out.1] at this
   obtain ⟨rs,hrs⟩:∃ rs,Q.rest s2.q=rs:=⟨_,rfl⟩
   have HRS:Hid (Q.rest s2.q=rs):=hrs
   have hcnt:=HA.out.reach.count HL.out.1
   rw [hrs,HX.out.1] at hcnt
   have hrs3:rs ≤ 300:=by omega
   have HR1:Hid (Calls Tryz.prog 286 #[.agg #[x1,x2,x3]] wr fun e w'=>e=.returned (.int .i64 (rs:Nat)) ∧ Az Held wr w' D2 (Q.asked s2.q)):=by
    have:=HRest.out wr D2 s2 HA.out.reach HA.out.held
    rwa [hrs] at this
   have HCnt:Hid (s2.out.length+rs=nx):=hcnt
   have HAsk:Hid (0 < rs → Q.asked s2.q=s2.q):=fun h=>if_neg (by rw [hrs];omega)
   clear hrs hcnt
   by_cases hgo:nx < n ∧ Ay ps nx ≤ nw
   ·
    obtain ⟨hlt,htk⟩:=hgo
    obtain ⟨p,hp,-⟩:=Ai ps nx (by rw [HN.out];exact hlt)
    obtain ⟨b,off,rfl,hbl,hc⟩:=HM.out.2.2.1.place (by rw [HN.out];omega)
    have c1:wr.cell? ⟨b,off+nx * 3+2,none⟩=some (.int .i64 p.tick):=by rw [HA.out.below.cell (p:=⟨b,off+nx * 3+2,none⟩) (HM.out.2.2.2 ⟨b,off,none⟩ rfl (by rw [HN.out];omega))];exact (hc nx p hp).2.2
    have HP:Hid (ps[nx]? = some p):=hp
    rw [AJ hp] at htk
    have HTk:Hid (p.tick ≤ nw):=htk
    clear hc hp
    go_wp2_with fail
    refine (HC1.out p HP.out).mono ?_
    rintro e w1 ⟨rfl,hq⟩
    have HQ:Hid (Az Held wr w1 D2 (Q.come s2.q nx)):=hq
    clear hq
    go_wp2_with fail
    go_roundg (n - (nx+1))
    case measure=>have:=HX.out.1;omega
    case rel=>
     have hr:Reaches Q per ps q0 ⟨s2.out,s2.now,s2.next+1,Q.come s2.q s2.next⟩:=.come s2 p HReach.out (by rw [HX.out.1];exact HP.out) (by rw [HX.out.2];exact HTk.out)
     rw [HX.out.1] at hr
     obtain ⟨D3,h3⟩:=HA.out.called (s':=⟨s2.out,s2.now,nx+1,Q.come s2.q nx⟩) HM.out.1 HM.out.2.1 HQ.out hr rfl
     have e3:=HEq.out.2.2
     rw [HX.out.1] at e3
     exact ⟨⟨s2.out,s2.now,nx+1,Q.come s2.q nx⟩,D3,rfl,by go_num,HEq.out.1,HEq.out.2.1,Nat.le_succ_of_le e3,h3⟩
   ·
    have HStop:Hid (∀ r,ps[s2.next]? = some r → s2.now < r.tick):=fun r hr=>by
     rw [HX.out.1] at hr
     rw [HX.out.2]
     have h1:=Ad hr
     rw [HN.out] at h1
     have h2:=AJ hr
     rcases Int.lt_or_le nw r.tick with h3 | h3
     · exact h3
     · exact absurd ⟨h1,by rw [h2];exact h3⟩ hgo
    have HSend:Hid (0 < rs → ∀ W1 D3 ,Dw Q Held per ps q0 B w W1 u7 s2 D3 → ∃ k p,k < n ∧ ps[k]? = some p ∧ Jr p=true ∧ (Calls Tryz.prog 285 #[.agg #[x1,x2,x3]] W1 fun e w'=>e=.returned (.int .i64 (k:Nat)) ∧ ∃ D4,Dx Held B w w' u7 s2.out (Q.left s2.q) D4) ∧
      (∀ W2,AO W2 a ps → Calls Tryz.prog 195 #[.slice a n cap,.int .i64 per,.int .i64 k,.int .i64 nw] W2 fun e w'=>e=.returned (.agg #[.int .i64 k,.int .i64 nw,.int .i64 (nw+per * p.size)]) ∧ Below W2.heap.size W2 w') ∧
      Reaches Q per ps q0 ⟨s2.out ++ [⟨(k:Nat),nw,nw+per * p.size⟩],nw+per * p.size,nx,Q.left s2.q⟩):=fun hpos W1 D3 hA1=>by
     have hpos':0 < Q.rest s2.q:=by rw [HRS.out];exact hpos
     have hk:=HL.out.1.pick s2 HReach.out hpos'
     rw [HX.out.1] at hk
     obtain ⟨p,hp,-⟩:=Ai ps (Q.pick s2.q) (by rw [HN.out];omega)
     have hok:=(HL.out.2.each _ p hp).1
     refine ⟨Q.pick s2.q,p,by omega,hp,hok,?_,fun W2 hl2=>?_,?_⟩
     ·
      refine (HPick.out W1 D3 s2 HReach.out hpos' hA1.held).mono ?_
      rintro e w' ⟨rfl,hq⟩
      obtain ⟨D4,g1,g2,g3,g4⟩:=hA1.parts HM.out.1 HM.out.2.1 hq
      exact ⟨rfl,D4,g1,g2,g3,g4⟩
     ·
      have:=UD a cap ps per nw (Q.pick s2.q) p W2 hl2 (by rw [HN.out];exact hfew) hp hok h1 h2 hnow.1 (by omega)
      rwa [HN.out] at this
     ·
      have:=Reaches.send s2 p HReach.out HStop.out hpos' hp
      rwa [HX.out.1,HX.out.2] at this
    have hway:(¬ nx < n) ∨ (nx < n ∧ nw < Ay ps nx):=by omega
    have HWay:Hid ((¬ nx < n) ∨ (nx < n ∧ nw < Ay ps nx)):=hway
    have HCell:Hid (nx < n → ∃ b off,a=some ⟨b,off,none⟩ ∧ ∀ W,Below B w W → W.cell? ⟨b,off+nx * 3+2,none⟩=some (.int .i64 (Ay ps nx))):=fun hlt=>by
     obtain ⟨p,hp,-⟩:=Ai ps nx (by rw [HN.out];exact hlt)
     obtain ⟨b,off,rfl,hbl,hc⟩:=HM.out.2.2.1.place (by rw [HN.out];omega)
     refine ⟨b,off,rfl,fun W hW=>?_⟩
     rw [hW.cell (p:=⟨b,off+nx * 3+2,none⟩) (HM.out.2.2.2 ⟨b,off,none⟩ rfl (by rw [HN.out];omega)),AJ hp]
     exact (hc nx p hp).2.2
    clear hgo hway
    by_cases hrest:0 < rs
    ·
     rcases HWay.out with hlt | ⟨hlt,htk⟩
     ·
      go_wp2_with fail
      refine HR1.out.mono ?_
      rintro e w1 ⟨rfl,hq⟩
      rw [HAsk.out hrest] at hq
      obtain ⟨D3,h3⟩:=HA.out.called HM.out.1 HM.out.2.1 hq HReach.out rfl
      obtain ⟨k,p,hkn,hp,hok,hpick,hone,hreach⟩:=HSend.out hrest w1 D3 h3
      have HPk:Hid (Calls Tryz.prog 285 #[.agg #[x1,x2,x3]] w1 fun e w'=>e=.returned (.int .i64 (k:Nat)) ∧ ∃ D4,Dx Held B w w' u7 s2.out (Q.left s2.q) D4):=hpick
      have HOne:Hid (∀ W2,AO W2 a ps → Calls Tryz.prog 195 #[.slice a n cap,.int .i64 per,.int .i64 k,.int .i64 nw] W2 fun e w'=>e=.returned (.agg #[.int .i64 k,.int .i64 nw,.int .i64 (nw+per * p.size)]) ∧ Below W2.heap.size W2 w'):=hone
      obtain ⟨uz,hto⟩:∃ uz,nw+per * p.size=uz:=⟨_,rfl⟩
      rw [hto] at hreach
      have HTo:Hid (nw+per * p.size=uz):=hto
      have HRe:Hid (Reaches Q per ps q0 ⟨s2.out ++ [⟨(k:Nat),nw,uz⟩],uz,nx,Q.left s2.q⟩):=hreach
      clear hq h3 hpick hone hreach hp hok hto
      go_wp2_with fail
      refine HPk.out.mono ?_
      rintro e w2 ⟨rfl,D4,hmid⟩
      have HMid:Hid (Dx Held B w w2 u7 s2.out (Q.left s2.q) D4):=hmid
      have HLies:Hid (AO w2 a ps):=HM.out.2.2.1.bel HM.out.2.2.2 hmid.below
      clear hmid
      go_wp2_with fail
      refine (HOne.out w2 HLies.out).mono ?_
      rintro e w3 ⟨rfl,hb3⟩
      rw [HTo.out]
      have HMid3:Hid (Dx Held B w w3 u7 s2.out (Q.left s2.q) D4):=HMid.out.later HM.out.1 HM.out.2.1 hb3
      clear hb3
      have HMid4:Hid (Dx Held B w ((w3.alloc (.cells #[.int .i64 k,.int .i64 nw,.int .i64 uz] 69)).alloc (.cells #[.int .i64 k,.int .i64 nw,.int .i64 uz] 69)) u7 s2.out (Q.left s2.q) D4):=HMid3.out.later HM.out.1 HM.out.2.1 (((Below.refl _ _).alloc (Nat.le_refl _) _).alloc (by simp) _)
      have HNews:Hid (∀ j u,(cellsS [⟨k,nw,uz⟩])[j]? = some u → ((w3.alloc (.cells #[.int .i64 k,.int .i64 nw,.int .i64 uz] 69)).alloc (.cells #[.int .i64 k,.int .i64 nw,.int .i64 uz] 69)).cell? ((⟨w3.heap.size+1,0,none⟩:Addr).add j)=some u):=World.news_of_block (cs:=#[.int .i64 k,.int .i64 nw,.int .i64 uz]) (t:=69) (by have:=heap_alloc_new (w3.alloc (.cells #[.int .i64 k,.int .i64 nw,.int .i64 uz] 69)) (.cells #[.int .i64 k,.int .i64 nw,.int .i64 uz] 69);simpa using this)
      have HCel:Hid (((w3.alloc (.cells #[.int .i64 k,.int .i64 nw,.int .i64 uz] 69)).alloc (.cells #[.int .i64 k,.int .i64 nw,.int .i64 uz] 69)).cell? ⟨w3.heap.size,2,none⟩=some (.int .i64 uz)):=cell_later ((Below.refl _ _).alloc (Nat.le_refl _) _) (by simp)
      have HBs:Hid (w.heap.size ≤ ((w3.alloc (.cells #[.int .i64 k,.int .i64 nw,.int .i64 uz] 69)).alloc (.cells #[.int .i64 k,.int .i64 nw,.int .i64 uz] 69)).heap.size ∧ w3.heap.size < ((w3.alloc (.cells #[.int .i64 k,.int .i64 nw,.int .i64 uz] 69)).alloc (.cells #[.int .i64 k,.int .i64 nw,.int .i64 uz] 69)).heap.size):=⟨HMid4.out.below.size,by simp;omega⟩
      have HNe:Hid (some w3.heap.size ≠ u7.ownBlock):=fun e=>by
       have:=(AX HMid3.out.own e.symm).2
       omega
      go_wp2_with (at_builtin;go_must (refine wpList_append_lies _ rfl _ _ 65 rfl w.heap.size 69 i0 (.agg #[.int .i64 0,.int .i64 0,.int .i64 0]) 3 24 Tryz.underlying65 hi hz0 hz1 hz2 rfl (by decide) u7 s2.out.length (cellsS s2.out) rfl HMid4.out.own ⟨w3.heap.size+1,0,none⟩ 1 1 (cellsS [⟨k,nw,uz⟩]) rfl rfl HNews.out (M9 _) (by decide) (by unfold maxLen;omega) (by omega) HBs.out.1 _ rfl ?_;intro g5 cap5 w5 ho5 hg5 hat5 hlt5;have c5:w5.cell? ⟨w3.heap.size,2,none⟩=some (.int .i64 uz):=(hg5.cell_far ⟨w3.heap.size,2,none⟩ HBs.out.2 HNe.out).trans HCel.out;have H5:Hid (Dw Q Held per ps q0 B w w5 (.slice (some ⟨g5,0,none⟩) (s2.out.length+1) cap5) ⟨s2.out ++ [⟨(k:Nat),nw,uz⟩],uz,nx,Q.left s2.q⟩ D4):=Dw.grown HM.out.1 HM.out.2.1 HMid4.out ho5 hg5 hat5 _ HRe.out rfl rfl;clear ho5 hg5 hat5 hlt5))
      go_roundg (leftOf ps (⟨s2.out ++ [⟨(k:Nat),nw,uz⟩],uz,nx,Q.left s2.q⟩:St σ))
      case measure=>
       refine Pq ?_ ?_
       · simp [HEq.out.1]
       ·
        have h3:=HCnt.out
        rw [HEq.out.1] at h3
        rw [HN.out]
        omega
      case rel=>exact ⟨_,D4,rfl,rfl,rfl,H5.out⟩
     ·
      obtain ⟨b,off,rfl,hcell⟩:=HCell.out hlt
      have c1:=hcell wr HA.out.below
      clear hcell
      go_wp2_with fail
      refine HR1.out.mono ?_
      rintro e w1 ⟨rfl,hq⟩
      rw [HAsk.out hrest] at hq
      obtain ⟨D3,h3⟩:=HA.out.called HM.out.1 HM.out.2.1 hq HReach.out rfl
      obtain ⟨k,p,hkn,hp,hok,hpick,hone,hreach⟩:=HSend.out hrest w1 D3 h3
      have HPk:Hid (Calls Tryz.prog 285 #[.agg #[x1,x2,x3]] w1 fun e w'=>e=.returned (.int .i64 (k:Nat)) ∧ ∃ D4,Dx Held B w w' u7 s2.out (Q.left s2.q) D4):=hpick
      have HOne:Hid (∀ W2,AO W2 (some ⟨b,off,none⟩) ps → Calls Tryz.prog 195 #[.slice (some ⟨b,off,none⟩) n cap,.int .i64 per,.int .i64 k,.int .i64 nw] W2 fun e w'=>e=.returned (.agg #[.int .i64 k,.int .i64 nw,.int .i64 (nw+per * p.size)]) ∧ Below W2.heap.size W2 w'):=hone
      obtain ⟨uz,hto⟩:∃ uz,nw+per * p.size=uz:=⟨_,rfl⟩
      rw [hto] at hreach
      have HTo:Hid (nw+per * p.size=uz):=hto
      have HRe:Hid (Reaches Q per ps q0 ⟨s2.out ++ [⟨(k:Nat),nw,uz⟩],uz,nx,Q.left s2.q⟩):=hreach
      clear hq h3 hpick hone hreach hp hok hto
      go_wp2_with fail
      refine HPk.out.mono ?_
      rintro e w2 ⟨rfl,D4,hmid⟩
      have HMid:Hid (Dx Held B w w2 u7 s2.out (Q.left s2.q) D4):=hmid
      have HLies:Hid (AO w2 (some ⟨b,off,none⟩) ps):=HM.out.2.2.1.bel HM.out.2.2.2 hmid.below
      clear hmid
      go_wp2_with fail
      refine (HOne.out w2 HLies.out).mono ?_
      rintro e w3 ⟨rfl,hb3⟩
      rw [HTo.out]
      have HMid3:Hid (Dx Held B w w3 u7 s2.out (Q.left s2.q) D4):=HMid.out.later HM.out.1 HM.out.2.1 hb3
      clear hb3
      have HMid4:Hid (Dx Held B w ((w3.alloc (.cells #[.int .i64 k,.int .i64 nw,.int .i64 uz] 69)).alloc (.cells #[.int .i64 k,.int .i64 nw,.int .i64 uz] 69)) u7 s2.out (Q.left s2.q) D4):=HMid3.out.later HM.out.1 HM.out.2.1 (((Below.refl _ _).alloc (Nat.le_refl _) _).alloc (by simp) _)
      have HNews:Hid (∀ j u,(cellsS [⟨k,nw,uz⟩])[j]? = some u → ((w3.alloc (.cells #[.int .i64 k,.int .i64 nw,.int .i64 uz] 69)).alloc (.cells #[.int .i64 k,.int .i64 nw,.int .i64 uz] 69)).cell? ((⟨w3.heap.size+1,0,none⟩:Addr).add j)=some u):=World.news_of_block (cs:=#[.int .i64 k,.int .i64 nw,.int .i64 uz]) (t:=69) (by have:=heap_alloc_new (w3.alloc (.cells #[.int .i64 k,.int .i64 nw,.int .i64 uz] 69)) (.cells #[.int .i64 k,.int .i64 nw,.int .i64 uz] 69);simpa using this)
      have HCel:Hid (((w3.alloc (.cells #[.int .i64 k,.int .i64 nw,.int .i64 uz] 69)).alloc (.cells #[.int .i64 k,.int .i64 nw,.int .i64 uz] 69)).cell? ⟨w3.heap.size,2,none⟩=some (.int .i64 uz)):=cell_later ((Below.refl _ _).alloc (Nat.le_refl _) _) (by simp)
      have HBs:Hid (w.heap.size ≤ ((w3.alloc (.cells #[.int .i64 k,.int .i64 nw,.int .i64 uz] 69)).alloc (.cells #[.int .i64 k,.int .i64 nw,.int .i64 uz] 69)).heap.size ∧ w3.heap.size < ((w3.alloc (.cells #[.int .i64 k,.int .i64 nw,.int .i64 uz] 69)).alloc (.cells #[.int .i64 k,.int .i64 nw,.int .i64 uz] 69)).heap.size):=⟨HMid4.out.below.size,by simp;omega⟩
      have HNe:Hid (some w3.heap.size ≠ u7.ownBlock):=fun e=>by
       have:=(AX HMid3.out.own e.symm).2
       omega
      go_wp2_with (at_builtin;go_must (refine wpList_append_lies _ rfl _ _ 65 rfl w.heap.size 69 i0 (.agg #[.int .i64 0,.int .i64 0,.int .i64 0]) 3 24 Tryz.underlying65 hi hz0 hz1 hz2 rfl (by decide) u7 s2.out.length (cellsS s2.out) rfl HMid4.out.own ⟨w3.heap.size+1,0,none⟩ 1 1 (cellsS [⟨k,nw,uz⟩]) rfl rfl HNews.out (M9 _) (by decide) (by unfold maxLen;omega) (by omega) HBs.out.1 _ rfl ?_;intro g5 cap5 w5 ho5 hg5 hat5 hlt5;have c5:w5.cell? ⟨w3.heap.size,2,none⟩=some (.int .i64 uz):=(hg5.cell_far ⟨w3.heap.size,2,none⟩ HBs.out.2 HNe.out).trans HCel.out;have H5:Hid (Dw Q Held per ps q0 B w w5 (.slice (some ⟨g5,0,none⟩) (s2.out.length+1) cap5) ⟨s2.out ++ [⟨(k:Nat),nw,uz⟩],uz,nx,Q.left s2.q⟩ D4):=Dw.grown HM.out.1 HM.out.2.1 HMid4.out ho5 hg5 hat5 _ HRe.out rfl rfl;clear ho5 hg5 hat5 hlt5))
      go_roundg (leftOf ps (⟨s2.out ++ [⟨(k:Nat),nw,uz⟩],uz,nx,Q.left s2.q⟩:St σ))
      case measure=>
       refine Pq ?_ ?_
       · simp [HEq.out.1]
       ·
        have h3:=HCnt.out
        rw [HEq.out.1] at h3
        rw [HN.out]
        omega
      case rel=>exact ⟨_,D4,rfl,rfl,rfl,H5.out⟩
    ·
     rcases HWay.out with hlt | ⟨hlt,htk⟩
     ·
      go_wp2_with fail
      refine HR1.out.mono ?_
      rintro e w1 ⟨rfl,hq⟩
      have HQ:Hid (Az Held wr w1 D2 (Q.asked s2.q)):=hq
      clear hq
      go_wp2_with fail
      go_ret
      obtain ⟨D3,h31,h32,-,h34⟩:=HA.out.parts HM.out.1 HM.out.2.1 HQ.out
      exact ⟨s2,u7,rfl,HReach.out,by rw [HX.out.1];omega,by rw [HRS.out];omega,h31,h34,D3,h32⟩
     ·
      obtain ⟨b,off,rfl,hcell⟩:=HCell.out hlt
      have c1:=hcell wr HA.out.below
      have HCl:Hid (∀ W,Below B w W → W.cell? ⟨b,off+nx * 3+2,none⟩=some (.int .i64 (Ay ps nx))):=hcell
      clear hcell
      go_wp2_with fail
      refine HR1.out.mono ?_
      rintro e w1 ⟨rfl,hq⟩
      have hask:Q.asked s2.q=Q.idle s2.q:=if_pos (by rw [HRS.out];omega)
      rw [hask] at hq
      obtain ⟨D3,h31,h32,h33,h34⟩:=HA.out.parts HM.out.1 HM.out.2.1 hq
      have c2:=HCl.out w1 h34
      have H3:Hid (Ig w1 w.heap.size u7 s2.out ∧ Held w1 D3 (Q.idle s2.q) ∧ (∀ g,u7.ownBlock=some g → ¬ D3 g) ∧ Below B w w1):=⟨h31,h32,h33,h34⟩
      clear hq hask h31 h32 h33 h34
      go_wp2_with fail
      go_roundg (leftOf ps (⟨s2.out,Ay ps nx,nx,Q.idle s2.q⟩:St σ))
      case measure=>
       have h3:=HCnt.out
       have h4:=HEq.out.2.2
       have h5:=HA0.out.reach.count HL.out.1
       rw [HEq.out.1] at h3
       rw [HX.out.1] at h4
       have h6:s.next=nx:=by omega
       refine Xv (by simp [HEq.out.1]) h6.symm ?_ ?_ ?_
       · rw [HN.out,h6];exact hlt
       · rw [h6,HNw.out];exact htk
       · rw [h6];exact Int.le_refl _
      case rel=>
       obtain ⟨p,hp,-⟩:=Ai ps nx (by rw [HN.out];exact hlt)
       have hr:Reaches Q per ps q0 ⟨s2.out,p.tick,s2.next,Q.idle s2.q⟩:=.idle s2 p HReach.out (by rw [HX.out.1];exact hp) (by rw [HX.out.2,← AJ hp];exact htk) (by rw [HRS.out];omega)
       rw [HX.out.1,← AJ hp] at hr
       exact ⟨_,D3,rfl,rfl,rfl,hr,H3.out.1,H3.out.2.1,H3.out.2.2.1,H3.out.2.2.2⟩
theorem NU {σ:Type} (Q:Que σ) (Held:World → (Nat → Prop) → σ → Prop) (per:Int) (ps:List Pk) (q0:σ) (B:Nat) (x1 x2 x3:Value) (hm:Gc Held B) (hlaw:Ia Q per ps q0) (ho:Aj ps) (h1:1 ≤ per) (h2:per ≤ 1000)
  (hCome:∀ w D s p,Reaches Q per ps q0 s → ps[s.next]? = some p → Held w D s.q → Calls Tryz.prog 284 #[.agg #[x1,x2,x3],.int .i64 s.next] w fun e w'=>e=.returned (.tuple #[]) ∧ Az Held w w' D (Q.come s.q s.next))
  (hPick:∀ w D s,Reaches Q per ps q0 s → 0 < Q.rest s.q → Held w D s.q → Calls Tryz.prog 285 #[.agg #[x1,x2,x3]] w fun e w'=>e=.returned (.int .i64 (Q.pick s.q:Nat)) ∧ Az Held w w' D (Q.left s.q))
  (hRest:∀ w D s,Reaches Q per ps q0 s → Held w D s.q → Calls Tryz.prog 286 #[.agg #[x1,x2,x3]] w fun e w'=>e=.returned (.int .i64 (Q.rest s.q:Nat)) ∧ Az Held w w' D (Q.asked s.q))
  (a:Option Addr) (cap:Nat) (w:World) (hl:AO w a ps) (hB:B ≤ w.heap.size) (ha:∀ ad,a=some ad → 0 < ps.length → ad.block < B) (D0:Nat → Prop) (h0:Held w D0 q0) :
  Calls Tryz.prog 169 #[.slice a ps.length cap,.int .i64 per,.iface 266 (.agg #[x1,x2,x3])] w fun e w'=>∃ s v,e=.returned v ∧ Reaches Q per ps q0 s ∧ ¬ s.next < ps.length ∧ Q.rest s.q=0 ∧ Ig w' w.heap.size v s.out ∧ Below B w w':=
 (PD Q Held per ps q0 B x1 x2 x3 hm hlaw ho h1 h2 hCome hPick hRest a cap w hl hB ha D0 h0).mono fun _ _ ⟨s,v,e,g1,g2,g3,g4,g5,_⟩=>⟨s,v,e,g1,g2,g3,g4,g5⟩
def nums (xs:List Nat):List Value:=xs.map fun (k:Nat)=>.int .i64 (k:Int)
theorem nums_length (xs:List Nat):(nums xs).length=xs.length:=by simp [nums]
theorem nums_append (a b:List Nat):nums (a ++ b)=nums a ++ nums b:=by simp [nums]
structure Bc (w:World) (B:Nat) (v:Value) (F:Nat → Prop) (xs:List Nat):Prop where
 made:∃ ao b off cap,v=.slice ao xs.length cap ∧ Came w 1 ao b off xs.length cap (nums xs) ∧ cap ≤ maxLen ∧ (0 < cap → F b)
 foot:∀ k,F k → B ≤ k ∧ k < w.heap.size
theorem Bc.nil (w:World) (B:Nat):Bc w B (.slice none 0 0) (fun _=>False) []:=
 ⟨⟨none,0,0,0,rfl,⟨Nat.le_refl _,fun h=>absurd h (Nat.lt_irrefl _),fun h=>absurd h (Nat.lt_irrefl _),rfl,fun j u h=>by simp [nums] at h,fun j h=>by simp at h⟩,Nat.zero_le _,fun h=>absurd h (Nat.lt_irrefl _)⟩,fun _ h=>h.elim⟩
theorem Bc.but {S:Nat → Prop} {w w':World} {B:Nat} {v:Value} {F:Nat → Prop} {xs:List Nat} (h:Bc w B v F xs) (hb:But S w w') (hs:∀ k,F k → ¬ S k):Bc w' B v F xs:=by
 obtain ⟨ao,b,off,cap,rfl,⟨h1,h2,h3,h4,h5,h6⟩,hm,hB⟩:=h.made
 refine ⟨⟨ao,b,off,cap,rfl,⟨h1,h2,fun h=>Nat.lt_of_lt_of_le (h3 h) hb.size,h4,fun j u hu=>?_,fun j hj=>?_⟩,hm,hB⟩,fun k hk=>⟨(h.foot k hk).1,Nat.lt_of_lt_of_le (h.foot k hk).2 hb.size⟩⟩
 ·
  have hc:0 < cap:=by
   have:=(List.getElem?_eq_some_iff.1 hu).1
   rw [nums_length] at this
   omega
  rw [hb.cell (p:=⟨b,off+j,none⟩) (h3 hc) (hs b (hB hc))]
  exact h5 j u hu
 ·
  have hc:0 < cap:=by omega
  rw [hb.cell (p:=⟨b,off+xs.length * 1+j,none⟩) (h3 hc) (hs b (hB hc)),hb.frozen (p:=⟨b,off+xs.length * 1+j,none⟩) (h3 hc) (hs b (hB hc))]
  exact h6 j hj
theorem Bc.form {w:World} {B:Nat} {v:Value} {F:Nat → Prop} {xs:List Nat} (h:Bc w B v F xs):∃ ao cap,v=.slice ao xs.length cap ∧ xs.length ≤ cap ∧ cap ≤ maxLen:=by
 obtain ⟨ao,b,off,cap,rfl,hc,hm,-⟩:=h.made
 exact ⟨ao,cap,rfl,hc.le,hm⟩
theorem Bc.first {w:World} {B:Nat} {v:Value} {F:Nat → Prop} {k:Nat} {xs:List Nat} (h:Bc w B v F (k :: xs)) :
  ∃ b off cap,v=.slice (some ⟨b,off,none⟩) (xs.length+1) cap ∧ xs.length+1 ≤ cap ∧ cap ≤ maxLen ∧ w.cell? ⟨b,off,none⟩=some (.int .i64 (k:Int)) ∧ F b ∧
   (1 < cap → Bc w B (.slice (some ⟨b,off+1,none⟩) xs.length (cap - 1)) F xs) ∧ (cap=1 → xs=[] ∧ Bc w B (.slice (some ⟨b,off,none⟩) 0 0) F []):=by
 obtain ⟨ao,b,off,cap,rfl,⟨h1,h2,h3,h4,h5,h6⟩,hm,hB⟩:=h.made
 simp only [List.length_cons] at h1 h6
 have hc:0 < cap:=by omega
 obtain rfl:=h2 hc
 refine ⟨b,off,cap,rfl,h1,hm,by have:=h5 0 _ rfl;simpa using this,hB hc,fun h'=>⟨⟨_,b,off+1,_,rfl,⟨by omega,fun _=>rfl,fun _=>h3 hc,by simp [nums],fun j u hu=>?_,fun j hj=>?_⟩,by omega,fun _=>hB hc⟩,h.foot⟩,fun h'=>?_⟩
 ·
  have:=h5 (j+1) u (by simpa [nums] using hu)
  rwa [show off+(j+1)=off+1+j by omega] at this
 ·
  have:=h6 j (by omega)
  rwa [show off+(xs.length+1) * 1+j=off+1+xs.length * 1+j by omega] at this
 ·
  subst h'
  have hx:xs=[]:=List.length_eq_zero_iff.1 (by omega)
  exact ⟨hx,⟨some ⟨b,off,none⟩,b,off,0,rfl,⟨Nat.le_refl _,fun h=>absurd h (Nat.lt_irrefl _),fun h=>absurd h (Nat.lt_irrefl _),rfl,fun j u h=>by simp [nums] at h,fun j h=>by simp at h⟩,Nat.zero_le _,fun h=>absurd h (Nat.lt_irrefl _)⟩,h.foot⟩
theorem Bc.room {w:World} {B:Nat} {F:Nat → Prop} {ao:Option Addr} {b off cap:Nat} {xs:List Nat} {k:Nat} (hc:Came w 1 ao b off xs.length cap (nums xs)) (hm:cap ≤ maxLen) (hB:0 < cap → F b) (hF:∀ k,F k → B ≤ k ∧ k < w.heap.size) (hr:xs.length+1 ≤ cap) :
  Bc (w.setCells b (off+xs.length * 1) (nums [k])) B (.slice ao (xs.length+1) cap) F (xs ++ [k]) ∧ But F w (w.setCells b (off+xs.length * 1) (nums [k])):=by
 have hc0:0 < cap:=by omega
 have hbut:But F w (w.setCells b (off+xs.length * 1) (nums [k])):=But.setCell (S:=F) (But.refl _ w) (p:=⟨b,off+xs.length * 1,none⟩) (hB hc0) (.int .i64 (k:Int))
 refine ⟨⟨⟨ao,b,off,cap,by simp,⟨by simpa using hr,hc.addr,fun h=>Nat.lt_of_lt_of_le (hc.lt h) hbut.size,by simp [nums],fun j u hu=>?_,fun j hj=>?_⟩,hm,hB⟩,fun k hk=>⟨(hF k hk).1,Nat.lt_of_lt_of_le (hF k hk).2 hbut.size⟩⟩,hbut⟩
 ·
  rw [nums_append] at hu
  by_cases hj:j < xs.length
  ·
   rw [List.getElem?_append_left (by rw [nums_length];exact hj)] at hu
   rw [World.cell?_setCells_out b _ _ _ _ (fun _ _=>Or.inl (by show off+j < off+xs.length * 1;omega))]
   exact hc.olds j u hu
  ·
   rw [List.getElem?_append_right (by rw [nums_length];omega),nums_length] at hu
   have hl:=(List.getElem?_eq_some_iff.1 hu).1
   have:(nums [k]).length=1:=rfl
   have hj0:j - xs.length=0:=by omega
   rw [hj0] at hu
   have hs:=(hc.spare 0 (by omega)).1
   rw [show off+j=off+xs.length * 1+0 by omega]
   have h2:(w.setCells b (off+xs.length * 1) (nums [k])).cell? ⟨b,off+xs.length * 1+0,none⟩=some (.int .i64 (k:Int)):=World.cell?_setCell_same' w ⟨b,off+xs.length * 1,none⟩ _ hs
   rw [h2]
   exact hu
 ·
  simp only [List.length_append,List.length_cons,List.length_nil] at hj ⊢
  have hsp:=hc.spare (j+1) (by omega)
  rw [show off+(xs.length+(0+1)) * 1+j=off+xs.length * 1+(j+1) by omega]
  refine ⟨?_,?_⟩
  ·
   rw [World.cell?_setCells_out b _ _ _ _ (fun _ _=>Or.inr (by show off+xs.length * 1+(nums [k]).length ≤ off+xs.length * 1+(j+1);have:(nums [k]).length=1:=rfl;omega))]
   exact hsp.1
  · rw [World.frozen?_setCells];exact hsp.2
def Ke (w w':World) (B:Nat) (F:Nat → Prop) (ao:Option Addr) (n cap:Nat) (xs:List Nat):Prop:=
 ∃ F',Bc w' B (.slice ao n cap) F' xs ∧ (∀ k,F' k → F k ∨ w.heap.size ≤ k) ∧ But F w w'
theorem Bc.grown {w w':World} {B e:Nat} {v':Value} {F:Nat → Prop} {k:Nat} {xs:List Nat} (hBw:B ≤ w.heap.size) (hown:w'.ownsRow w.heap.size e 1 v' (xs.length+1) (nums xs ++ nums [k])) (hg:w.grownBy w' none) :
  ∃ ao cap,v'=.slice ao (xs.length+1) cap ∧ Ke w w' B F ao (xs.length+1) cap (xs ++ [k]):=by
 have hbut:But F w w':=⟨hg.os,hg.tape,hg.output,hg.size,fun i hi _=>hg.block i hi (by simp)⟩
 obtain ⟨hlen,⟨_,h0⟩ | ⟨g,cap',cur,rfl,hBg,hgc,hn,hmx,hcz,ht⟩⟩:=hown
 · omega
 ·
  have hh:w'.ownsRow w.heap.size e 1 (.slice (some ⟨g,0,none⟩) (xs.length+1) cap') (xs.length+1) (nums xs ++ nums [k]):=⟨hlen,.inr ⟨g,cap',cur,rfl,hBg,hgc,hn,hmx,hcz,ht⟩⟩
  have hglt:g < w'.heap.size:=by
   rcases Nat.lt_or_ge g w'.heap.size with h | h
   · exact h
   · simp [Array.getElem?_eq_none h] at hgc
  refine ⟨_,_,rfl,fun i=>i=g,⟨⟨_,g,0,cap',by simp,⟨by simpa using hn,fun _=>rfl,fun _=>hglt,by simp [nums],fun j u hu=>?_,fun j hj=>?_⟩,hmx,fun _=>rfl⟩,fun i hi=>by subst hi;exact ⟨by omega,hglt⟩⟩,fun i hi=>by subst hi;exact .inr hBg,hbut⟩
  ·
   rw [nums_append] at hu
   have hl:=(List.getElem?_eq_some_iff.1 hu).1
   rw [List.length_append,nums_length] at hl
   have:(nums [k]).length=1:=rfl
   rw [Nat.zero_add,hh.cellAt _ (by omega)]
   exact hu
  ·
   simp only [List.length_append,List.length_cons,List.length_nil] at hj ⊢
   have hjc:xs.length+1+j < cur.size:=by omega
   rw [show 0+(xs.length+(0+1)) * 1+j=xs.length+1+j by omega]
   refine ⟨?_,?_⟩
   · rw [cell_of_row w' g _ cur e (0,0) hgc,Array.getElem?_eq_getElem hjc];rfl
   · exact frozen_of_row w' g _ cur e hgc
theorem GV {P:Program} (w:World) (t ty e:TypeId) (i:TypeInfo) (z:Value) (bytes:Nat) (ht:P.underlying t=some (.slice e)) (hi:P.info? e=some i) (hz:i.zero=some z) (hsize:i.size=1) (hby:i.bytes=bytes) (hzs:z.cells.size=1)
  (B:Nat) (v:Value) (F:Nat → Prop) (k:Nat) (xs:List Nat) (h:Bc w B v F xs) (hBw:B ≤ w.heap.size) (ad:Addr) (c:Nat) (hk:w.cell? ad=some (.int .i64 (k:Int))) (h63:xs.length+1 ≤ maxLen) (hbytes:(xs.length+1) * bytes ≤ 140737488355328) :
  ∃ ao cap w',(Builtin.append_ #[t,t] ty #[v,.slice (some ad) 1 c]).run P w=.ok (.slice ao (xs.length+1) cap) w' ∧ Ke w w' B F ao (xs.length+1) cap (xs ++ [k]):=by
 have hF:=h.foot
 obtain ⟨ao,b,off,cap,rfl,hc,hm,hB⟩:=h.made
 have hnews:∀ j u,(nums [k])[j]? = some u → w.cell? (ad.add j)=some u:=by
  intro j u hu
  have hl:=(List.getElem?_eq_some_iff.1 hu).1
  have:(nums [k]).length=1:=rfl
  obtain rfl:j=0:=by omega
  have e0:ad.add 0=ad:=by cases ad;simp [Addr.add]
  rw [e0,hk]
  exact hu
 have h1:∀ u ∈ nums [k],u.oneCell'=true:=by
  intro u hu
  simp [nums] at hu
  subst hu
  rfl
 have hlo:(nums xs).length=xs.length * 1:=by rw [nums_length,Nat.mul_one]
 by_cases hr:xs.length+1 ≤ cap
 ·
  obtain rfl:=hc.addr (by omega)
  have hrun:=run_append_room_cells (P:=P) w t ty e i ht hi b off xs.length cap ad 1 c (nums [k]) (by rw [hsize];rfl) hnews h1 hr
   (fun j hj=>by rw [hsize];exact (hc.spare j (by have:(nums [k]).length=1:=rfl;omega)).1) (fun j hj=>by rw [hsize];exact (hc.spare j (by have:(nums [k]).length=1:=rfl;omega)).2)
  rw [hsize] at hrun
  obtain ⟨h2,h3⟩:=Bc.room (k:=k) hc hm hB hF hr
  exact ⟨_,_,_,hrun,F,h2,fun _ h=>.inl h,h3⟩
 ·
  cases ao with
  | some a0=>
   obtain ⟨v',w',hrun,r1,r2⟩:=run_append_arg_grows (P:=P) w t ty e i z 1 bytes ht hi hz hsize hby hzs (by decide) a0 xs.length cap (nums xs) hlo (fun j u hu=>by
    have hl:=(List.getElem?_eq_some_iff.1 hu).1
    have hle:=hc.le
    have ha:=hc.addr (by omega)
    cases ha
    rw [Addr.add_lit]
    exact hc.olds j u hu) ad 1 c (nums [k]) rfl hnews (by omega) h63 hbytes
   obtain ⟨ao',cap',rfl,g1⟩:=Bc.grown (F:=F) hBw r1 r2
   exact ⟨_,_,w',hrun,g1⟩
  | none=>
   have hcap:cap=0:=by
    rcases Nat.eq_zero_or_pos cap with h0 | h0
    · exact h0
    · cases hc.addr h0
   have hle:=hc.le
   have hx:xs=[]:=List.length_eq_zero_iff.1 (by omega)
   subst hx hcap
   obtain ⟨v',w',hrun,r1,r2,_⟩:=run_append_own (P:=P) w w.heap.size t ty e i z 1 bytes ht hi hz hsize hby hzs (by decide) (.slice none 0 0) 0 [] (World.ownsRow_nil w _ e 1) ad 1 c (nums [k]) rfl hnews h1 h63 hbytes (Nat.le_refl _)
   obtain ⟨ao',cap',rfl,g1⟩:=Bc.grown (xs:=[]) (F:=F) hBw r1 r2
   exact ⟨_,_,w',hrun,g1⟩
theorem Jt {P:Program} (w:World) {ops:Array Oper} {rest:List Oper} {o:Oper} {a:Act} {Q:Exit → Act → World → Prop} (hgd:o.guard=none) (s x:Operand) (t:TypeId)
  (ho:o.op=.call { callee:=.builtin .append,args:=#[s,x],argTypes:=#[t,t] })
  (e:TypeId) (i:TypeInfo) (z:Value) (bytes:Nat) (ht:P.underlying t=some (.slice e)) (hi:P.info? e=some i) (hz:i.zero=some z) (hsize:i.size=1) (hby:i.bytes=bytes) (hzs:z.cells.size=1)
  (B:Nat) (v:Value) (F:Nat → Prop) (k:Nat) (xs:List Nat) (hs:a.eval s=v) (h:Bc w B v F xs) (hBw:B ≤ w.heap.size) (ad:Addr) (c:Nat) (hx:a.eval x=.slice (some ad) 1 c) (hk:w.cell? ad=some (.int .i64 (k:Int))) (h63:xs.length+1 ≤ maxLen) (hbytes:(xs.length+1) * bytes ≤ 140737488355328)
  (hK:∀ ao cap w',Ke w w' B F ao (xs.length+1) cap (xs ++ [k]) → wpList P ops Q rest (a.put o.dst (.slice ao (xs.length+1) cap)) w'):wpList P ops Q (o :: rest) a w:=by
 refine wpList_plain hgd fun K hK'=>?_
 obtain ⟨ao,cap,w',hrun,g1⟩:=GV (P:=P) w t o.type e i z bytes ht hi hz hsize hby hzs B v F k xs h hBw ad c hk h63 hbytes
 unfold Oper.wp
 simp [execOp,ho,resolve,invoke,builtin,hs,hx,hrun,Result.andThen]
 exact hK' _ _ (hK ao cap w' g1)
def Dt (B g:Nat) (w:World) (D:Nat → Prop) (q:List Nat):Prop:=
 ∃ v F,w.heap[g]? = some (.cells #[v] 32 (0,0)) ∧ Bc w B v F q ∧ ¬ F g ∧ B ≤ g ∧ (∀ k,D k ↔ k=g ∨ F k)
theorem Dt.foot {B g:Nat} {w:World} {D:Nat → Prop} {q:List Nat} (h:Dt B g w D q):∀ k,D k → B ≤ k ∧ k < w.heap.size:=by
 obtain ⟨v,F,h1,h2,h3,h4,h5⟩:=h
 intro k hk
 rcases (h5 k).1 hk with rfl | hk
 · exact ⟨h4,lt_of_block h1⟩
 · exact h2.foot k hk
theorem Dt.but {B g:Nat} {S:Nat → Prop} {w w':World} {D:Nat → Prop} {q:List Nat} (h:Dt B g w D q) (hb:But S w w') (hs:∀ k,D k → ¬ S k):Dt B g w' D q:=by
 obtain ⟨v,F,h1,h2,h3,h4,h5⟩:=h
 exact ⟨v,F,(hb.block g (lt_of_block h1) (hs g ((h5 g).2 (.inl rfl)))).trans h1,h2.but hb (fun k hk=>hs k ((h5 k).2 (.inr hk))),h3,h4,h5⟩
def IV (B g:Nat) (w w':World) (D:Nat → Prop) (q:List Nat):Prop:=∃ D',Dt B g w' D' q ∧ But D w w' ∧ ∀ k,D' k → D k ∨ w.heap.size ≤ k
theorem I4 {B g:Nat} {D F F':Nat → Prop} {w w1 w2:World} {v v':Value} {q:List Nat} (h3:¬ F g) (h4:B ≤ g) (h5:∀ k,D k ↔ k=g ∨ F k) (hg:g < w.heap.size) (hb:Below w.heap.size w w1) (hs:w.heap.size ≤ w1.heap.size) (hbut:But F w1 w2)
  (hv:w2.heap[g]? = some (.cells #[v] 32 (0,0))) (hsl:Bc w2 B v' F' q) (hF:∀ k,F' k → F k ∨ w1.heap.size ≤ k):IV B g w (w2.setCell ⟨g,0,none⟩ v') D q:=by
 have hFg:¬ F' g:=fun h=>by
  rcases hF g h with h | h
  · exact h3 h
  · omega
 have b2:But (fun k=>k=g) w2 (w2.setCell ⟨g,0,none⟩ v'):=But.setCell (S:=fun k=>k=g) (But.refl _ w2) (p:=⟨g,0,none⟩) rfl v'
 refine ⟨fun k=>k=g ∨ F' k,⟨v',F',one_setCell hv,hsl.but b2 (fun k hk e=>hFg (e ▸ hk)),hFg,h4,fun k=>Iff.rfl⟩,?_,fun k hk=>?_⟩
 · refine ((But.ofBelow hb).trans (hbut.mono fun k hk=>(h5 k).2 (.inr hk))).trans (b2.mono fun k hk=>(h5 k).2 (.inl hk))
 ·
  rcases hk with rfl | hk
  · exact .inl ((h5 _).2 (.inl rfl))
  ·
   rcases hF k hk with h | h
   · exact .inl ((h5 k).2 (.inr h))
   · exact .inr (by omega)
theorem Yh (B g:Nat) (D:Nat → Prop) (q:List Nat) (k:Nat) (w:World) (h:Dt B g w D q) (hn:q.length ≤ 1000) :
  Calls Tryz.prog 196 #[.int .i64 (k:Int),.pointer (some ⟨g,0,none⟩)] w fun e w'=>e=.returned (.tuple #[]) ∧ IV B g w w' D (q ++ [k]):=by
 obtain ⟨i0,hi,hz0,hz1,hz2⟩:=info_parts Tryz.infoInt
 obtain ⟨v,F,h1,h2,h3,h4,h5⟩:=h
 obtain ⟨ao,cap,rfl,hlc,hcm⟩:=h2.form
 have c0:=cell_of_one h1
 have hgl:=lt_of_block h1
 have H1:Hid (w.heap[g]? = some (.cells #[.slice ao q.length cap] 32 (0,0))):=h1
 have H2:Hid (Bc (w.alloc (.cells #[.int .i64 (k:Int)] 3)) B (.slice ao q.length cap) F q):=h2.but (S:=fun _=>False) (.ofBelow ((Below.refl _ _).alloc (Nat.le_refl _) _)) (fun _ _ h=>h)
 have H3:Hid (¬ F g ∧ B ≤ g ∧ (∀ k,D k ↔ k=g ∨ F k)):=⟨h3,h4,h5⟩
 have HA:Hid ((w.alloc (.cells #[.int .i64 (k:Int)] 3)).heap[g]? = some (.cells #[.slice ao q.length cap] 32 (0,0))):=(Below.heap_alloc w _ g hgl).trans h1
 clear h1 h2 h3 h5
 go_enter Tryz.func196,Tryz.ntmps196
 go_wp2_with (at_builtin;go_must (refine Jt _ rfl _ _ 32 rfl 3 i0 (.int .i64 0) 8 Tryz.underlying32 hi hz0 hz1 hz2 rfl B (.slice ao q.length cap) F k q rfl H2.out (by simp;omega) ⟨w.heap.size,0,none⟩ 1 rfl (by simp) (by unfold maxLen;omega) (by omega) ?_;intro ao' cap' w2 hon;obtain ⟨F',g1,g2,g3⟩:=hon;have hgb:w2.heap[g]? = some (.cells #[.slice ao q.length cap] 32 (0,0)):=(g3.block g (by simp;omega) H3.out.1).trans HA.out;have c2:=cell_of_one hgb;have f2:=free_of_one hgb;have HOn:Hid (Bc w2 B (.slice ao' (q.length+1) cap') F' (q ++ [k]) ∧ (∀ k,F' k → F k ∨ w.heap.size+1 ≤ k) ∧ But F (w.alloc (.cells #[.int .i64 (k:Int)] 3)) w2 ∧ w2.heap[g]? = some (.cells #[.slice ao q.length cap] 32 (0,0))):=⟨g1,by simpa using g2,g3,hgb⟩;clear g1 g2 g3 hgb))
 go_end0
 exact ⟨rfl,I4 H3.out.1 H3.out.2.1 H3.out.2.2 hgl ((Below.refl _ _).alloc (Nat.le_refl _) _) (by simp) HOn.out.2.2.1 HOn.out.2.2.2 HOn.out.1 (by simpa using HOn.out.2.1)⟩
theorem Zj (B g:Nat) (D:Nat → Prop) (q:List Nat) (k:Nat) (w:World) (h:Dt B g w D (k :: q)) (hn:q.length ≤ 1000) :
  Calls Tryz.prog 197 #[.pointer (some ⟨g,0,none⟩)] w fun e w'=>e=.returned (.int .i64 (k:Int)) ∧ IV B g w w' D q:=by
 obtain ⟨v,F,h1,h2,h3,h4,h5⟩:=h
 obtain ⟨b,off,cap,rfl,hlc,hcm,c1,hFb,s1,s2⟩:=h2.first
 have c0:=cell_of_one h1
 have f0:=free_of_one h1
 have hgl:=lt_of_block h1
 unfold maxLen at hcm
 by_cases hc1:1 < cap
 ·
  have HS:Hid (Bc w B (.slice (some ⟨b,off+1,none⟩) q.length (cap - 1)) F q):=s1 hc1
  have H1:Hid (w.heap[g]? = some (.cells #[.slice (some ⟨b,off,none⟩) (q.length+1) cap] 32 (0,0))):=h1
  have H3:Hid (¬ F g ∧ B ≤ g ∧ (∀ k,D k ↔ k=g ∨ F k)):=⟨h3,h4,h5⟩
  clear h1 h2 h3 h5 s1 s2
  go_enter Tryz.func197,Tryz.ntmps197
  go_wp2
  go_ret
  exact ⟨rfl,I4 H3.out.1 H3.out.2.1 H3.out.2.2 hgl (Below.refl _ _) (Nat.le_refl _) (But.refl _ _) H1.out HS.out (fun _ h=>.inl h)⟩
 ·
  obtain rfl:cap=1:=by omega
  obtain ⟨rfl,s3⟩:=s2 rfl
  have HS:Hid (Bc w B (.slice (some ⟨b,off,none⟩) 0 0) F []):=s3
  have H1:Hid (w.heap[g]? = some (.cells #[.slice (some ⟨b,off,none⟩) 1 1] 32 (0,0))):=h1
  have H3:Hid (¬ F g ∧ B ≤ g ∧ (∀ k,D k ↔ k=g ∨ F k)):=⟨h3,h4,h5⟩
  clear h1 h2 h3 h5 s1 s2 s3
  simp only [List.length_nil,Nat.zero_add] at c0
  go_enter Tryz.func197,Tryz.ntmps197
  go_wp2
  go_ret
  exact ⟨rfl,I4 H3.out.1 H3.out.2.1 H3.out.2.2 hgl (Below.refl _ _) (Nat.le_refl _) (But.refl _ _) H1.out HS.out (fun _ h=>.inl h)⟩
theorem Yd (B g:Nat) (D:Nat → Prop) (q:List Nat) (w:World) (h:Dt B g w D q) :
  Calls Tryz.prog 198 #[.pointer (some ⟨g,0,none⟩)] w fun e w'=>e=.returned (.int .i64 (q.length:Int)) ∧ w'=w:=by
 obtain ⟨v,F,h1,h2,h3,h4,h5⟩:=h
 obtain ⟨ao,cap,rfl,hlc,hcm⟩:=h2.form
 have c0:=cell_of_one h1
 unfold maxLen at hcm
 clear h1 h2 h3 h5
 go_enter Tryz.func198,Tryz.ntmps198
 go_wp2
 go_ret
 exact ⟨rfl,rfl⟩
def Kh (g:Nat):Value:=.agg #[.func (.func 196) #[] #[.pointer (some ⟨g,0,none⟩)],.func (.func 197) #[] #[.pointer (some ⟨g,0,none⟩)],.func (.func 198) #[] #[.pointer (some ⟨g,0,none⟩)]]
theorem IV.after {B g:Nat} {w w1 w':World} {D:Nat → Prop} {q:List Nat} (hb:Below w.heap.size w w1) (h:IV B g w1 w' D q):IV B g w w' D q:=by
 obtain ⟨D',h1,h2,h3⟩:=h
 refine ⟨D',h1,(But.ofBelow hb).trans h2,fun k hk=>?_⟩
 rcases h3 k hk with h | h
 · exact .inl h
 · exact .inr (Nat.le_trans hb.size h)
theorem Dt.alloc {B g:Nat} {w:World} {D:Nat → Prop} {q:List Nat} (h:Dt B g w D q) (o:Obj):Dt B g (w.alloc o) D q:=
 h.but (S:=fun _=>False) (.ofBelow ((Below.refl _ _).alloc (Nat.le_refl _) _)) (fun _ _ h=>h)
theorem PR (B g:Nat) (D:Nat → Prop) (q:List Nat) (w:World) (h:Dt B g w D q) :
  Calls Tryz.prog 286 #[Kh g] w fun e w'=>e=.returned (.int .i64 (q.length:Int)) ∧ IV B g w w' D q:=by
 have HH:Hid (Dt B g w D q):=h
 clear h
 unfold Kh
 go_enter Tryz.func286,Tryz.ntmps286
 go_wp2_with fail
 refine (Yd B g D q _ (HH.out.alloc _)).mono ?_
 rintro e w1 ⟨rfl,rfl⟩
 go_wp2_with fail
 go_ret
 exact ⟨rfl,D,HH.out.alloc _,.ofBelow ((Below.refl _ _).alloc (Nat.le_refl _) _),fun k hk=>.inl hk⟩
theorem Qq (B g:Nat) (D:Nat → Prop) (q:List Nat) (k:Nat) (w:World) (h:Dt B g w D (k :: q)) (hn:q.length ≤ 1000) :
  Calls Tryz.prog 285 #[Kh g] w fun e w'=>e=.returned (.int .i64 (k:Int)) ∧ IV B g w w' D q:=by
 have HH:Hid (Dt B g w D (k :: q)):=h
 clear h
 unfold Kh
 go_enter Tryz.func285,Tryz.ntmps285
 go_wp2_with fail
 refine (Zj B g D q k _ (HH.out.alloc _) hn).mono ?_
 rintro e w1 ⟨rfl,ho⟩
 have HO:Hid (IV B g w w1 D q):=ho.after ((Below.refl _ _).alloc (Nat.le_refl _) _)
 clear ho
 go_wp2_with fail
 go_ret
 exact ⟨rfl,HO.out⟩
theorem Q6 (B g:Nat) (D:Nat → Prop) (q:List Nat) (k:Nat) (w:World) (h:Dt B g w D q) (hn:q.length ≤ 1000) :
  Calls Tryz.prog 284 #[Kh g,.int .i64 (k:Int)] w fun e w'=>e=.returned (.tuple #[]) ∧ IV B g w w' D (q ++ [k]):=by
 have HH:Hid (Dt B g w D q):=h
 clear h
 unfold Kh
 go_enter Tryz.func284,Tryz.ntmps284
 go_wp2_with fail
 refine (Yh B g D q k _ (HH.out.alloc _) hn).mono ?_
 rintro e w1 ⟨rfl,ho⟩
 have HO:Hid (IV B g w w1 D (q ++ [k])):=ho.after ((Below.refl _ _).alloc (Nat.le_refl _) _)
 clear ho
 go_wp2_with fail
 go_end0
 exact ⟨rfl,HO.out⟩
theorem Sd (w:World) :
  Calls Tryz.prog 170 #[] w fun e w'=>e=.returned (.iface 266 (Kh w.heap.size)) ∧ Dt w.heap.size w.heap.size w' (fun k=>k=w.heap.size) [] ∧ Below w.heap.size w w':=by
 unfold Kh
 go_enter Tryz.func170,Tryz.ntmps170
 go_wp2_with fail
 go_ret
 refine ⟨rfl,⟨.slice none 0 0,fun _=>False,?_,Bc.nil _ _,id,Nat.le_refl _,fun k=>by simp⟩,(Below.refl _ _).alloc (Nat.le_refl _) _⟩
 exact heap_alloc_new w _
end Go.Proofs.YtipdclphpkgceaaGreatDoor
