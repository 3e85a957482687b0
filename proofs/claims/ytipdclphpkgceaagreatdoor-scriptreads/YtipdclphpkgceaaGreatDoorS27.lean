/- Own facts, put together: no statement of its own. -/
import Derived.Deep.AppendLies
import Derived.Test.YtipdclphpkgceaaGreatDoorS26
import Derived.Test.YtipdclphpkgceaaGreatDoorS24
import Derived.Test.YtipdclphpkgceaaGreatDoorS13
import Derived.Test.YtipdclphpkgceaaGreatDoorS08
set_option maxHeartbeats 8000000
set_option maxRecDepth 100000

namespace Go.Proofs.YtipdclphpkgceaaGreatDoor
open Go.RowKit
theorem turnsTake (B g:Nat) (pa:Option Addr) (pcap:Nat) (qv:Value) (ps:List Pk) (vq:Nat → Value) (F:Nat → Nat → Prop) (rv:Value) (d:Drr) (n:Nat) (w:World) (h:TurnsAt B g (.slice pa ps.length pcap) qv w vq F rv d (n+1)) (hl:LiesP w pa ps) (hpB:∀ ad,pa=some ad → 0 < ps.length → ad.block < B) (ho:OkPks ps) (f k:Nat) (r:List Nat) (p:Pk) (hs:d.srv=some f) (hf:f < 8) (hk:d.qs f=k :: r) (hp:ps[k]? = some p) (hc1:d.cr f ≤ 1000000) (hy:p.size ≤ d.cr f) (hn:n ≤ 1000) (hr3:(d.qs f).length ≤ 300) (hB:B ≤ w.heap.size) :
  Calls Tryz.prog 224 #[.pointer (some ⟨g,0,none⟩)] w fun e w'=>e=.returned (.int .i64 (k:Int)) ∧ ComeEnd B g (.slice pa ps.length pcap) qv w w' F rv (d.sent (sizeAt ps) f k r) n:=by
 have hkl:=lt_of_get hp
 obtain ⟨pb,off,rfl,hlt,hc⟩:=hl.place (by omega)
 have hblt:pb < B:=hpB ⟨pb,off,none⟩ rfl (by omega)
 have hcp:∀ W,Below B w W → W.cell? ⟨pb,off+k * 3+1,none⟩=some (.int .i64 p.size):=fun W hb=>by
  rw [hb.cell (p:=⟨pb,off+k * 3+1,none⟩) hblt];exact (hc k p hp).2.1
 obtain ⟨-,-,z1,-,-,-⟩:=okPk_true (ho.each _ p hp).1
 have hsl:=h.queue f hf
 rw [hk] at hsl
 obtain ⟨qb,qo,cap,hv,hcap,hmx,ck,-,s1,s2⟩:=hsl.first
 rw [hk,List.length_cons] at hr3
 have hsz:=sizeAt_get hp
 by_cases hr:r=[]
 ·
  subst hr
  have e:d.sent (sizeAt ps) f k []={ d with qs:=put1 d.qs f [],cr:=put1 d.cr f 0,srv:=none }:=if_pos rfl
  rw [e]
  by_cases hc1':1 < cap
  · exact turnsTake_last B g k pb off pcap ps.length qv vq F rv d n w h p.size hcp (by omega) hkl f hs hf (by omega) hc1 hy hn (by simp) hB qb qo cap hv hmx ck hc1' (s1 hc1')
  ·
   obtain ⟨-,s3⟩:=s2 (by omega)
   exact turnsTake_one B g k pb off pcap ps.length qv vq F rv d n w h p.size hcp (by omega) hkl f hs hf (by omega) hc1 hy hn (by simp) hB qb qo cap hv hcap hmx ck (by omega) s3
 ·
  have e:d.sent (sizeAt ps) f k r={ d with qs:=put1 d.qs f r,cr:=put1 d.cr f (d.cr f - p.size) }:=by rw [← hsz];exact if_neg hr
  rw [e]
  have hrl:0 < r.length:=List.length_pos_iff.2 hr
  exact turnsTake_more B g k pb off pcap ps.length qv vq F rv d n w h p.size hcp (by omega) hkl f r hs hf (by omega) hc1 hy hn (by omega) hB qb qo cap hv hmx ck (by omega) (s1 (by omega)) hr
theorem ComeEnd.foot {B g:Nat} {pv qv:Value} {w w':World} {F:Nat → Nat → Prop} {rv:Value} {d:Drr} {n:Nat} (h:ComeEnd B g pv qv w w' F rv d n) (hB:B ≤ w.heap.size) (hF:∀ k,turnFoot g F rv k → B ≤ k):Below B w w':=h.but.below hB hF
theorem ComeEnd.step {B g:Nat} {pv qv:Value} {w w1 w2:World} {F F1:Nat → Nat → Prop} {rv rv1:Value} {d2:Drr} {n2:Nat} (hbut:But (turnFoot g F rv) w w1) (hfoot:∀ k,turnFoot g F1 rv1 k → turnFoot g F rv k ∨ w.heap.size ≤ k) (h:ComeEnd B g pv qv w1 w2 F1 rv1 d2 n2):ComeEnd B g pv qv w w2 F rv d2 n2:=by
 obtain ⟨vq2,F2,rv2,k1,k2⟩:=h.at_
 refine ⟨⟨vq2,F2,rv2,k1,fun k hk=>?_⟩,?_⟩
 ·
  rcases k2 k hk with h' | h'
  · exact hfoot k h'
  · have:=hbut.size;exact .inr (by omega)
 ·
  refine ⟨h.but.os.trans hbut.os,h.but.tape.trans hbut.tape,h.but.output.trans hbut.output,Nat.le_trans hbut.size h.but.size,fun j hj hn=>?_⟩
  rw [h.but.block j (Nat.lt_of_lt_of_le hj hbut.size) (fun hD=>?_)]
  · exact hbut.block j hj hn
  ·
   rcases hfoot j hD with h' | h'
   · exact hn h'
   · omega
theorem row_few' {fl:Nat → Nat} {sz qu:Nat → Int} {M:Int} {d:Drr} (h:DrrOk fl sz qu M d) (hfew:∀ f,8 ≤ f → d.qs f=[]):d.row.length ≤ 8 ∧ ∀ f,f ∈ d.line → f < 8:=by
 have h8:∀ f,f ∈ d.line → f < 8:=fun f hf=>by
  rcases Nat.lt_or_ge f 8 with h' | h'
  · exact h'
  · exact absurd (hfew f h') ((h.active f).1 hf)
 have h1:=sum_le (fun _=>1) 1 8 d.line h.nodup h8 (fun _=>Nat.le_refl _)
 have h2:(d.line.map fun _=>1).sum=d.line.length:=by
  generalize d.line=l
  induction l with
  | nil=>rfl
  | cons a r ih=>simp only [List.map_cons,List.sum_cons,List.length_cons,ih];omega
 have h3:d.row.length ≤ d.line.length:=by
  unfold Drr.line
  cases d.srv <;> simp
 exact ⟨by omega,h8⟩
structure PickAt (B g:Nat) (pv qv:Value) (ps:List Pk) (ns:List Int) (w wr:World) (F:Nat → Nat → Prop) (rv:Value) (n:Nat) (Q:Nat → List Nat) (x:Nat × Drr) (fu:Nat) (d:Drr):Prop where
 ok:DrrOk (flowOf ps) (sizeAt ps) (quOf ns) 1500 d
 qs:d.qs=Q
 go:Drr.go (sizeAt ps) (quOf ns) fu d=some x
 end_:ComeEnd B g pv qv w wr F rv d (n+1)
theorem liesN_bel {w w':World} {B:Nat} {a:Option Addr} {xs:List Int} (h:LiesN w a xs) (ha:∀ ad,a=some ad → ad.block < B) (hb:Below B w w'):LiesN w' a xs:=by
 rcases h with rfl | ⟨b,off,rfl,hlt,hc⟩
 · exact .inl rfl
 ·
  have hB:b < B:=ha ⟨b,off,none⟩ rfl
  refine .inr ⟨b,off,rfl,Nat.lt_of_lt_of_le hlt hb.size,fun i x hi=>?_⟩
  rw [hb.cell (p:=⟨b,off+i,none⟩) hB]
  exact hc i x hi
theorem turnsPick (B g:Nat) (pa:Option Addr) (pcap:Nat) (qa:Option Addr) (qcap:Nat) (ps:List Pk) (ns:List Int) (vq:Nat → Value) (F:Nat → Nat → Prop) (rv:Value) (d0:Drr) (n:Nat) (w:World) (h:TurnsAt B g (.slice pa ps.length pcap) (.slice qa ns.length qcap) w vq F rv d0 (n+1)) (hl:LiesP w pa ps) (hpB:∀ ad,pa=some ad → 0 < ps.length → ad.block < B) (hq:LiesN w qa ns) (hqB:∀ ad,qa=some ad → ad.block < B) (ho:OkPks ps) (hns:NumsOk 1 3000 ns) (hok:DrrOk (flowOf ps) (sizeAt ps) (quOf ns) 1500 d0) (hfew:∀ f,8 ≤ f → d0.qs f=[]) (hq3:∀ f,(d0.qs f).length ≤ 300 ∧ ∀ k,k ∈ d0.qs f → k < ps.length) (hn:n ≤ 1000) (hB:B ≤ w.heap.size) (fu:Nat) (k:Nat) (e:Drr) (hgo:Drr.go (sizeAt ps) (quOf ns) fu d0=some (k,e)) :
  Calls Tryz.prog 205 #[.pointer (some ⟨g,0,none⟩)] w fun e' w'=>e'=.returned (.int .i64 (k:Int)) ∧ ComeEnd B g (.slice pa ps.length pcap) (.slice qa ns.length qcap) w w' F rv e n:=by
 obtain ⟨i0,hi,hz0,hz1,hz2⟩:=info_parts Tryz.infoInt
 have hqu:∀ f,1 ≤ quOf ns f:=fun f=>(quOf_in hns.each (by omega) f).1
 have HS0:Hid (PickAt B g (.slice pa ps.length pcap) (.slice qa ns.length qcap) ps ns w w F rv n d0.qs (k,e) fu d0):=⟨hok,rfl,hgo,⟨vq,F,rv,h,fun k hk=>.inl hk⟩,But.refl _ _⟩
 have HB:Hid (B ≤ w.heap.size ∧ ∀ k,turnFoot g F rv k → B ≤ k):=⟨hB,fun k hk=>(h.foot k hk).1⟩
 have HL:Hid (∀ W,Below B w W → LiesP W pa ps ∧ LiesN W qa ns):=fun W hb=>⟨hl.bel hpB hb,liesN_bel hq hqB hb⟩
 have HQ:Hid (OkPks ps ∧ NumsOk 1 3000 ns ∧ (∀ f,1 ≤ quOf ns f) ∧ (∀ f,8 ≤ f → d0.qs f=[]) ∧ (∀ f,(d0.qs f).length ≤ 300 ∧ ∀ k,k ∈ d0.qs f → k < ps.length) ∧ (∀ ad,pa=some ad → 0 < ps.length → ad.block < B) ∧ (∀ ad,qa=some ad → ad.block < B)):=⟨ho,hns,hqu,hfew,hq3,hpB,hqB⟩
 clear h hl hpB hq hqB ho hns hok hfew hq3 hB hgo hqu
 go_enter Tryz.func205,Tryz.ntmps205
 go_wp2_with fail
 go_loopg [2] fu (fun gk r2 wr=>r2=.int .i64 0 ∧ ∃ d,PickAt B g (.slice pa ps.length pcap) (.slice qa ns.length qcap) ps ns w wr F rv n d0.qs (k,e) gk d)
 case atStart=>exact ⟨rfl,d0,HS0.out⟩
 case round=>
  obtain ⟨rfl,d,hat⟩:=hrel
  have HA:Hid (PickAt B g (.slice pa ps.length pcap) (.slice qa ns.length qcap) ps ns w wr F rv n d0.qs (k,e) gk d):=hat
  obtain ⟨vq1,F1,rv1,hT1,hF1⟩:=hat.end_.at_
  have HT1:Hid (TurnsAt B g (.slice pa ps.length pcap) (.slice qa ns.length qcap) wr vq1 F1 rv1 d (n+1)):=hT1
  have HF1:Hid (∀ k,turnFoot g F1 rv1 k → turnFoot g F rv k ∨ w.heap.size ≤ k):=hF1
  have HBr:Hid (Below B w wr):=hat.end_.foot HB.out.1 HB.out.2
  have c19:=hT1.cells.cs
  have hgo:=hat.go
  have HW:Hid (B ≤ wr.heap.size):=Nat.le_trans HB.out.1 HBr.out.size
  have hfew':∀ f,8 ≤ f → d.qs f=[]:=fun f hf=>by rw [hat.qs];exact HQ.out.2.2.2.1 f hf
  have hrow:=row_few' hat.ok hfew'
  clear hat hT1 hF1 hfew'
  cases gk with
  | zero=>simp [Drr.go] at hgo
  | succ fu1=>
   cases hs:d.srv with
   | none=>
    rw [Drr.go,hs] at hgo
    simp only at hgo
    cases hr:d.row with
    | nil=>rw [hr] at hgo;cases hgo
    | cons f r=>
     rw [hr] at hgo
     simp only at hgo
     rw [hs] at c19
     have c19':wr.cell? ⟨g,19,none⟩=some (.int .i64 (-1)):=c19
     have hf8:f < 8:=hrow.2 f (by unfold Drr.line;rw [hs];simp only;rw [hr];exact List.mem_cons_self ..)
     have hcr:=HA.out.ok.cr_in HQ.out.2.2.1 f
     have hqf:=(quOf_in HQ.out.2.1.each (by omega) f).2
     have HSv:Hid (Calls Tryz.prog 222 #[.pointer (some ⟨g,0,none⟩)] wr fun e w'=>e=.returned (.tuple #[]) ∧ ComeEnd B g (.slice pa ps.length pcap) (.slice qa ns.length qcap) wr w' F1 rv1 (d.turn (quOf ns) f r) (n+1)):=turnsServe B g _ qa qcap ns vq1 F1 rv1 d (n+1) wr HT1.out (HL.out wr HBr.out).2 HQ.out.2.1 f r hr hf8 (HA.out.ok.low f) (by omega) hrow.1 HW.out HQ.out.2.2.2.2.2.2
     have HOk:Hid (DrrOk (flowOf ps) (sizeAt ps) (quOf ns) 1500 (d.turn (quOf ns) f r) ∧ (d.turn (quOf ns) f r).qs=d0.qs ∧ Drr.go (sizeAt ps) (quOf ns) fu1 (d.turn (quOf ns) f r)=some (k,e) ∧ (d.turn (quOf ns) f r).srv=some f):=⟨HA.out.ok.turn HQ.out.2.2.1 hs hr,HA.out.qs,hgo,rfl⟩
     obtain ⟨dX,hdX⟩:∃ dX,d.turn (quOf ns) f r=dX:=⟨_,rfl⟩
     rw [hdX] at HSv HOk
     clear hgo c19 hs hr hrow hcr hqf hdX
     go_wp2_with fail
     refine HSv.out.mono ?_
     rintro e1 X ⟨rfl,hE⟩
     have HE:Hid (ComeEnd B g (.slice pa ps.length pcap) (.slice qa ns.length qcap) w X F rv dX (n+1)):=ComeEnd.step HA.out.end_.but HF1.out hE
     have HFu:Hid (fu1 ≤ fu1+1):=Nat.le_succ _
     clear hE c19'
     obtain ⟨vqX,FX,rvX,hTX,hFX⟩:=HE.out.at_
     have HX:Hid (TurnsAt B g (.slice pa ps.length pcap) (.slice qa ns.length qcap) X vqX FX rvX dX (n+1)):=hTX
     have HFX:Hid (∀ k,turnFoot g FX rvX k → turnFoot g F rv k ∨ w.heap.size ≤ k):=hFX
     have HBX:Hid (Below B w X):=HE.out.foot HB.out.1 HB.out.2
     clear hTX hFX
     have hrowX:=row_few' HOk.out.1 (fun f hf=>by rw [HOk.out.2.1];exact HQ.out.2.2.2.1 f hf)
     have hlX:dX.line=f :: dX.row:=by unfold Drr.line;rw [HOk.out.2.2.2]
     have hneX:=(HOk.out.1.active f).1 (by rw [hlX];exact List.mem_cons_self ..)
     obtain ⟨k1,r1,hk1⟩:∃ k1 r1,dX.qs f=k1 :: r1:=by
      cases hq:dX.qs f with
      | nil=>exact absurd hq hneX
      | cons a b=>exact ⟨a,b,rfl⟩
     have HK1:Hid (dX.qs f=k1 :: r1):=hk1
     have hk1l:k1 < ps.length:=(HQ.out.2.2.2.2.1 f).2 k1 (by rw [← HOk.out.2.1,hk1];exact List.mem_cons_self ..)
     obtain ⟨p1,hp1,-⟩:=get_some ps k1 hk1l
     have HP1:Hid (ps[k1]? = some p1):=hp1
     have hcrX:=HOk.out.1.cr_in HQ.out.2.2.1 f
     have hqX:=(quOf_in HQ.out.2.1.each (by omega) f).2
     have HCrX:Hid (dX.cr f ≤ 1000000):=by show dX.cr f ≤ 1000000;omega
     have HRl:Hid (dX.row.length ≤ 8):=hrowX.1
     obtain ⟨b,hb⟩:∃ b,decide (p1.size ≤ dX.cr f)=b:=⟨_,rfl⟩
     have HCan:Hid (Calls Tryz.prog 223 #[.pointer (some ⟨g,0,none⟩)] X fun e w'=>e=.returned (.bool b) ∧ ∃ m,w'=X.drewN m):=turnsCan B g pa pcap _ ps vqX FX rvX dX (n+1) X HX.out (HL.out X HBX.out).1 HQ.out.1.few f k1 r1 p1 HOk.out.2.2.2 hf8 hk1 hp1 b hb
     have HBd:Hid (decide (p1.size ≤ dX.cr f)=b):=hb
     clear hrowX hlX hneX hk1 hp1 hcrX hqX hb
     go_wp2_with fail
     refine HCan.out.mono ?_
     rintro e2 Y ⟨rfl,m,hY⟩
     have hbY:Below X.heap.size X Y:=by rw [hY];exact below_drewN (Below.refl _ _) _
     have HY:Hid (TurnsAt B g (.slice pa ps.length pcap) (.slice qa ns.length qcap) Y vqX FX rvX dX (n+1)):=HX.out.later hbY
     have HBY:Hid (Below B w Y ∧ B ≤ Y.heap.size):=⟨HBX.out.trans (hbY.mono (Nat.le_trans HB.out.1 HBX.out.size)),Nat.le_trans (Nat.le_trans HB.out.1 HBX.out.size) hbY.size⟩
     have HBut:Hid (But (turnFoot g F rv) w Y):=HE.out.but.trans (.ofBelow hbY)
     clear hY hbY
     cases b with
     | true=>
      have hfit:p1.size ≤ dX.cr f:=of_decide_eq_true HBd.out
      have hxx:(k1,dX.sent (sizeAt ps) f k1 r1)=(k,e):=by
       have hg:=HOk.out.2.2.1
       cases fu1 with
       | zero=>simp [Drr.go] at hg
       | succ fu2=>
        rw [Drr.go,HOk.out.2.2.2] at hg
        simp only [HK1.out,if_pos (show sizeAt ps k1 ≤ dX.cr f by rw [sizeAt_get HP1.out];exact hfit)] at hg
        exact Option.some.inj hg
      obtain ⟨rfl,rfl⟩:=Prod.mk.inj hxx
      have HTk:Hid (Calls Tryz.prog 224 #[.pointer (some ⟨g,0,none⟩)] Y fun e w'=>e=.returned (.int .i64 (k1:Int)) ∧ ComeEnd B g (.slice pa ps.length pcap) (.slice qa ns.length qcap) Y w' FX rvX (dX.sent (sizeAt ps) f k1 r1) n):=turnsTake B g pa pcap _ ps vqX FX rvX dX n Y HY.out (HL.out Y HBY.out.1).1 HQ.out.2.2.2.2.2.1 HQ.out.1 f k1 r1 p1 HOk.out.2.2.2 hf8 HK1.out HP1.out HCrX.out hfit hn (by rw [HOk.out.2.1];exact (HQ.out.2.2.2.2.1 f).1) HBY.out.2
      clear hfit hxx
      go_wp2_with fail
      refine HTk.out.mono ?_
      rintro e3 Z ⟨rfl,hZ⟩
      have HZ:Hid (ComeEnd B g (.slice pa ps.length pcap) (.slice qa ns.length qcap) w Z F rv (dX.sent (sizeAt ps) f k1 r1) n):=ComeEnd.step HBut.out HFX.out hZ
      clear hZ
      go_wp2_with fail
      go_ret
      exact ⟨rfl,HZ.out⟩
     | false=>
      have hbig:¬ p1.size ≤ dX.cr f:=of_decide_eq_false HBd.out
      have HNx:Hid (∃ fu2,fu2 < (fu1+1) ∧ DrrOk (flowOf ps) (sizeAt ps) (quOf ns) 1500 (dX.back f) ∧ Drr.go (sizeAt ps) (quOf ns) fu2 (dX.back f)=some (k,e)):=by
       have hg:=HOk.out.2.2.1
       have hok2:=HOk.out.1.back HOk.out.2.2.2 HK1.out (by rw [sizeAt_get HP1.out];omega)
       cases fu1 with
       | zero=>simp [Drr.go] at hg
       | succ fu2=>
        rw [Drr.go,HOk.out.2.2.2] at hg
        simp only [HK1.out,if_neg (show ¬ sizeAt ps k1 ≤ dX.cr f by rw [sizeAt_get HP1.out];exact hbig)] at hg
        exact ⟨fu2,by omega,hok2,hg⟩
      have c18:=HY.out.cells.cr_
      have c19:Y.cell? ⟨g,19,none⟩=some (.int .i64 (f:Int)):=by have:=HY.out.cells.cs;rw [HOk.out.2.2.2] at this;exact this
      have hb0:Below Y.heap.size Y (Y.drew.alloc (.cells #[.int .i64 (f:Int)] 3)):=(Below.refl _ _).drew.alloc (Nat.le_refl _) _
      have HTa:Hid (TurnsAt B g (.slice pa ps.length pcap) (.slice qa ns.length qcap) (Y.drew.alloc (.cells #[.int .i64 (f:Int)] 3)) vqX FX rvX dX (n+1)):=HY.out.later hb0
      have HNew:Hid (∀ j u,(ints [(f:Int)])[j]? = some u → (Y.drew.alloc (.cells #[.int .i64 (f:Int)] 3)).cell? (Addr.add ⟨Y.heap.size,0,none⟩ j)=some u):=World.news_of_block (cs:=#[.int .i64 (f:Int)]) (t:=3) (heap_alloc_new Y.drew _)
      have HBs:Hid (B ≤ (Y.drew.alloc (.cells #[.int .i64 (f:Int)] 3)).heap.size):=Nat.le_trans HBY.out.2 hb0.size
      obtain ⟨rl,hrle⟩:∃ rl,dX.row.length=rl:=⟨_,rfl⟩
      have HRe:Hid (dX.row.length=rl):=hrle
      have hrl8:=HRl.out
      rw [hrle] at hrl8
      have c18a:(Y.alloc (.cells #[.int .i64 (f:Int)] 3)).cell? ⟨g,18,none⟩=some rvX:=cell_later ((Below.refl _ _).alloc (Nat.le_refl _) _) c18
      clear hb0 hrle hbig
      go_wp2_with fail
      go_region_law
       (first
        | (refine step_append_lies _ rfl _ _ 32 rfl B 3 i0 (.int .i64 0) 1 8 Tryz.underlying32 hi hz0 hz1 hz2 rfl (by decide) rvX rl (ints (asInts dX.row)) rfl (by have:=HTa.out.row;rwa [HRe.out] at this) ⟨Y.heap.size,0,none⟩ 1 1 (ints [(f:Int)]) rfl rfl HNew.out (ints_one _) (by decide) (by unfold maxLen;omega) (by omega) HBs.out _ rfl ?_
           intro g5 cap5 w5 ho5 hg5 hat5 hlt5
           have hbut:But (fun k=>rvX.ownBlock=some k) (Y.drew.alloc (.cells #[.int .i64 (f:Int)] 3)) w5:=⟨hg5.os,hg5.tape,hg5.output,hg5.size,fun k hk hn=>hg5.block k hk (fun e=>hn e.symm)⟩
           have HT5:=HTa.out.cells.but hbut (fun e=>HTa.out.rowg e)
           have y1:=HT5.cr_
           have y2:=HT5.free 18
           have H5:Hid (w5.ownsRow B 3 1 (.slice (some ⟨g5,0,none⟩) (rl+1) cap5) (rl+1) (ints (asInts dX.row) ++ ints [(f:Int)]) ∧ But (fun k=>rvX.ownBlock=some k) (Y.drew.alloc (.cells #[.int .i64 (f:Int)] 3)) w5 ∧ (rvX.ownBlock=some g5 ∨ g5=(Y.drew.alloc (.cells #[.int .i64 (f:Int)] 3)).heap.size)):=⟨ho5,hbut,hat5⟩
           clear ho5 hg5 hat5 hlt5 hbut HT5)
        | fail)
      all_goals
       have HNw:Hid (∀ k,(Value.slice (some ⟨g5,0,none⟩) (rl+1) cap5).ownBlock=some k → rvX.ownBlock=some k ∨ (Y.drew.alloc (.cells #[.int .i64 (f:Int)] 3)).heap.size ≤ k):=fun j hj=>by
        have e:g5=j:=Option.some.inj hj
        rcases H5.out.2.2 with h' | h'
        · exact .inl (by rw [← e];exact h')
        · exact .inr (by rw [← e,h'];exact Nat.le_refl _)
       have HT6:Hid (TurnsAt B g (.slice pa ps.length pcap) (.slice qa ns.length qcap) (w5.setCell ⟨g,18,none⟩ (.slice (some ⟨g5,0,none⟩) (rl+1) cap5)) vqX FX (.slice (some ⟨g5,0,none⟩) (rl+1) cap5) { dX with row:=dX.row ++ [f] } (n+1)):=HTa.out.setR H5.out.2.1 (by rw [List.length_append,asInts_snoc,HRe.out];exact H5.out.1) HNw.out
       have z1:=HT6.out.cells.cs
       have z2:=HT6.out.cells.free 19
       have HBt:Hid (But (turnFoot g FX rvX) Y (w5.setCell ⟨g,18,none⟩ (.slice (some ⟨g5,0,none⟩) (rl+1) cap5))):=((But.ofBelow ((Below.refl _ _).drew.alloc (Nat.le_refl _) _)).trans (H5.out.2.1.mono fun j hj=>.inr (.inr hj))).trans ((butG _ _ _ _).mono fun j hj=>.inl hj)
       clear y1 y2
       go_wp2_with fail
       obtain ⟨fu2,hfu2,hok2,hgo2⟩:=HNx.out
       go_roundg fu2
       case measure=>omega
       case rel=>
        refine ⟨rfl,dX.back f,hok2,HOk.out.2.1,hgo2,ComeEnd.step HBut.out HFX.out ⟨⟨vqX,FX,_,HT6.out.setS none rfl,fun j hj=>?_⟩,HBt.out.trans ((butG _ _ _ _).mono fun j hj=>.inl hj)⟩⟩
        rcases foot_setR HNw.out hj with h' | h'
        · exact .inl h'
        · exact .inr (Nat.le_trans (by simp) h')
   | some f=>
    rw [hs] at c19
    have c19':wr.cell? ⟨g,19,none⟩=some (.int .i64 (f:Int)):=c19
    have hf8:f < 8:=hrow.2 f (by unfold Drr.line;rw [hs];exact List.mem_cons_self ..)
    have hfm:((f:Int) == -1)=false:=by simp
    have HOk:Hid (DrrOk (flowOf ps) (sizeAt ps) (quOf ns) 1500 d ∧ d.qs=d0.qs ∧ Drr.go (sizeAt ps) (quOf ns) (fu1+1) d=some (k,e) ∧ d.srv=some f):=⟨HA.out.ok,HA.out.qs,hgo,hs⟩
    obtain ⟨dX,hdX⟩:∃ dX,d=dX:=⟨_,rfl⟩
    obtain ⟨X,hX⟩:∃ X,wr=X:=⟨_,rfl⟩
    have HE:Hid (ComeEnd B g (.slice pa ps.length pcap) (.slice qa ns.length qcap) w X F rv dX (n+1)):=by rw [← hX,← hdX];exact HA.out.end_
    rw [hdX] at HOk
    rw [hX] at c19' ⊢
    clear hgo c19 hs hrow hdX hX HA HT1 HF1 HBr HW
    obtain ⟨vqX,FX,rvX,hTX,hFX⟩:=HE.out.at_
    have HX:Hid (TurnsAt B g (.slice pa ps.length pcap) (.slice qa ns.length qcap) X vqX FX rvX dX (n+1)):=hTX
    have HFX:Hid (∀ k,turnFoot g FX rvX k → turnFoot g F rv k ∨ w.heap.size ≤ k):=hFX
    have HBX:Hid (Below B w X):=HE.out.foot HB.out.1 HB.out.2
    clear hTX hFX
    have hrowX:=row_few' HOk.out.1 (fun f hf=>by rw [HOk.out.2.1];exact HQ.out.2.2.2.1 f hf)
    have hlX:dX.line=f :: dX.row:=by unfold Drr.line;rw [HOk.out.2.2.2]
    have hneX:=(HOk.out.1.active f).1 (by rw [hlX];exact List.mem_cons_self ..)
    obtain ⟨k1,r1,hk1⟩:∃ k1 r1,dX.qs f=k1 :: r1:=by
     cases hq:dX.qs f with
     | nil=>exact absurd hq hneX
     | cons a b=>exact ⟨a,b,rfl⟩
    have HK1:Hid (dX.qs f=k1 :: r1):=hk1
    have hk1l:k1 < ps.length:=(HQ.out.2.2.2.2.1 f).2 k1 (by rw [← HOk.out.2.1,hk1];exact List.mem_cons_self ..)
    obtain ⟨p1,hp1,-⟩:=get_some ps k1 hk1l
    have HP1:Hid (ps[k1]? = some p1):=hp1
    have hcrX:=HOk.out.1.cr_in HQ.out.2.2.1 f
    have hqX:=(quOf_in HQ.out.2.1.each (by omega) f).2
    have HCrX:Hid (dX.cr f ≤ 1000000):=by show dX.cr f ≤ 1000000;omega
    have HRl:Hid (dX.row.length ≤ 8):=hrowX.1
    obtain ⟨b,hb⟩:∃ b,decide (p1.size ≤ dX.cr f)=b:=⟨_,rfl⟩
    have HCan:Hid (Calls Tryz.prog 223 #[.pointer (some ⟨g,0,none⟩)] X fun e w'=>e=.returned (.bool b) ∧ ∃ m,w'=X.drewN m):=turnsCan B g pa pcap _ ps vqX FX rvX dX (n+1) X HX.out (HL.out X HBX.out).1 HQ.out.1.few f k1 r1 p1 HOk.out.2.2.2 hf8 hk1 hp1 b hb
    have HBd:Hid (decide (p1.size ≤ dX.cr f)=b):=hb
    clear hrowX hlX hneX hk1 hp1 hcrX hqX hb
    go_wp2_with fail
    refine HCan.out.mono ?_
    rintro e2 Y ⟨rfl,m,hY⟩
    have hbY:Below X.heap.size X Y:=by rw [hY];exact below_drewN (Below.refl _ _) _
    have HY:Hid (TurnsAt B g (.slice pa ps.length pcap) (.slice qa ns.length qcap) Y vqX FX rvX dX (n+1)):=HX.out.later hbY
    have HBY:Hid (Below B w Y ∧ B ≤ Y.heap.size):=⟨HBX.out.trans (hbY.mono (Nat.le_trans HB.out.1 HBX.out.size)),Nat.le_trans (Nat.le_trans HB.out.1 HBX.out.size) hbY.size⟩
    have HBut:Hid (But (turnFoot g F rv) w Y):=HE.out.but.trans (.ofBelow hbY)
    clear hY hbY
    cases b with
    | true=>
     have hfit:p1.size ≤ dX.cr f:=of_decide_eq_true HBd.out
     have hxx:(k1,dX.sent (sizeAt ps) f k1 r1)=(k,e):=by
      have hg:=HOk.out.2.2.1
      rw [Drr.go,HOk.out.2.2.2] at hg
      simp only [HK1.out,if_pos (show sizeAt ps k1 ≤ dX.cr f by rw [sizeAt_get HP1.out];exact hfit)] at hg
      exact Option.some.inj hg
     obtain ⟨rfl,rfl⟩:=Prod.mk.inj hxx
     have HTk:Hid (Calls Tryz.prog 224 #[.pointer (some ⟨g,0,none⟩)] Y fun e w'=>e=.returned (.int .i64 (k1:Int)) ∧ ComeEnd B g (.slice pa ps.length pcap) (.slice qa ns.length qcap) Y w' FX rvX (dX.sent (sizeAt ps) f k1 r1) n):=turnsTake B g pa pcap _ ps vqX FX rvX dX n Y HY.out (HL.out Y HBY.out.1).1 HQ.out.2.2.2.2.2.1 HQ.out.1 f k1 r1 p1 HOk.out.2.2.2 hf8 HK1.out HP1.out HCrX.out hfit hn (by rw [HOk.out.2.1];exact (HQ.out.2.2.2.2.1 f).1) HBY.out.2
     clear hfit hxx
     go_wp2_with fail
     refine HTk.out.mono ?_
     rintro e3 Z ⟨rfl,hZ⟩
     have HZ:Hid (ComeEnd B g (.slice pa ps.length pcap) (.slice qa ns.length qcap) w Z F rv (dX.sent (sizeAt ps) f k1 r1) n):=ComeEnd.step HBut.out HFX.out hZ
     clear hZ
     go_wp2_with fail
     go_ret
     exact ⟨rfl,HZ.out⟩
    | false=>
     have hbig:¬ p1.size ≤ dX.cr f:=of_decide_eq_false HBd.out
     have HNx:Hid (∃ fu2,fu2 < (fu1+1) ∧ DrrOk (flowOf ps) (sizeAt ps) (quOf ns) 1500 (dX.back f) ∧ Drr.go (sizeAt ps) (quOf ns) fu2 (dX.back f)=some (k,e)):=by
      have hg:=HOk.out.2.2.1
      have hok2:=HOk.out.1.back HOk.out.2.2.2 HK1.out (by rw [sizeAt_get HP1.out];omega)
      rw [Drr.go,HOk.out.2.2.2] at hg
      simp only [HK1.out,if_neg (show ¬ sizeAt ps k1 ≤ dX.cr f by rw [sizeAt_get HP1.out];exact hbig)] at hg
      exact ⟨fu1,by omega,hok2,hg⟩
     have c18:=HY.out.cells.cr_
     have c19:Y.cell? ⟨g,19,none⟩=some (.int .i64 (f:Int)):=by have:=HY.out.cells.cs;rw [HOk.out.2.2.2] at this;exact this
     have hb0:Below Y.heap.size Y (Y.drew.alloc (.cells #[.int .i64 (f:Int)] 3)):=(Below.refl _ _).drew.alloc (Nat.le_refl _) _
     have HTa:Hid (TurnsAt B g (.slice pa ps.length pcap) (.slice qa ns.length qcap) (Y.drew.alloc (.cells #[.int .i64 (f:Int)] 3)) vqX FX rvX dX (n+1)):=HY.out.later hb0
     have HNew:Hid (∀ j u,(ints [(f:Int)])[j]? = some u → (Y.drew.alloc (.cells #[.int .i64 (f:Int)] 3)).cell? (Addr.add ⟨Y.heap.size,0,none⟩ j)=some u):=World.news_of_block (cs:=#[.int .i64 (f:Int)]) (t:=3) (heap_alloc_new Y.drew _)
     have HBs:Hid (B ≤ (Y.drew.alloc (.cells #[.int .i64 (f:Int)] 3)).heap.size):=Nat.le_trans HBY.out.2 hb0.size
     obtain ⟨rl,hrle⟩:∃ rl,dX.row.length=rl:=⟨_,rfl⟩
     have HRe:Hid (dX.row.length=rl):=hrle
     have hrl8:=HRl.out
     rw [hrle] at hrl8
     have c18a:(Y.alloc (.cells #[.int .i64 (f:Int)] 3)).cell? ⟨g,18,none⟩=some rvX:=cell_later ((Below.refl _ _).alloc (Nat.le_refl _) _) c18
     clear hb0 hrle hbig
     go_wp2_with fail
     go_region_law
      (first
       | (refine step_append_lies _ rfl _ _ 32 rfl B 3 i0 (.int .i64 0) 1 8 Tryz.underlying32 hi hz0 hz1 hz2 rfl (by decide) rvX rl (ints (asInts dX.row)) rfl (by have:=HTa.out.row;rwa [HRe.out] at this) ⟨Y.heap.size,0,none⟩ 1 1 (ints [(f:Int)]) rfl rfl HNew.out (ints_one _) (by decide) (by unfold maxLen;omega) (by omega) HBs.out _ rfl ?_
          intro g5 cap5 w5 ho5 hg5 hat5 hlt5
          have hbut:But (fun k=>rvX.ownBlock=some k) (Y.drew.alloc (.cells #[.int .i64 (f:Int)] 3)) w5:=⟨hg5.os,hg5.tape,hg5.output,hg5.size,fun k hk hn=>hg5.block k hk (fun e=>hn e.symm)⟩
          have HT5:=HTa.out.cells.but hbut (fun e=>HTa.out.rowg e)
          have y1:=HT5.cr_
          have y2:=HT5.free 18
          have H5:Hid (w5.ownsRow B 3 1 (.slice (some ⟨g5,0,none⟩) (rl+1) cap5) (rl+1) (ints (asInts dX.row) ++ ints [(f:Int)]) ∧ But (fun k=>rvX.ownBlock=some k) (Y.drew.alloc (.cells #[.int .i64 (f:Int)] 3)) w5 ∧ (rvX.ownBlock=some g5 ∨ g5=(Y.drew.alloc (.cells #[.int .i64 (f:Int)] 3)).heap.size)):=⟨ho5,hbut,hat5⟩
          clear ho5 hg5 hat5 hlt5 hbut HT5)
       | fail)
     all_goals
      have HNw:Hid (∀ k,(Value.slice (some ⟨g5,0,none⟩) (rl+1) cap5).ownBlock=some k → rvX.ownBlock=some k ∨ (Y.drew.alloc (.cells #[.int .i64 (f:Int)] 3)).heap.size ≤ k):=fun j hj=>by
       have e:g5=j:=Option.some.inj hj
       rcases H5.out.2.2 with h' | h'
       · exact .inl (by rw [← e];exact h')
       · exact .inr (by rw [← e,h'];exact Nat.le_refl _)
      have HT6:Hid (TurnsAt B g (.slice pa ps.length pcap) (.slice qa ns.length qcap) (w5.setCell ⟨g,18,none⟩ (.slice (some ⟨g5,0,none⟩) (rl+1) cap5)) vqX FX (.slice (some ⟨g5,0,none⟩) (rl+1) cap5) { dX with row:=dX.row ++ [f] } (n+1)):=HTa.out.setR H5.out.2.1 (by rw [List.length_append,asInts_snoc,HRe.out];exact H5.out.1) HNw.out
      have z1:=HT6.out.cells.cs
      have z2:=HT6.out.cells.free 19
      have HBt:Hid (But (turnFoot g FX rvX) Y (w5.setCell ⟨g,18,none⟩ (.slice (some ⟨g5,0,none⟩) (rl+1) cap5))):=((But.ofBelow ((Below.refl _ _).drew.alloc (Nat.le_refl _) _)).trans (H5.out.2.1.mono fun j hj=>.inr (.inr hj))).trans ((butG _ _ _ _).mono fun j hj=>.inl hj)
      clear y1 y2
      go_wp2_with fail
      obtain ⟨fu2,hfu2,hok2,hgo2⟩:=HNx.out
      go_roundg fu2
      case measure=>omega
      case rel=>
       refine ⟨rfl,dX.back f,hok2,HOk.out.2.1,hgo2,ComeEnd.step HBut.out HFX.out ⟨⟨vqX,FX,_,HT6.out.setS none rfl,fun j hj=>?_⟩,HBt.out.trans ((butG _ _ _ _).mono fun j hj=>.inl hj)⟩⟩
       rcases foot_setR HNw.out hj with h' | h'
       · exact .inl h'
       · exact .inr (Nat.le_trans (by simp) h')
structure NumsAt (w:World) (g n:Nat) (f:Nat → Int):Prop where
 cell:∀ i,i < n → w.cell? ⟨g,i,none⟩=some (.int .i64 (f i))
 frozen:∀ i,w.frozen? ⟨g,i,none⟩=false
 lt:g < w.heap.size
section
variable {w w':World} {g n:Nat} {f:Nat → Int}
theorem nums_made (w:World) (n:Nat) (t:TypeId):NumsAt (w.alloc (.cells (madeCells #[.int .i64 0] n) t)) w.heap.size n (fun _=>0):=by
 refine ⟨fun i hi=>?_,fun i=>World.frozen?_alloc_new w _ _ i,by simp⟩
 rw [World.cell?_alloc_at _ _ _ _ rfl]
 exact made_get _ _ _ hi
theorem NumsAt.of_block (h:NumsAt w g n f) (hb:w'.heap[g]? = w.heap[g]?) (hs:w.heap.size ≤ w'.heap.size):NumsAt w' g n f:=
 ⟨fun i hi=>(World.cell?_of_block (a:=⟨g,i,none⟩) hb).trans (h.cell i hi),fun i=>(World.frozen?_of_block (a:=⟨g,i,none⟩) hb).trans (h.frozen i),Nat.lt_of_lt_of_le h.lt hs⟩
theorem NumsAt.but {S:Nat → Prop} (h:NumsAt w g n f) (hb:But S w w') (hs:¬ S g):NumsAt w' g n f:=h.of_block (hb.block g h.lt hs) hb.size
theorem NumsAt.put (h:NumsAt w g n f) {k:Nat} (hk:k < n) (x:Int):NumsAt (w.setCell ⟨g,k,none⟩ (.int .i64 x)) g n (put1 f k x):=by
 refine ⟨fun i hi=>?_,fun i=>by rw [World.frozen?_setCell];exact h.frozen i,by simp [World.setCell];exact h.lt⟩
 by_cases e:k=i
 ·
  subst e
  rw [World.cell?_setCell_same' _ _ _ (by rw [h.cell k hk];rfl),put1_same]
 · rw [World.cell?_setCell_other _ _ _ _ (by intro e';cases e';exact e rfl),h.cell i hi,put1_other _ _ (fun e'=>e e'.symm)]
end
structure FairCells (w:World) (g:Nat) (pv qv gv:Value) (gm:Nat) (cur:Int) (rv:Value):Prop where
 c0:w.cell? ⟨g,0,none⟩=some pv
 c1:w.cell? ⟨g,1,none⟩=some qv
 c2:w.cell? ⟨g,2,none⟩=some gv
 c3:w.cell? ⟨g,3,none⟩=some (.map (some gm))
 c4:w.cell? ⟨g,4,none⟩=some (.int .i64 cur)
 c5:w.cell? ⟨g,5,none⟩=some rv
 free:∀ i,w.frozen? ⟨g,i,none⟩=false
section
variable {w w':World} {g gm:Nat} {pv qv gv rv:Value} {cur:Int}
theorem FairCells.lt (h:FairCells w g pv qv gv gm cur rv):g < w.heap.size:=cell_lt h.c0
theorem FairCells.but {S:Nat → Prop} (h:FairCells w g pv qv gv gm cur rv) (hb:But S w w') (hs:¬ S g):FairCells w' g pv qv gv gm cur rv:=by
 have e:∀ i,w'.cell? ⟨g,i,none⟩=w.cell? ⟨g,i,none⟩:=fun i=>hb.cell (p:=⟨g,i,none⟩) h.lt hs
 exact ⟨by rw [e];exact h.c0,by rw [e];exact h.c1,by rw [e];exact h.c2,by rw [e];exact h.c3,by rw [e];exact h.c4,by rw [e];exact h.c5,fun i=>by rw [hb.frozen (p:=⟨g,i,none⟩) h.lt hs];exact h.free i⟩
theorem farF (w:World) (g i j:Nat) (v:Value) (h:i ≠ j):(w.setCell ⟨g,i,none⟩ v).cell? ⟨g,j,none⟩=w.cell? ⟨g,j,none⟩:=
 World.cell?_setCell_other _ _ _ _ (fun e=>h (by injection e))
theorem FairCells.setV (h:FairCells w g pv qv gv gm cur rv) (x:Int):FairCells (w.setCell ⟨g,4,none⟩ (.int .i64 x)) g pv qv gv gm x rv:=
 ⟨by rw [farF _ _ _ _ _ (by omega)];exact h.c0,by rw [farF _ _ _ _ _ (by omega)];exact h.c1,by rw [farF _ _ _ _ _ (by omega)];exact h.c2,by rw [farF _ _ _ _ _ (by omega)];exact h.c3,World.cell?_setCell_same _ _ _ h.c4,by rw [farF _ _ _ _ _ (by omega)];exact h.c5,fun i=>by rw [World.frozen?_setCell];exact h.free i⟩
theorem FairCells.setR (h:FairCells w g pv qv gv gm cur rv) (v:Value):FairCells (w.setCell ⟨g,5,none⟩ v) g pv qv gv gm cur v:=
 ⟨by rw [farF _ _ _ _ _ (by omega)];exact h.c0,by rw [farF _ _ _ _ _ (by omega)];exact h.c1,by rw [farF _ _ _ _ _ (by omega)];exact h.c2,by rw [farF _ _ _ _ _ (by omega)];exact h.c3,by rw [farF _ _ _ _ _ (by omega)];exact h.c4,World.cell?_setCell_same _ _ _ h.c5,fun i=>by rw [World.frozen?_setCell];exact h.free i⟩
end
def fairFoot (g gt gm:Nat) (rv:Value) (k:Nat):Prop:=k=g ∨ k=gt ∨ k=gm ∨ rv.ownBlock=some k
structure FairAt (B g gt gm n:Nat) (pv qv:Value) (w:World) (rv:Value) (q:FQ):Prop where
 cells:FairCells w g pv qv (.slice (some ⟨gt,0,none⟩) n n) gm q.v rv
 given:NumsAt w gt n q.tag
 tells:Tells Tryz.prog 3 3 w gm q.last
 row:w.ownsRow B 3 1 rv q.q.length (ints (asInts q.q))
 apart:gt ≠ g ∧ gm ≠ g ∧ gm ≠ gt
 rapart:rv.ownBlock ≠ some g ∧ rv.ownBlock ≠ some gt ∧ rv.ownBlock ≠ some gm
 le:B ≤ g ∧ B ≤ gt ∧ B ≤ gm
section
variable {B g gt gm n:Nat} {pv qv:Value} {w w':World} {rv:Value} {q:FQ}
theorem FairAt.foot (h:FairAt B g gt gm n pv qv w rv q):∀ k,fairFoot g gt gm rv k → B ≤ k ∧ k < w.heap.size:=by
 rintro k (rfl | rfl | rfl | hk)
 · exact ⟨h.le.1,h.cells.lt⟩
 · exact ⟨h.le.2.1,h.given.lt⟩
 · exact ⟨h.le.2.2,h.tells.lt⟩
 · exact ownsRow_lt h.row hk
theorem FairAt.but {S:Nat → Prop} (h:FairAt B g gt gm n pv qv w rv q) (hb:But S w w') (hs:∀ k,fairFoot g gt gm rv k → ¬ S k):FairAt B g gt gm n pv qv w' rv q:=
 ⟨h.cells.but hb (hs g (.inl rfl)),h.given.but hb (hs gt (.inr (.inl rfl))),h.tells.but hb (hs gm (.inr (.inr (.inl rfl)))),ownsRow_of_block h.row (fun k hv hk=>hb.block k hk (hs k (.inr (.inr (.inr hv))))),h.apart,h.rapart,h.le⟩
theorem FairAt.later (h:FairAt B g gt gm n pv qv w rv q) (hb:Below w.heap.size w w'):FairAt B g gt gm n pv qv w' rv q:=h.but (S:=fun _=>False) (.ofBelow hb) (fun _ _ h=>h)
theorem butF (w:World) (g i:Nat) (v:Value):But (fun k=>k=g) w (w.setCell ⟨g,i,none⟩ v):=But.setCell (S:=fun k=>k=g) (But.refl _ w) (p:=⟨g,i,none⟩) rfl v
theorem FairAt.setTag (h:FairAt B g gt gm n pv qv w rv q) {k:Nat} (hk:k < n) (x:Int):FairAt B g gt gm n pv qv (w.setCell ⟨gt,k,none⟩ (.int .i64 x)) rv { q with tag:=put1 q.tag k x }:=by
 have hb:=butF w gt k (.int .i64 x)
 exact ⟨h.cells.but hb (fun e=>h.apart.1 e.symm),h.given.put hk x,h.tells.but hb h.apart.2.2,ownsRow_of_block h.row (fun k hv hk=>hb.block k hk (fun e=>h.rapart.2.1 (by rw [← e];exact hv))),h.apart,h.rapart,h.le⟩
theorem FairAt.setLast (h:FairAt B g gt gm n pv qv w rv q) {l:Nat → Int} (hg:w.grownBy w' (some gm)) (ht:Tells Tryz.prog 3 3 w' gm l):FairAt B g gt gm n pv qv w' rv { q with last:=l } ∧ But (fun k=>k=gm) w w':=by
 have hb:But (fun k=>k=gm) w w':=⟨hg.os,hg.tape,hg.output,hg.size,fun k hk hn=>hg.block k hk (fun e=>hn (Option.some.inj e))⟩
 exact ⟨⟨h.cells.but hb (fun e=>h.apart.2.1 e.symm),h.given.but hb (fun e=>h.apart.2.2 e.symm),ht,ownsRow_of_block h.row (fun k hv hk=>hb.block k hk (fun e=>h.rapart.2.2 (by rw [← e];exact hv))),h.apart,h.rapart,h.le⟩,hb⟩
theorem FairAt.setV (h:FairAt B g gt gm n pv qv w rv q) (x:Int):FairAt B g gt gm n pv qv (w.setCell ⟨g,4,none⟩ (.int .i64 x)) rv { q with v:=x }:=by
 have hb:=butF w g 4 (.int .i64 x)
 exact ⟨h.cells.setV x,h.given.but hb h.apart.1,h.tells.but hb h.apart.2.1,ownsRow_of_block h.row (fun k hv hk=>hb.block k hk (fun e=>h.rapart.1 (by rw [← e];exact hv))),h.apart,h.rapart,h.le⟩
theorem FairAt.setR (h:FairAt B g gt gm n pv qv w rv q) {w2:World} {v':Value} {r':List Nat} (hbut:But (fun k=>rv.ownBlock=some k) w w2) (hown:w2.ownsRow B 3 1 v' r'.length (ints (asInts r'))) (hnew:∀ k,v'.ownBlock=some k → rv.ownBlock=some k ∨ w.heap.size ≤ k) :
  FairAt B g gt gm n pv qv (w2.setCell ⟨g,5,none⟩ v') v' { q with q:=r' }:=by
 have hne:∀ j,j < w.heap.size → rv.ownBlock ≠ some j → v'.ownBlock ≠ some j:=fun j hj hr e=>by
  rcases hnew j e with h' | h'
  · exact hr h'
  · omega
 have hg:=hne g h.cells.lt h.rapart.1
 have hb:=butF w2 g 5 v'
 exact ⟨(h.cells.but hbut (fun e=>h.rapart.1 e)).setR v',(h.given.but hbut (fun e=>h.rapart.2.1 e)).but hb h.apart.1,(h.tells.but hbut (fun e=>h.rapart.2.2 e)).but hb h.apart.2.1,ownsRow_of_block hown (fun k hv hk=>hb.block k hk (fun e=>hg (by rw [← e];exact hv))),h.apart,⟨hg,hne gt h.given.lt h.rapart.2.1,hne gm h.tells.lt h.rapart.2.2⟩,h.le⟩
end
structure HeldW (B:Nat) (W0:World) (g gt gm n:Nat) (pv qv:Value) (w:World) (D:Nat → Prop) (q:FQ):Prop where
 env:Below B W0 w
 parts:∃ rv,FairAt B g gt gm n pv qv w rv q ∧ ∀ k,D k ↔ fairFoot g gt gm rv k
section
variable {B:Nat} {W0:World} {g gt gm n:Nat} {pv qv:Value} {w w':World} {D:Nat → Prop} {q:FQ}
theorem HeldW.foot (h:HeldW B W0 g gt gm n pv qv w D q):∀ k,D k → B ≤ k ∧ k < w.heap.size:=by
 obtain ⟨rv,h1,h2⟩:=h.parts
 exact fun k hk=>h1.foot k ((h2 k).1 hk)
theorem HeldW.le (h:HeldW B W0 g gt gm n pv qv w D q):B ≤ w.heap.size:=by
 obtain ⟨rv,h1,h2⟩:=h.parts
 have:=h1.cells.lt
 have:=h1.le.1
 omega
theorem HeldW.but {S:Nat → Prop} (h:HeldW B W0 g gt gm n pv qv w D q) (hb:But S w w') (hs:∀ k,D k → ¬ S k) (hB:∀ k,S k → B ≤ k):HeldW B W0 g gt gm n pv qv w' D q:=by
 obtain ⟨rv,h1,h2⟩:=h.parts
 exact ⟨h.env.trans (hb.below h.le hB),rv,h1.but hb (fun k hk=>hs k ((h2 k).2 hk)),h2⟩
theorem HeldW.later (h:HeldW B W0 g gt gm n pv qv w D q) (hb:Below w.heap.size w w'):HeldW B W0 g gt gm n pv qv w' D q:=h.but (S:=fun _=>False) (.ofBelow hb) (fun _ _ h=>h) (fun _ h=>h.elim)
theorem HeldW.alloc (h:HeldW B W0 g gt gm n pv qv w D q) (o:Obj):HeldW B W0 g gt gm n pv qv (w.alloc o) D q:=h.later ((Below.refl _ _).alloc (Nat.le_refl _) _)
theorem fairMem (B:Nat) (W0:World) (g gt gm n:Nat) (pv qv:Value):QueMem (HeldW B W0 g gt gm n pv qv) B:=⟨fun _ _ _ h=>h.foot,fun _ _ _ _ _ h hb hs hB=>h.but hb hs hB⟩
theorem HeldW.leaves {rv rv':Value} {q':FQ} (h:HeldW B W0 g gt gm n pv qv w D q) (hD:∀ k,D k ↔ fairFoot g gt gm rv k) (hbut:But D w w') (hat:FairAt B g gt gm n pv qv w' rv' q') (hnew:∀ k,rv'.ownBlock=some k → rv.ownBlock=some k ∨ w.heap.size ≤ k):QueLeft (HeldW B W0 g gt gm n pv qv) w w' D q':=
 ⟨fairFoot g gt gm rv',⟨h.env.trans (hbut.below h.le fun k hk=>(h.foot k hk).1),rv',hat,fun _=>Iff.rfl⟩,hbut,fun k hk=>by
  rcases hk with hk | hk | hk | hk
  · exact .inl ((hD k).2 (.inl hk))
  · exact .inl ((hD k).2 (.inr (.inl hk)))
  · exact .inl ((hD k).2 (.inr (.inr (.inl hk))))
  ·
   rcases hnew k hk with h' | h'
   · exact .inl ((hD k).2 (.inr (.inr (.inr h'))))
   · exact .inr h'⟩
end
end Go.Proofs.YtipdclphpkgceaaGreatDoor
