import Derived.Test.YtejlihcdfffafaaGreatDoorP35
import Derived.Test.YtejlihcdfffafaaGreatDoorP20
set_option maxHeartbeats 4000000
set_option maxRecDepth 100000
namespace Go.Proofs.YtejlihcdfffafaaGreatDoor
open Go.RowKit
theorem dQ (t:Addr)(w:World):Calls Tryz.prog 154 #[.nilIface,.iface 211 (.pointer (some t))] w fun h w'=>h=.returned (.bool false)/\w'=w:=by
 go_in
 go_wp2
 go_ret;exact⟨rfl,rfl⟩
theorem SH (n:Nat)(I:n<=1000)(w':World):(Instr.makeSlice 42 (.int .i64 n) (.int .i64 n)).run Tryz.prog w'=.ok (.slice (some ⟨w'.heap.size,0,none⟩) n n) (w'.alloc (.cells (madeCells #[.int .i64 0,.int .i64 0,.int .i64 0] (n*3)) 50)):=by
 obtain⟨D,H,E,z,h⟩:=vL Tryz.infoPkt;have:=yW (P:=Tryz.prog) w' 42 50 D (.agg #[.int .i64 0,.int .i64 0,.int .i64 0]) Tryz.underlying42 H E .i64 .i64 n n (by omega) (by omega) (by rw[h];omega) (by omega);simpa[z,Value.cells]using this
def Kw (xs:Nat->Pk):Nat->Pk
 | 0=>⟨0,0,0⟩
 | i+1=>xs i
def upTo (L:List Nat)(i k:Nat):Nat:=if k<i then L.getD k 0+1 else 0
theorem fG (L:List Nat){i h:Nat}(D:L[i]? = some h):(fun k=>if k=i then h+1 else upTo L i k)=upTo L (i+1):=by
 funext k
 unfold upTo;by_cases e:k=i
 · subst e;rw[if_pos rfl,if_pos (by omega)];simp[List.getD,D]
 by_cases z:k<i
 · rw[if_neg e,if_pos z,if_pos (by omega)]
 rw[if_neg e,if_neg z,if_neg (by omega)]
theorem WE (n j:Nat)(z:j<n):(madeCells #[.int .i64 0,.int .i64 0,.int .i64 0] n)[j]? = some (.int .i64 0):=by
 rw[xX (by rw[size_madeCells];exact z)];simp only[madeCells,Array.getElem_map,Array.getElem_range];have:j%3=0\/j%3=1\/j%3=2:=by omega
 have e:(#[Value.int .i64 0,.int .i64 0,.int .i64 0]:Array Value).size=3:=rfl;rw[e];rcases this with h|h|h <;> rw[h] <;> rfl
theorem cO (xs:Nat->Pk)(L:List Nat)(w:World)(n:Nat):F5 (w.alloc (.cells (madeCells #[.int .i64 0,.int .i64 0,.int .i64 0] (n*3)) 50)) w.heap.size 0 n (Kw xs) (upTo L 0):=by
 have key:∀ j,j<n*3->(w.alloc (.cells (madeCells #[.int .i64 0,.int .i64 0,.int .i64 0] (n*3)) 50)).cell? ⟨w.heap.size,j,none⟩=some (.int .i64 0):=fun j z=>by
  rw[qO _ _ _ _ rfl];exact WE _ _ z
 refine⟨by simp,fun i h=>?_,fun i h=>?_,fun i h=>?_,fun j=>by simp⟩
 · rw[vC];exact key _ (by omega)
 · rw[vC];exact key _ (by omega)
 rw[vC];exact key _ (by omega)
def I9 (n:Nat)(xs:Nat->Pk)(out:List Pk)(h:Nat):Pk:=if h<n then xs h else out.getD (h-n) ⟨0,0,0⟩
def over (n:Nat)(L:List Nat):Nat->Nat->Nat
 | 0=>fun k=>k
 | i+1=>fun k=>if k=L.getD i 0 then n+i else over n L i k
theorem Wz (n:Nat)(L:List Nat){k:Nat}:∀ i,i<=L.length->k ∉ L->over n L i k=k
 | 0,_,_=>rfl
 | i+1,D,h=>by
  have e:L[i]? = some L[i]:=qE (by omega);simp only[over,List.getD,e,Option.getD_some];rw[if_neg (fun z=>h (by rw[z];exact xQ _))];exact Wz n L i (by omega) h
theorem YZ (n:Nat){L:List Nat}(H:L.Pairwise (·<·)){r k:Nat}(h:L[r]? = some k):∀ i,i<=L.length->r<i->over n L i k=n+r
 | 0,_,E=>absurd E (vR _)
 | i+1,J,E=>by
  have e:L[i]? = some L[i]:=qE (by omega);have D:L[r]'(Af h)=k:=Option.some.inj ((qE (Af h)).symm.trans h);simp only[over,List.getD,e,Option.getD_some];rcases qC r i with z|z
  · have I:=xC.1 H r i (Af h) (by omega) z;rw[D]at I;rw[if_neg (by omega)];exact YZ n H h i (by omega) z
  obtain rfl:r=i:=by omega
  rw[D,if_pos rfl]
def Pg (b z n:Nat)(xs:Nat->Pk)(ps:List Pk)(f:Nat)(ls:lI)(w:World)(e:Ending)(w':World):Prop:=
 But (fun k=>k=b) w w' /\ ((∃ s h,shape ls (Bi ps f n)=some s /\ e=.returned (.int .i64 (n:Int)) /\ F5 w' b z n h (fun i=>i) /\ (∀ (r i:Nat),(AO ps f n)[r]? = some i -> s.out[r]? = some (h i)) /\ (∀ i,i < n -> i ∉ AO ps f n -> h i=xs i)) \/
  (∃ (r i:Nat) (p:Pk) (s:Sh),(AO ps f n)[r]? = some i /\ (Bi ps f n)[r]? = some p /\ shape ls ((Bi ps f n).take r)=some s /\ CR s p=none /\ e=.returned (.int .i64 (i:Int)) /\ F5 w' b z n xs (fun i=>i)))
theorem Rv (la:oA)(lcap:Nat)(ls:lI)(b off n pcap:Nat)(xs:Nat->Pk)(ps:List Pk)(f:Nat)(w:World)(ad:Nat->Addr)(he:A8 w ad)(hl:AQ w la ls)(hk:Ak ls)(h:F5 w b off n xs (fun i=>i))(hps:ps.length=n)(ho:Al ps)
  (hnum:∀ i,i<n->((xs i).flow==(f:Int))=(Ag ps i==f)) (hown:∀(r i:Nat),(AO ps f n)[r]? = some i->(Bi ps f n)[r]? = some (xs i)) :
  Calls Tryz.prog 127 #[.slice la ls.length lcap,.slice (some ⟨b,off,none⟩) n pcap,.int .i64 f] w fun e w'=>Pg b off n xs ps f ls w e w':=by
 have hn:n<=300:=by rw[<- hps];exact ho.few
 have hlenL:(AO ps f n).length<=n:=by unfold AO;exact qI (List.length_filter_le _ _) (by simp)
 have hown2:=Es ho f ps.length lr;have hok:=(N7 ho f ps.length lr).1;rw[hps]at hown2 hok;have HNu:=(show Hid (Calls Tryz.prog 152 #[.slice (some ⟨b,off,none⟩) n pcap,.int .i64 f] w fun e w'=>∃ v,e=.returned v/\w'.ownsRow w.heap.size 3 1 v (AO ps f n).length (ints (Ai (AO ps f n)))/\zW w w')from Q8 b off n pcap xs ps f w h hn hnum)
 have HE:Hid (A8 w ad):=he;have HL:Hid (AQ w la ls/\Ak ls):=⟨hl,hk⟩
 have HR:Hid (F5 w b off n xs (fun i=>i)):=h;have HO:Hid (Al (Bi ps f n)):=hok;have HOw:Hid (∀(r i:Nat),(AO ps f n)[r]? = some i->(Bi ps f n)[r]? = some (xs i)):=hown;have HOl:Hid ((Bi ps f n).length=(AO ps f n).length):=hown2.1;have HIn:Hid (∀ i,i∈AO ps f n->i<n):=fun i hi=>(Lx.1 hi).1
 have HPw:Hid ((AO ps f n).Pairwise (·<·)):=Si f n;obtain⟨L,hL⟩:=ex (AO ps f n);obtain⟨own,hO⟩:=ex (Bi ps f n);have HEq:Hid (AO ps f n=L/\Bi ps f n=own):=⟨hL,hO⟩
 rw[hL]at HNu HOw HOl HIn HPw hlenL;rw[hO]at HO HOw HOl;clear he hl hk h hps ho hnum hown hown2 hok hL hO;obtain⟨m,hm⟩:=ex L.length;have HM:Hid (L.length=m):=hm;rw[hm]at HNu hlenL;have hmk:=SH m (by omega);clear hm;go_in
 go_wp2_with fail;refine HNu.o.mono ?_
 rintro e w1 ⟨v,rfl,hrow,hb1⟩;have hal:(Ai L).length=m:=by rw[<- HM.o];simp[Ai]
 rw[<- hal]at hrow;obtain⟨na,ncap,rfl,hnc,hnm,hln,hnB⟩:=Iq hrow;have HnB:Hid (∀ ad,na=some ad->b≠ad.block):=fun ad' hna=>by subst hna;have h7:=(Aq hrow rfl).1;have h8:=HR.o.lt;omega
 rw[hal]at hnc ⊢;have HB1:Hid (zW w w1):=hb1;have HLn:Hid (AR w1 na (Ai L)):=hln;have HR1:Hid (F5 w1 b off n xs (fun i=>i)):=HR.o.later hb1;clear hrow hb1 hln hal hnm;have hb2:zW w1 (w1.alloc (.cells (madeCells #[.int .i64 0,.int .i64 0,.int .i64 0] (m*3)) 50)):=ba;have hrm:=cO xs L w1 m;obtain⟨W2,hW2⟩:=ex (w1.alloc (.cells (madeCells #[.int .i64 0,.int .i64 0,.int .i64 0] (m*3)) 50));have HW2:Hid (w1.alloc (.cells (madeCells #[.int .i64 0,.int .i64 0,.int .i64 0] (m*3)) 50)=W2):=hW2;rw[hW2]at hb2 hrm;obtain⟨O,hOO⟩:=ex w1.heap.size;have HOO:Hid (w1.heap.size=O):=hOO;rw[hOO]at hrm;have HB2:Hid (zW w1 W2):=hb2;have HF0:Hid (F5 W2 O 0 m (Kw xs) (upTo L 0)):=hrm;have hbO:b≠O:=by rw[<- HOO.o];have:=HR1.o.lt;omega
 clear hb2 hrm hW2 hOO;go_wp2_with fail;rw[HW2.o,HOO.o];clear hmk HW2;go_wp2_with fail;go_loopg [24] m (fun gk iv wr=>∃ k:Nat,iv=.int .i64 k/\k<=m/\m-k<=gk/\Hid (F5 wr O 0 m (Kw xs) (upTo L k)/\But (fun z=>z=O) W2 wr))
 case atStart=>exact⟨0,rfl,qR _,lr,HF0.o,But.refl _ _⟩
 case round=>
  clear HF0;obtain⟨k,rfl,hkm,hgk,H⟩:=hrel;have HbO:Hid (∀{g o:Nat}{u:Value},w1.cell? ⟨g,o,none⟩=some u->wr.cell? ⟨g,o,none⟩=some u):=fun {g o u} hu=>by
   have hu2:=j7 HB2.o hu;rw[H.o.2.cell (p:=⟨g,o,none⟩) (Cg hu2) (by show ¬g=O;rw[<- HOO.o];have:=Cg hu;simp at this;omega)];exact hu2
  by_cases hlt:k<m
  ·
   have hltz:(k:Int)<(m:Int):=by omega
   obtain⟨z,hz,-⟩:=Ab L k (by rw[HM.o];exact hlt);have hzn:z<n:=HIn.o z (q9 hz);have hznz:(z:Int)<(n:Int):=by omega
   obtain⟨nb,noff,rfl,-,hnc2⟩:=HLn.o.place (by simp[Ai];have:=HM.o;omega);have cn:=HbO.o (hnc2 k (z:Int) (by simp[Ai,hz]));have p0:wr.cell? ⟨b,off+z*3,none⟩=some (.int .i64 (xs z).flow):=HbO.o (HR1.o.c0 z hzn);have p1:wr.cell? ⟨b,off+z*3+1,none⟩=some (.int .i64 (xs z).size):=HbO.o (HR1.o.c1 z hzn);have p2:wr.cell? ⟨b,off+z*3+2,none⟩=some (.int .i64 (xs z).tick):=HbO.o (HR1.o.c2 z hzn);have q0:=H.o.1.c0 k hlt;have q1:=H.o.1.c1 k hlt;have q2:=H.o.1.c2 k hlt;rw[vC]at q0 q1 q2;have f0:=H.o.1.fz (k*3);have f1:=H.o.1.fz (k*3+1);have f2:=H.o.1.fz (k*3+2);have H2:∃ V,Hid (DD wr O (k * 3) (xs z)=V) /\ Hid (F5 V O 0 m (Kw xs) (upTo L (k+1)) /\ But (fun z=>z=O) W2 V):=⟨_,rfl,by
    have:=H.o.1.put hlt (z+1);rw[vC]at this;have e:=fG L hz;rw[e]at this;exact this,Np H.o.2 rfl _ _⟩
   obtain⟨V,HV,HVS⟩:=H2;unfold DD at HV;generalize (xs z).flow=u0 at p0 HV;generalize (xs z).size=u1 at p1 HV;generalize (xs z).tick=u2 at p2 HV;generalize (Kw xs (upTo L k k)).flow=v0 at q0;generalize (Kw xs (upTo L k k)).size=v1 at q1;generalize (Kw xs (upTo L k k)).tick=v2 at q2;clear hnc2 H HbO hz;go_wp2_with fail;rw[HV.o];clear HV p0 p1 p2 q0 q1 q2 f0 f1 f2 cn;go_wp2
   go_roundg (m-(k+1))
   case measure=>omega
   case rel=>exact⟨k+1,by go_num,hlt,lr,HVS⟩
  have hltz:¬(k:Int)<(m:Int):=by omega
  obtain rfl:k=m:=by omega
  have HLO:Hid (Aw wr (some ⟨O,0,none⟩) own):=by
   refine .inr ⟨O,0,rfl,H.o.1.lt,fun i p hi=>?_⟩;have him:i<k:=by have:=Af hi;rw[HOl.o,HM.o]at this;exact this
   obtain⟨z,hz,-⟩:=Ab L i (by rw[HM.o];exact him);have e1:=HOw.o i z hz;rw[hi]at e1;have e2:Kw xs (upTo L k i)=p:=by
    unfold upTo;rw[if_pos him];simp[List.getD,hz,Kw,Option.some.inj e1]
   have c0:=H.o.1.c0 i him;have c1:=H.o.1.c1 i him;have c2:=H.o.1.c2 i him;rw[e2]at c0 c1 c2;exact⟨c0,c1,c2⟩
  have HBw:Hid (zW w wr):=by
   have h12:=HB1.o.tr HB2.o;exact h12.trans (H.o.2.below h12.size fun z hz=>by rw[hz,<- HOO.o];exact HB1.o.size)
  have HLn2:Hid (AR wr na (Ai L)):=by
   rcases HLn.o with h|⟨nb,noff,rfl,h1,h2⟩
   · exact .inl h
   exact .inr ⟨nb,noff,rfl,qD h1 (qI HB2.o.size H.o.2.size),fun i x hi=>HbO.o (h2 i x hi)⟩
  have HRw:Hid (F5 wr b off n xs (fun i=>i)):=by
   refine⟨qD HR1.o.lt (qI HB2.o.size H.o.2.size),fun i hi=>HbO.o (HR1.o.c0 i hi),fun i hi=>HbO.o (HR1.o.c1 i hi),fun i hi=>HbO.o (HR1.o.c2 i hi),fun j=>?_⟩;rw[H.o.2.frozen (p:=⟨b,j,none⟩) (qD HR1.o.lt HB2.o.size) hbO,xY (w:=w1) (HB2.o.block b HR1.o.lt)];exact HR1.o.fz j
  have HSh:=(show Hid (Calls Tryz.prog 153 #[.slice la ls.length lcap,.slice (some ⟨O,0,none⟩) k k] wr fun e w'=>PN ls own ad wr e w') from by
   have:=R4 la lcap ls (some ⟨O,0,none⟩) k own wr ad (HE.o.below HBw.o).four (HL.o.1.below HBw.o) HL.o.2 HLO.o HO.o;rwa [HOl.o,HM.o] at this)
  clear HbO H HLO HLn HR1 HB2 HB1;go_wp2_with fail;refine HSh.o.mono ?_
  rintro e w3 ⟨hb3,⟨s,D,hs,rfl,hD,hlD⟩|⟨j,p,s,F,hj,hs,hst,rfl,hF0,hF1⟩⟩
  ·
   rw[HOl.o.trans HM.o];have hb4:zW w3 (w3.alloc (.cells #[.pointer none] 135)):=ba;have hb34:=hb3.tr hb4;have HB4:Hid (zW wr (w3.alloc (.cells #[.pointer none] 135))):=hb34;have HlD:Hid (Aw (w3.alloc (.cells #[.pointer none] 135)) (some ⟨D,0,none⟩) s.out):=hlD.below hb4;have HDb:Hid (b≠D):=by show b≠D;have:=HRw.o.lt;omega
   have HS:Hid (shape ls own=some s/\s.out.length=k):=⟨hs,by rw[(GG HL.o.2 _ s HO.o hs).len,HOl.o,HM.o]⟩
   have HAs:Hid (∀ W,Calls Tryz.prog 154 #[.nilIface,.iface 211 (.pointer (some ⟨w3.heap.size,0,none⟩))] W fun ev w'=>ev=.returned (.bool false)/\w'=W):=fun W=>dQ _ W
   clear hb3 hb4 hb34 hlD hD hs HSh;go_wp2_with fail;refine(HAs.o _).mono ?_
   rintro e w5 ⟨rfl,rfl⟩;obtain⟨W4,hW4⟩:=ex (w3.alloc (.cells #[.pointer none] 135));rw[hW4]at HB4 HlD ⊢;obtain⟨fa,hfa⟩:=ex w3.heap.size;rw[hfa];clear hW4 hfa HAs;obtain⟨W0,hW0⟩:∃ W,W=wr:=⟨_,rfl⟩
   subst hW0;obtain⟨gO,hgO⟩:∃ z,z=gk:=⟨_,rfl⟩
   subst hgO;go_wp2_with fail;go_loopg [55] k (fun gk2 iv wr=>∃ q:Nat,iv=.int .i64 q/\q<=k/\k-q<=gk2/\Hid (F5 wr b off n (I9 n xs s.out) (over n L q)/\But (fun z=>z=b) W4 wr))
   case atStart=>
    refine⟨0,rfl,qR _,lr,?_,But.refl _ _⟩;have h4:=HRw.o.later HB4.o;have e:∀ i,i<n->I9 n xs s.out (over n L 0 i)=xs i:=fun i hi=>by simp[I9,over,hi]
    exact⟨h4.lt,fun i hi=>by rw[e i hi];exact h4.c0 i hi,fun i hi=>by rw[e i hi];exact h4.c1 i hi,fun i hi=>by rw[e i hi];exact h4.c2 i hi,h4.fz⟩
   case round=>
    obtain⟨q,rfl,hqk,hgk2,H⟩:=hrel;have HbO:Hid (∀{g o:Nat}{u:Value},b≠g->W4.cell? ⟨g,o,none⟩=some u->wr.cell? ⟨g,o,none⟩=some u):=fun {g o u} hg hu=>by
     rw[H.o.2.cell (p:=⟨g,o,none⟩) (Cg hu) (fun e=>hg e.symm)];exact hu
    by_cases hlt:q<k
    ·
     have hltz2:(q:Int)<(k:Int):=by omega
     obtain⟨z,hz,-⟩:=Ab L q (by rw[HM.o];exact hlt);have hzn:z<n:=HIn.o z (q9 hz);have hznz:(z:Int)<(n:Int):=by omega
     obtain⟨o,ho',-⟩:=Ab s.out q (by rw[HS.o.2];exact hlt);obtain⟨nb,noff,rfl,-,hnc2⟩:=HLn2.o.place (by simp[Ai];have:=HM.o;omega);have cn:=HbO.o (HnB.o _ rfl) (j7 HB4.o (hnc2 q (z:Int) (by simp[Ai,hz])));obtain⟨D',off',hD',-,hcl⟩:=HlD.o.place (by rw[HS.o.2];omega);injection hD' with hD'
     injection hD' with hD1 hD2
     subst hD1;subst hD2;obtain⟨d0,d1,d2⟩:=hcl q o ho';have d0:=HbO.o HDb.o d0;have d1:=HbO.o HDb.o d1;have d2:=HbO.o HDb.o d2;rw[vC]at d0 d1 d2;obtain⟨o0,o1,o2⟩:=o;have hbx:zW wr (wr.alloc (.cells #[.int .i64 o0,.int .i64 o1,.int .i64 o2] 50)):=ba;have HRx:=H.o.1.later hbx;have HBx:=H.o.2.trans (.ofBelow hbx);have x0:(wr.alloc (.cells #[.int .i64 o0,.int .i64 o1,.int .i64 o2] 50)).cell? ⟨wr.heap.size,0,none⟩=some (.int .i64 o0):=by simp
     have x1:(wr.alloc (.cells #[.int .i64 o0,.int .i64 o1,.int .i64 o2] 50)).cell? ⟨wr.heap.size,1,none⟩=some (.int .i64 o1):=by simp
     have x2:(wr.alloc (.cells #[.int .i64 o0,.int .i64 o1,.int .i64 o2] 50)).cell? ⟨wr.heap.size,2,none⟩=some (.int .i64 o2):=by simp
     have cnx:=j7 hbx cn;obtain⟨X,hX⟩:=ex (wr.alloc (.cells #[.int .i64 o0,.int .i64 o1,.int .i64 o2] 50));have HX:Hid (wr.alloc (.cells #[.int .i64 o0,.int .i64 o1,.int .i64 o2] 50)=X):=hX;rw[hX]at HRx HBx x0 x1 x2 cnx;have p0:=HRx.c0 z hzn;have p1:=HRx.c1 z hzn;have p2:=HRx.c2 z hzn;have f0:=HRx.fz (off+z*3);have f1:=HRx.fz (off+z*3+1);have f2:=HRx.fz (off+z*3+2);have H2:∃ V,Hid ((DD X b (off+z * 3) ⟨o0,o1,o2⟩).drew=V) /\ Hid (F5 V b off n (I9 n xs s.out) (over n L (q+1)) /\ But (fun z=>z=b) W4 V):=⟨_,rfl,by
      have h5:=HRx.put hzn (n+q);have e1:I9 n xs s.out (n+q)=⟨o0,o1,o2⟩:=by
       unfold I9;rw[if_neg (by omega),Nat.add_sub_cancel_left];simp[List.getD,ho']
      have e2:(fun j=>if j=z then n+q else over n L q j)=over n L (q+1):=by
       funext j
       simp[over,List.getD,hz]
      rw[e1,e2]at h5;exact h5.later (qL br 1),(Np HBx rfl _ _).drew⟩
     obtain⟨V,HV,HVS⟩:=H2;unfold DD at HV;generalize (I9 n xs s.out (over n L q z)).flow=v0 at p0;generalize (I9 n xs s.out (over n L q z)).size=v1 at p1;generalize (I9 n xs s.out (over n L q z)).tick=v2 at p2;obtain⟨xb,hxb⟩:=ex wr.heap.size;have HXB:Hid (wr.heap.size=xb):=hxb;rw[hxb]at x0 x1 x2;clear hnc2 hcl H HbO hz ho' HRx HBx hbx hX hxb;go_wp2_with fail;rw[HX.o,HXB.o];clear d0 d1 d2 cn;go_wp2
     go_region;rw[HV.o];clear HV p0 p1 p2 f0 f1 f2 x0 x1 x2 cnx;go_wp2
     go_roundg (k-(q+1))
     case measure=>omega
     case rel=>exact⟨q+1,by go_num,hlt,lr,HVS⟩
    have hltz2:¬(q:Int)<(k:Int):=by omega
    obtain rfl:q=k:=by omega
    have HEnd:Hid (Pg b off n xs ps f ls w (.returned (.int .i64 n)) wr):=by
     have hbt:But (fun z=>z=b) w wr:=(But.ofBelow (HBw.o.tr HB4.o)).trans H.o.2;refine⟨hbt,.inl ⟨s,fun i=>I9 n xs s.out (over n L q i),by rw[HEq.o.2];exact HS.o.1,rfl,⟨H.o.1.lt,H.o.1.c0,H.o.1.c1,H.o.1.c2,H.o.1.fz⟩,fun r i hr=>?_,fun i hi hni=>?_⟩⟩
     ·
      rw[HEq.o.1]at hr;have hrl:=Af hr;rw[HM.o]at hrl;obtain⟨o,ho',-⟩:=Ab s.out r (by rw[HS.o.2];exact hrl);show s.out[r]? = some (I9 n xs s.out (over n L q i))
      rw[YZ n HPw.o hr q (by rw[HM.o];exact lr) hrl];unfold I9;rw[if_neg (by omega),Nat.add_sub_cancel_left];simp[List.getD,ho']
     rw[HEq.o.1]at hni;show I9 n xs s.out (over n L q i)=xs i
     rw[Wz n L q (by rw[HM.o];exact lr) hni];simp[I9,hi]
    clear H HbO;go_wp2
    go_ret;exact HEnd.o
  have hb4:zW w3 (w3.alloc (.cells #[.pointer none] 135)):=ba;have hb34:=hb3.tr hb4;have hb04:zW w (w3.alloc (.cells #[.pointer none] 135)):=HBw.o.tr hb34;have HB4:Hid (zW w3 (w3.alloc (.cells #[.pointer none] 135))/\zW wr w3):=⟨hb4,hb3⟩
  have hjk:j<k:=by have:=Af hj;rw[HOl.o,HM.o]at this;exact this
  obtain⟨z,hz,-⟩:=Ab L j (by rw[HM.o];exact hjk);obtain⟨nb,noff,rfl,-,hnc2⟩:=HLn2.o.place (by simp[Ai];have:=HM.o;omega);have cn3:=j7 hb3 (hnc2 j (z:Int) (by simp[Ai,hz]));have HTy:Hid ((w3.alloc (.cells #[.pointer none] 135)).cell? ⟨10,0,none⟩=some (.iface 189 (.agg #[.pointer (some ⟨13,34,none⟩)]))):=(HE.o.below hb04).typ;have HSt:Hid (own[j]? = some p/\shape ls (own.take j)=some s/\CR s p=none/\L[j]? = some z):=⟨hj,hs,hst,hz⟩
  have hjz:(j:Int)<(k:Int):=by omega
  clear hb3 hb4 hb34 hb04 hj hs hst hz hnc2 HSh hF1;go_wp2_with fail;refine(gT ⟨F,0,none⟩ ⟨w3.heap.size,0,none⟩ (.pointer none) _ HTy.o (by simp) (by simp)).mono ?_
  rintro e w5 ⟨rfl,hw5⟩;have hb5:zW w3 w5:=by
   rw[hw5];exact((((HB4.o.1.alloc (by simp) _).alloc (by simp;omega) _).alloc (by simp;omega) _).alloc (by simp;omega) _).setCell lr _
  have ht5:w5.cell? ⟨w3.heap.size,0,none⟩=some (.pointer (some ⟨F,0,none⟩)):=by
   rw[hw5];exact eQ w3 _ _ _ _ _
  have cn5:=j7 hb5 cn3;have hF5:=j7 hb5 hF0;have HEnd:Hid (Pg b off n xs ps f ls w (.returned (.int .i64 z)) w5):=by
   have h35:=HB4.o.2.tr hb5;refine⟨.ofBelow (HBw.o.tr h35),.inr ⟨j,z,p,s,by rw[HEq.o.1];exact HSt.o.2.2.2,by rw[HEq.o.2];exact HSt.o.1,by rw[HEq.o.2];exact HSt.o.2.1,HSt.o.2.2.1,rfl,HRw.o.later h35⟩⟩
  obtain⟨fa,hfa⟩:=ex w3.heap.size;rw[hfa]at ht5 ⊢;clear hw5 hb5 HTy cn3 hF0 hfa;go_wp2
  go_ret;exact HEnd.o
theorem PY (z:oA)(h:Nat)(f:Int)(w:World):Calls Tryz.prog 152 #[.slice z 0 h,.int .i64 f] w fun e w'=>e=.returned (.slice none 0 0)/\w'=w:=by
 go_in
 go_wp2_with fail;refine xG 1 ?_
 rw[xL];go_wp2
 go_ret;exact⟨rfl,rfl⟩
theorem Ps (D:oA)(z:Nat)(h:Value)(w:World):Calls Tryz.prog 187 #[.slice D 0 z,.int .i64 0,.int .i64 0,h] w fun e w'=>e=.returned (.tuple #[])/\w'=w:=by
 go_in
 go_wp2_with fail;refine xG 1 ?_
 rw[xL];go_wp2
 go_end0;exact⟨rfl,rfl⟩
theorem U8 (D:oA)(E:Nat)(z:Value)(w:World):Calls Tryz.prog 155 #[.slice D 0 E,.int .i64 0,z] w fun e w'=>e=.returned (.tuple #[])/\w'=w:=by
 have H:Hid (∀ h,Calls Tryz.prog 187 #[.slice D 0 E,.int .i64 0,.int .i64 0,z] h fun e w'=>e=.returned (.tuple #[])/\w'=h):=fun h=>Ps D E z h
 go_in
 go_wp2_with fail;refine xG 1 ?_
 rw[xL];go_wp2_with fail;refine(H.o _).mono ?_
 rintro e I ⟨rfl,rfl⟩;go_wp2_with fail;refine xG 1 ?_
 rw[xL];go_wp2
 go_end0;exact⟨rfl,rfl⟩
theorem OU (D:oA)(E:Nat)(z:Value)(w:World):Calls Tryz.prog 128 #[.slice D 0 E,z] w fun e w'=>e=.returned (.tuple #[])/\w'=w:=by
 have H:Hid (∀ h,Calls Tryz.prog 155 #[.slice D 0 E,.int .i64 0,z] h fun e w'=>e=.returned (.tuple #[])/\w'=h):=fun h=>U8 D E z h
 go_in
 go_wp2_with fail;refine(H.o _).mono ?_
 rintro e I ⟨rfl,rfl⟩;go_wp2
 go_end0;exact⟨rfl,rfl⟩
theorem Qw (D:oA)(I:Nat)(ls:lI)(H:oA)(K:Nat)(f:Int)(w:World)(E:Nat->Addr)(W:A8 w E)(N:AQ w D ls)(O:Ak ls):Calls Tryz.prog 127 #[.slice D ls.length I,.slice H 0 K,.int .i64 f] w fun e w'=>e=.returned (.int .i64 0)/\zW w w':=by
 have Z:Hid (∀ h,Calls Tryz.prog 152 #[.slice H 0 K,.int .i64 f] h fun e w'=>e=.returned (.slice none 0 0)/\w'=h):=fun h=>PY H K f h
 have ac:=SH 0 (by omega);have z:zW w (w.alloc (.cells (madeCells #[.int .i64 0,.int .i64 0,.int .i64 0] (0*3)) 50)):=ba;have Q:=qX z;have J:Hid (Calls Tryz.prog 153 #[.slice D ls.length I,.slice (some ⟨w.heap.size,0,none⟩) 0 0] (w.alloc (.cells (madeCells #[.int .i64 0,.int .i64 0,.int .i64 0] (0*3)) 50)) fun e w'=>PN ls [] E (w.alloc (.cells (madeCells #[.int .i64 0,.int .i64 0,.int .i64 0] (0*3)) 50)) e w'):=R4 D I ls (some ⟨w.heap.size,0,none⟩) 0 [] _ E (W.below z).four (N.below z) O (.inl rfl) FD;clear W N O z;simp only[Int.ofNat_zero,Nat.zero_mul]at ac Q J;go_in
 go_wp2_with fail;refine(Z.o _).mono ?_
 rintro e ad ⟨rfl,rfl⟩;go_wp2_with fail;refine xG 1 ?_
 rw[xL];go_wp2_with fail;refine J.o.mono ?_
 rintro e U ⟨Y,⟨s,am,-,rfl,-,-⟩|⟨j,p,s,F,ab,-⟩⟩
 ·
  have ai:Hid (zW ad (U.alloc (.cells #[.pointer none] 135))):=by
   have V:=Q.o.tr Y;exact V.alloc V.size _
  have al:Hid (∀ h,Calls Tryz.prog 154 #[.nilIface,.iface 211 (.pointer (some ⟨U.heap.size,0,none⟩))] h fun aj w'=>aj=.returned (.bool false)/\w'=h):=fun h=>dQ _ h
  clear Y J;go_wp2_with fail;refine(al.o _).mono ?_
  rintro e an ⟨rfl,rfl⟩;go_wp2_with fail;refine xG 1 ?_
  rw[xL];go_wp2
  go_ret;exact⟨rfl,ai.o⟩
 simp at ab
def EM (cs:List lI)(ps:List Pk)(E:Nat->Addr)(w:World)(e:Ending)(w':World):Prop:=
 zW w w' /\ ((∃ (i F:Nat),Bg (Ae cs) ps i /\ (∀ j,j < i -> ¬ Bg (Ae cs) ps j) /\ e=.returned (.tuple #[.slice none 0 0,.iface 135 (.pointer (some ⟨F,0,none⟩))]) /\ w'.cell? ⟨F,0,none⟩=some (.int .i64 (i:Int)) /\ w'.cell? ⟨F,1,none⟩=some (.iface 308 (.pointer (some (E 3))))) \/
  (∃ z D h L,(∀ i,¬ Bg (Ae cs) ps i) /\ Shaped (Ae cs) ps h /\ Be h ps.length L /\ e=.returned (.tuple #[.slice z (Aj ps h L).length D,.nilIface]) /\ CU w' z D (Aj ps h L)))
structure ED (ps:List Pk)(f:Nat)(xs:Nat->Pk):Prop where
 flow:∀ i p,ps[i]? = some p->(xs i).flow=p.flow/\(xs i).size=p.size
 left:∀ i p,ps[i]? = some p->f<=Ag ps i->xs i=p
def Dj (n:Nat)(xs:Nat->Pk)(i:Nat):Int:=if i<n then(xs i).tick else 0
section
variable {cs:Nat → List (Int × Int)} {ps:List Pk} {f:Nat} {z:Int} {xs ys:Nat → Pk}
theorem ED.nums (z:Al ps)(E:ED ps f xs):∀ i,i<ps.length->((xs i).flow==(f:Int))=(Ag ps i==f):=fun i H=>by
 have e:ps[i]? = some ps[i]:=qE H;rw[(E.flow i _ e).1];have:=Pf z e f;by_cases h:Ag ps i=f
 · rw[yZ.2 (this.2 h),yZ.2 h]
 rw[beq_eq_false_iff_ne.2 (fun D=>h (this.1 D)),beq_eq_false_iff_ne.2 h]
theorem ED.own (h:Al ps)(E:ED ps f xs):∀(r i:Nat),(AO ps f ps.length)[r]? = some i->(Bi ps f ps.length)[r]? = some (xs i):=fun r i z=>by
 obtain⟨H,I,-,D⟩:=(Es h f ps.length lr).2 r i z;have e:ps[i]? = some ps[i]:=qE H;rw[D,e,E.left i _ e (by omega)]
theorem Yx (h:Al ps)(H:cs f=[])(D:ED ps f xs)(J:Bw cs ps f z (Dj ps.length xs)):ED ps (f+1) xs/\Bw cs ps (f+1) z (Dj ps.length xs):=by
 refine⟨⟨D.flow,fun i p I N=>D.left i p I (by omega)⟩,J.shaped h (out:=Bi ps f ps.length) (by unfold CY;rw[if_pos H]) (fun r i E=>?_) (fun _ _=>rfl)⟩;have K:=((Es h f ps.length lr).2 r i E).1;unfold Dj;rw[if_pos K,Av (D.own h r i E)]
theorem Wu (H:Al ps)(U:Ak (cs f))(Z:cs f≠[])(J:ED ps f xs)(W:Bw cs ps f z (Dj ps.length xs)){s:Sh}(N:shape (cs f) (Bi ps f ps.length)=some s)(Q:∀(r i:Nat),(AO ps f ps.length)[r]? = some i->s.out[r]? = some (ys i))(K:∀ i,i<ps.length->i ∉ AO ps f ps.length->ys i=xs i):ED ps (f+1) ys/\Bw cs ps (f+1) z (Dj ps.length ys):=by
 have Y:=(N7 H f ps.length lr).1;have V:=GG U _ s Y N;refine⟨⟨fun i p h=>?_,fun i p h ab=>?_⟩,W.shaped H (out:=s.out) (by unfold CY;rw[if_neg Z,N];rfl) (fun r i I=>?_) (fun i h=>?_)⟩
 ·
  by_cases E:i∈AO ps f ps.length
  ·
   obtain⟨r,I,e⟩:=yP E;have O:(AO ps f ps.length)[r]? = some i:=by rw[qE I,e]
   have:=V.each r _ _ (J.own H r i O) (Q r i O);rw[this.1,this.2.1];exact J.flow i p h
  rw[K i (Af h) E];exact J.flow i p h
 ·
  have E:i ∉ AO ps f ps.length:=fun E=>by have:=(Lx.1 E).2;omega
  rw[K i (Af h) E];exact J.left i p h (by omega)
 · have D:=((Es H f ps.length lr).2 r i I).1;unfold Dj;rw[if_pos D,Av (Q r i I)]
 unfold Dj;by_cases D:i<ps.length
 · rw[if_pos D,if_pos D,K i D h]
 rw[if_neg D,if_neg D]
theorem Ww (h:Al ps)(Q:cs f≠[])(D:ED ps f xs)(E:Bw cs ps f z (Dj ps.length xs)){r i:Nat}{p:Pk}{s:Sh}(H:(AO ps f ps.length)[r]? = some i)(O:(Bi ps f ps.length)[r]? = some p)(I:shape (cs f) ((Bi ps f ps.length).take r)=some s)(N:CR s p=none):ED ps (f+1) xs/\Bw cs ps (f+1) (if z<0\/(i:Int)<z then(i:Int)else z) (Dj ps.length xs):=by
 obtain⟨U,K⟩:=SB h Q H O I N;exact⟨⟨D.flow,fun j q J V=>D.left j q J (by omega)⟩,E.stuck h U K⟩
end
def Fx (n:Nat)(h:Int):Int:=if h<0 then(n:Int)else h
theorem ay {ps:List Pk}{xs:Nat->Pk}(z:∀ i p,ps[i]? = some p->(xs i).flow=p.flow/\(xs i).size=p.size){i:Nat}(h:i<ps.length):Gz ps (Dj ps.length xs) i=xs i:=by
 have e:ps[i]? = some ps[i]:=qE h;obtain⟨E,D⟩:=z i _ e;rw[Ep e,<- E,<- D];unfold Dj;rw[if_pos h]
theorem bV {w:World}{g E n:Nat}{D:Nat->Pk}{H:Nat->Nat}(h:F5 w g E n D H):Aw w (some ⟨g,E,none⟩) (((List.range n).map H).map D):=by
 refine .inr ⟨g,E,rfl,h.lt,fun i p N=>?_⟩;have z:i<n:=by have:=Af N;simpa using this
 have e:D (H i)=p:=by simpa[z]using N
 have J:=h.c0 i z;have I:=h.c1 i z;have K:=h.c2 i z;rw[e]at J I K;exact⟨J,I,K⟩
theorem YP {w:World}{B g cap:Nat}{ps:List Pk}(D:BD w B (.slice (some ⟨g,0,none⟩) ps.length cap) ps)(E:g<w.heap.size):F5 w g 0 ps.length (fun i=>ps.getD i ⟨0,0,0⟩) (fun i=>i):=by
 refine⟨E,fun i h=>?_,fun i h=>?_,fun i h=>?_,fun j=>World.ownsRow.frozenAt D j⟩
 all_goals
  have e:ps[i]? = some ps[i]:=qE h;have z:=Mm ps i ps[i] e;rw[vC,World.ownsRow.cellAt D _ (by omega)];simp only[List.getD,e,Option.getD_some]
 · exact z.1
 · exact z.2.1
 exact z.2.2
theorem Rc (a1:oA)(bl:Nat)(cs:List lI)(N:oA)(O:Nat)(w:World)(K:Nat->Addr)(aE:A8 w K)(ai:Hf w a1 cs)(W:cs.length=8)(ar:Cj cs 8)(Z:CU w N O []):Calls Tryz.prog 105 #[.slice a1 cs.length bl,.slice N 0 O] w fun e w'=>EM cs [] K w e w':=by
 have aB:=(show Hid (Calls Tryz.prog 126 #[.slice N 0 O] w fun e w'=>∃ v,e=.returned v/\BD w' w.heap.size v []/\zW w w')from LK N O [] w Z.pks (by simp) Z.none_)
 have a8:=qX aE;have bc:=qX ar;have bg:=qX W;obtain⟨b,bs,rfl,-,ac⟩:=ai.place (by omega);have bm:=qX ac;have bd:Hid (∀(z:oA)(h:Nat)(Q:World),zW w Q->h<=maxLen->(z=none->h=0)->EM cs [] K w (.returned (.tuple #[.slice z 0 h,.nilIface])) Q):=fun z h Q a5 Y be=>by
  have I:∀ i,¬Bg (Ae cs) [] i:=fun i D=>by obtain⟨p,s,Y,-⟩:=D;simp at Y
  obtain⟨al,a7⟩:=Zw (cs:=Ae cs) FD I;exact⟨a5,.inr ⟨z,h,al,[],I,a7,Be.start al,rfl,.inl rfl,qR _,Y,fun D=>⟨rfl,be D⟩⟩⟩
 rw[W];clear aE ar ai Z ac W;go_in
 go_wp2_with fail;refine aB.o.mono ?_
 rintro e bv ⟨v,rfl,ab,a0⟩;obtain⟨z,h,rfl,-,a2,-,-,ap⟩:=ab.open;have aN:Hid (h<=maxLen/\(z=none->h=0)):=⟨a2,fun D=>(ap D).2⟩
 have ao:=qX a0;simp only[vU]at *;clear ab a2 ap a0 aB;go_wp2_with fail;go_loopg [7,16] 8 (fun bj bb a6 wr=>∃ k:Nat,bb=.int .i64 0/\a6=.int .i64 k/\k<=8/\8-k<=bj/\Hid (zW w wr))
 case atStart=>exact⟨0,rfl,rfl,qR _,lr,ao⟩
 case round=>
  clear ao;obtain⟨k,rfl,rfl,bq,bt,E⟩:=hrel;by_cases av:k<8
  ·
   have a4:(k:Int)<8:=by omega
   obtain⟨ls,U,-⟩:=Ab cs k (by rw[bg.o];exact av);obtain⟨H,cap,am,aq,bh,a',-⟩:=bm.o k ls U;have a3:=j7 E.o am;have an:=qY U aq;obtain⟨n,I⟩:=ex ls.length;have aw:=qX I;rw[I]at a3;clear U am aq bh a' I;by_cases J:n=0
   ·
    have V:Hid (Calls Tryz.prog 109 #[.slice H n cap] wr fun e w'=>e=.returned (.bool true)/\w'=wr):=Eo H n cap wr true (by simp;exact J);clear J;go_wp2_with fail;refine V.o.mono ?_
    rintro e aj ⟨rfl,rfl⟩;go_wp2
    go_roundg (8-(k+1))
    case measure=>omega
    case rel=>exact⟨k+1,rfl,by go_num,by omega,lr,E⟩
   have V:Hid (Calls Tryz.prog 109 #[.slice H n cap] wr fun e w'=>e=.returned (.bool false)/\w'=wr):=Eo H n cap wr false (by simp;omega);have ad:Ak ls:=by
    rcases bc.o k ls av an.o.1 with D|D
    · exact absurd (by rw[<- aw.o,D];rfl) J
    exact D
   have a9:Hid (qW 127 #[.slice H n cap,.slice z 0 h,.int .i64 k] wr (.int .i64 0)):=by
    have:=Qw H cap ls z h (k:Int) wr K (a8.o.below E.o) (an.o.2.below E.o) ad;rwa[aw.o]at this
   clear ad J;go_wp2_with fail;refine V.o.mono ?_
   rintro e aj ⟨rfl,rfl⟩;go_wp2_with fail;refine a9.o.mono ?_
   rintro e bw ⟨rfl,aS⟩;have bk:=qX (E.o.tr aS);clear aS;go_wp2
   go_roundg (8-(k+1))
   case measure=>omega
   case rel=>exact⟨k+1,rfl,by go_num,by omega,lr,bk⟩
  have a4:¬(k:Int)<8:=by omega
  have bp:Hid (Calls Tryz.prog 128 #[.slice z 0 h,.func (.func 129) #[] #[]] wr fun e w'=>e=.returned (.tuple #[])/\w'=wr):=OU z h _ wr;go_wp2_with fail;refine bp.o.mono ?_
  rintro e aj ⟨rfl,rfl⟩;go_wp2
  go_ret2;exact bd.o z h _ E.o aN.o.1 aN.o.2
theorem RH (b8:oA)(cG:Nat)(cs:List lI)(aq:oA)(aw:Nat)(ps:List Pk)(w:World)(W:Nat->Addr)(b6:A8 w W)(bt:Hf w b8 cs)(a5:cs.length=8)(b4:Cj cs 8)(a1:CU w aq aw ps)(a7:Al ps)(b5:0<ps.length):Calls Tryz.prog 105 #[.slice b8 cs.length cG,.slice aq ps.length aw] w fun e w'=>EM cs ps W w e w':=by
 have cF:=a7.few;have bb:=(show Hid (Calls Tryz.prog 126 #[.slice aq ps.length aw] w fun e w'=>∃ v,e=.returned v/\BD w' w.heap.size v ps/\zW w w')from LK aq aw ps w a1.pks (by omega) a1.none_)
 have ce:=qX b6;have cy:=qX b4;have ct:=qX a5;have Q:=qX a7;obtain⟨b,cV,rfl,-,bv⟩:=bt.place (by omega);have cD:=qX bv;obtain⟨h,bd⟩:=ex ps.length;have I:=qX bd;rw[a5];rw[bd]at bb b5 cF ⊢;clear b6 b4 bt a1 a7 bv a5 bd;go_in
 go_wp2_with fail;refine bb.o.mono ?_
 rintro e b3 ⟨v,rfl,ap,al⟩;obtain⟨g,V,rfl,b0,ca⟩:∃ g a3,v=.slice (some ⟨g,0,none⟩) ps.length a3/\w.heap.size<=g/\g<b3.heap.size:=by
  obtain⟨g,a3,cv,al,cm⟩:=World.ownsRow.form ap (by rw[I.o];exact b5);exact⟨g,a3,cv,al,cm⟩
 have bq:=YP ap ca;obtain⟨cQ,cT,cC,a6,cd,-,-,-⟩:=ap.open;injection cC with cE cU cJ
 subst cJ;rw[I.o]at bq a6 ⊢;have ck:=qY a6 cd;have aj:=qY al b0;have bw:=qX bq;clear ap cd a6 al bb bq cE b0 ca;go_wp2_with fail;go_loopg [7,16] 8 (fun cA cp cn wr=>∃(k:Nat)(z:Int)(xs:Nat->Pk),cp=.int .i64 (Fx h z)/\cn=.int .i64 k/\k<=8/\8-k<=cA/\Hid (ED ps k xs/\Bw (Ae cs) ps k z (Dj h xs))/\Hid (F5 wr g 0 h xs (fun i=>i)/\But (fun q=>q=g) b3 wr))
 case atStart=>
  refine⟨0,-1,fun i=>ps.getD i ⟨0,0,0⟩,rfl,rfl,qR _,lr,⟨⟨fun i p H=>?_,fun i p H _=>?_⟩,KU _⟩,bw.o,But.refl _ _⟩
  · simp[List.getD,H]
  simp[List.getD,H]
 case round=>
  clear bw;obtain⟨k,z,xs,rfl,rfl,cS,cW,O,K⟩:=hrel;have U:=qX (aj.o.1.trans (K.o.2.below aj.o.1.size fun q aN=>by rw[aN];exact aj.o.2));have a4:0<=Fx h z/\Fx h z<=h:=by
   unfold Fx;rcases O.o.2.range with E|⟨i,D,J⟩
   · rw[if_pos (by omega)];omega
   rw[if_neg (by omega)];rw[I.o]at J;omega
  by_cases cb:k<8
  ·
   have cl:(k:Int)<8:=by omega
   obtain⟨ls,ar,-⟩:=Ab cs k (by rw[ct.o];exact cb);obtain⟨am,cap,bx,bN,cu,co,-⟩:=cD.o k ls ar;have cx:=j7 U.o bx;have Y:=qZ ar bN (Cx ar);obtain⟨n,a0⟩:=ex ls.length;have ao:=qX a0;rw[a0]at cx;obtain⟨S,bp⟩:=ex (Fx h z);have bm:=qX bp;rw[bp]at a4 ⊢;clear ar bx bN cu co a0 bp;by_cases Z:n=0
   ·
    have bg:=qX (Eo am n cap wr true (by simp;exact Z));have ad:Hid (ED ps (k+1) xs/\Bw (Ae cs) ps (k+1) z (Dj h xs)):=by
     have cM:Ae cs k=[]:=by rw[Y.o.2.2];exact qN.1 (ao.o.trans Z)
     have:=O.o;rw[<- I.o]at this ⊢;exact Yx Q.o cM this.1 this.2
    clear Z;go_wp2_with fail;refine bg.o.mono ?_
    rintro e aE ⟨rfl,rfl⟩;go_wp2
    go_roundg (8-(k+1))
    case measure=>omega
    case rel=>exact⟨k+1,z,xs,by rw[bm.o],by go_num,by omega,lr,ad,K⟩
   have bg:=qX (Eo am n cap wr false (by simp;omega));have b7:Ae cs k≠[]:=fun E=>Z (by rw[<- ao.o,<- Y.o.2.2,E];rfl)
   have be:Ak ls:=by
    rcases cy.o k ls cb Y.o.1 with E|E
    · exact absurd (by rw[<- ao.o,E];rfl) Z
    exact E
   have bh:Hid (Calls Tryz.prog 127 #[.slice am n cap,.slice (some ⟨g,0,none⟩) h V,.int .i64 k] wr fun e w'=>Pg g 0 h xs ps k ls wr e w'):=by
    have D:=O.o.1.nums Q.o;have J:=O.o.1.own Q.o;rw[I.o]at D J;have:=Rv am cap ls g 0 h V xs ps k wr W (ce.o.below U.o) (Y.o.2.1.below U.o) be K.o.1 I.o Q.o D J;rwa[ao.o]at this
   have cf:=qY be b7;clear be Z b7;go_wp2_with fail;refine bg.o.mono ?_
   rintro e aE ⟨rfl,rfl⟩;go_wp2_with fail;refine bh.o.mono ?_
   rintro e cX ⟨an,⟨s,aS,N,rfl,ab,bj,aB⟩|⟨r,i,p,s,av,bl,N,b',rfl,ab⟩⟩
   ·
    have ad:Hid (ED ps (k+1) aS/\Bw (Ae cs) ps (k+1) z (Dj h aS)):=by
     have D:=O.o;have J:=cf.o;have a2:=Y.o.2.2;rw[<- I.o]at D N bj aB ⊢;rw[<- a2]at J N;exact Wu Q.o J.1 J.2 D.1 D.2 N bj aB
    have bk:=qY ab (K.o.2.trans an);clear an N ab bj aB bh;go_wp2
    go_roundg (8-(k+1))
    case measure=>omega
    case rel=>exact⟨k+1,z,aS,by rw[bm.o,show min S (h:Int)=S by omega],by go_num,by omega,lr,ad,bk⟩
   have cw:i<h:=by
    have:=(Lx.1 (q9 av)).1;exact this
   have ad:Hid (ED ps (k+1) xs/\Bw (Ae cs) ps (k+1) (if z<0\/(i:Int)<z then(i:Int)else z) (Dj h xs)):=by
    have D:=O.o;have J:=cf.o;have a2:=Y.o.2.2;rw[<- I.o]at D av bl N ⊢;rw[<- a2]at N;exact Ww Q.o J.2 D.1 D.2 av bl N b'
   have bk:=qY ab (K.o.2.trans an);have cN:Hid (Fx h (if z<0\/(i:Int)<z then(i:Int)else z)=min S (i:Int)):=by
    show _=_
    rw[<- bm.o];unfold Fx;by_cases D:z<0
    · have e:(if z<0\/(i:Int)<z then(i:Int)else z)=(i:Int):=if_pos (.inl D);rw[e,if_neg (by omega),if_pos D];omega
    by_cases J:(i:Int)<z
    · have e:(if z<0\/(i:Int)<z then(i:Int)else z)=(i:Int):=if_pos (.inr J);rw[e,if_neg (by omega),if_neg D];omega
    have e:(if z<0\/(i:Int)<z then(i:Int)else z)=z:=if_neg (by omega);rw[e,if_neg D];omega
   clear an N ab av bl b' bh;go_wp2
   go_roundg (8-(k+1))
   case measure=>omega
   case rel=>exact⟨k+1,_,xs,by rw[cN.o],by go_num,by omega,lr,ad,bk⟩
  have cl:¬(k:Int)<8:=by omega
  obtain rfl:k=8:=by omega
  by_cases ai:z<0
  ·
   have bT:Fx h z=h:=by unfold Fx;rw[if_pos ai]
   rw[bT];have cY:¬(h:Int)<(h:Int):=by omega
   have a':∀ f,f<8->∃ out,CY (Ae cs) ps f=some out/\∀(r i:Nat),(AO ps f ps.length)[r]? = some i->Dj h xs i=Ar out r:=by
    rcases O.o.2 with⟨-,E⟩|⟨i,E,-⟩
    · exact E
    omega
   have ci:∀ i,¬Bg (Ae cs) ps i:=fun i H=>by
    have cH:i<ps.length:=by obtain⟨p,s,D,-⟩:=H;exact Af D
    obtain⟨out,D,-⟩:=a' _ (IM Q.o cH);exact LD Q.o D rfl H
   have ac:=qY ci a';have bs:Hid (Ap wr g 0 h (Gz ps (Dj h xs)) (fun i=>i) wr):=by
    have e:∀ i,i<h->Gz ps (Dj h xs) i=xs i:=fun i H=>by
     have:=ay O.o.1.flow (i:=i) (by rw[I.o];exact H);rwa[I.o]at this
    refine⟨⟨K.o.1.lt,fun i H=>?_,fun i H=>?_,fun i H=>?_,K.o.1.fz⟩,But.refl _ _⟩
    · rw[e i H];exact K.o.1.c0 i H
    · rw[e i H];exact K.o.1.c1 i H
    rw[e i H];exact K.o.1.c2 i H
   have cj:Hid (Calls Tryz.prog 128 #[.slice (some ⟨g,0,none⟩) h V,.func (.func 129) #[] #[]] wr fun e w'=>e=.returned (.tuple #[])/\∃ E,Be (Aa (Gz ps (Dj h xs))) h ((List.range h).map E)/\Ap wr g 0 h (Gz ps (Dj h xs)) E w'):=RN wr g 0 h V _ wr bs.o (by omega);clear bT a' ci ai a4;go_wp2_with fail;refine cj.o.mono ?_
   rintro e aE ⟨rfl,E,cg,bc⟩;have a8:Hid (EM cs ps W w (.returned (.tuple #[.slice (some ⟨g,0,none⟩) h V,.nilIface])) aE):=by
    have cq:Be (Dj h xs) h ((List.range h).map E):=cg.turn fun i H=>by
     show(Gz ps (Dj h xs) i).tick=_
     have e:ps[i]? = some (ps[i]'(by rw[I.o];exact H)):=qE _;rw[Ep e]
    have cL:=bV bc.row;have b1:(Aj ps (Dj h xs) ((List.range h).map E)).length=h:=by simp[Aj]
    refine⟨U.o.trans (bc.but.below U.o.size fun q aN=>by rw[aN];exact aj.o.2),.inr ⟨some ⟨g,0,none⟩,V,Dj h xs,(List.range h).map E,ac.o.1,ac.o.2,by rw[I.o];exact cq,by rw[b1],⟨cL,by rw[b1];exact ck.o.1,ck.o.2,fun E=>by cases E⟩⟩⟩
   clear cg bc cj bs;go_wp2
   go_ret2;exact a8.o
  obtain⟨i,b2,a9,-,ch⟩:∃ i:Nat,z=i/\Bg (Ae cs) ps i/\Ag ps i<8/\∀ j,Bg (Ae cs) ps j->Ag ps j<8->i<=j:=by
   rcases O.o.2 with⟨E,-⟩|E
   · omega
   exact E
  have cc:Fx h z=(i:Int):=by unfold Fx;rw[if_neg ai];exact b2
  have cw:i<h:=by obtain⟨p,s,D,-⟩:=a9;have:=Af D;rw[I.o]at this;exact this
  have cP:(i:Int)<(h:Int):=by omega
  have ac:Hid (Bg (Ae cs) ps i /\ ∀ j,j < i -> ¬ Bg (Ae cs) ps j):=⟨a9,fun j cR b9=>by
   have cI:j<ps.length:=by obtain⟨p,s,D,-⟩:=b9;exact Af D
   have:=ch j b9 (IM Q.o cI);omega⟩
  have c3:=(ce.o.below U.o).c3;rw[cc];clear b2 a9 ch cc ai a4;go_wp2
  go_region;have a8:Hid (EM cs ps W w (.returned (.tuple #[.slice none 0 0,.iface 135 (.pointer (some ⟨wr.heap.size,0,none⟩))])) (wr.alloc (.cells #[.int .i64 i,.iface 308 (.pointer (some (W 3)))] 137)).drew):=⟨qL (U.o.alloc U.o.size _) 1,.inl ⟨i,wr.heap.size,ac.o.1,ac.o.2,rfl,by simp,by simp⟩⟩
  go_wp2
  go_ret2;exact a8.o
theorem Ua (D:oA)(I:Nat)(cs:List lI)(z:oA)(E:Nat)(ps:List Pk)(w:World)(h:Nat->Addr)(O:A8 w h)(J:Hf w D cs)(N:cs.length=8)(Q:Cj cs 8)(K:CU w z E ps)(U:Al ps):Calls Tryz.prog 105 #[.slice D cs.length I,.slice z ps.length E] w fun e w'=>EM cs ps h w e w':=by
 rcases xP ps.length with H|H
 · obtain rfl:ps=[]:=qN.1 H;exact Rc D I cs z E w h O J N Q K
 exact RH D I cs z E ps w h O J N Q K U H
end Go.Proofs.YtejlihcdfffafaaGreatDoor
