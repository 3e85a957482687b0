import Derived.Test.YtejlihcdfffafaaGreatDoorP30
set_option maxHeartbeats 4000000
set_option maxRecDepth 100000
namespace Go.Proofs.YtejlihcdfffafaaGreatDoor
open Go.RowKit
theorem ae (a:oA)(cap:Nat)(ls:lI)(w:World)(hl:AQ w a ls)(hn:ls.length<=500)(hok:Ci ls):Calls Tryz.prog 60 #[.slice a ls.length cap] w fun e w'=>∃ v R,e=.returned v/\GH ls ls.length R/\Bn w' w.heap.size v R/\zW w w':=by
 have HL:=qX hl;have HOK:=qX hok;obtain⟨i0,hi,hz0,hz1,hz2⟩:=vL Tryz.infoLine;clear hl hok;go_in
 go_wp2_with fail;go_loopg [3,4] ls.length (fun gk v j wr=>∃(i:Nat)(R:lI),gk+i=ls.length/\j=.int .i64 i/\GH ls i R/\Bn wr w.heap.size v R/\zW w wr)
 case atStart=>exact⟨0,[],rfl,rfl,bA _,qQ _ _ _ _,br⟩
 case round=>
  obtain⟨i,R,hgk,rfl,hkept,hown,hbr⟩:=hrel;have HBR:=qX hbr;have HK:=qX hkept;have hRl:=hkept.len;have HOW:=qX hown;obtain⟨a0,n0,k0,rfl⟩:∃ a0 n0 k0,u3=.slice a0 n0 k0:=by obtain⟨a,c,e,_⟩:=hown.open;exact⟨_,_,_,e⟩
  by_cases hin:i<ls.length
  ·
   obtain⟨⟨x,y⟩,hp,hmem⟩:=Ab ls i hin;obtain⟨b,off,rfl,hlt,hc⟩:=HL.o.some (by omega);have HP:=qX hp;have HLr:=qX (HL.o.below hbr);have HC:=qX (hc i x y hp);clear hkept hown hbr hp hmem hc;go_wp2_with fail;refine(S9 (some ⟨b,off,none⟩) cap i ls x y _ HLr.o HP.o (by omega) HOK.o).mono ?_
   rintro e w1 ⟨v,rfl,hv,hb1⟩;have HV:=qX hv;have HB1:=qX (HBR.o.tr hb1);have HOW1:=qX (HOW.o.later hb1);clear hv hb1;cases v with
   | false=>
    go_wp2
    go_roundg (gk-1)
    case measure=>omega
    case rel=>exact⟨i+1,R,by omega,by go_num,aD HK.o HP.o (fun h=>by have:=HV.o.2 h;cases this),HOW1.o,HB1.o⟩
   | true=>
    have HKA:Hid (KeptAt ls i (x,y)):=HV.o.1 rfl;have e1:=j7 HB1.o HC.o.1;have e2:=j7 HB1.o HC.o.2;have ho:=HOW1.o;obtain⟨hlen,⟨hnil,h0⟩|⟨g,cap',cur,hvv,hBg,hg,hnc,hcm,hcs,htk⟩⟩:=ho
    ·
     cases hnil
     obtain rfl:R=[]:=qN.1 h0;clear hlen h0;have hd0:decide ((0:Int)<0)=false:=by decide
     go_wp2_with fail;refine xG 1 ?_
     rw[xL];go_wp2
     go_quiet (fail);have HBW:Hid (zW w (w1.drewN nq)):=qL HB1.o _;have f1:=j7 HBW.o HC.o.1;have f2:=j7 HBW.o HC.o.2;clear e1 e2 HOW1 HB1 HOW HBR HLr;generalize w1.drewN nq=W at *;have HNW:=qX (FU W x y);go_wp2_with (at_builtin;refine xO _ rfl _ _ 54 rfl w.heap.size 66 i0 (.agg #[.int .i64 0,.int .i64 0]) 2 16 Tryz.underlying54 hi hz0 hz1 hz2 rfl (by decide) (.slice none 0 0) 0 [] rfl (qQ _ _ _ _) ⟨W.heap.size,0,none⟩ 1 1 [.int .i64 x,.int .i64 y] rfl rfl HNW.o (F3 _ _) (by unfold maxLen;omega) (by omega) (qI HBW.o.size (by simp)) ?_;intro v3 w3 hown3 hgrow3 _ hat3;obtain⟨g3,c3,rfl,hc3,hg3⟩:=Dy hown3 (by omega);have qn3:=fun w ty=>Tryz.appendNone w ty g3 (0+1) c3 hc3)
     go_roundg (gk-1)
     case measure=>omega
     case rel=>exact⟨i+1,[(x,y)],by omega,by go_num,Ni (k:=0) HK.o HP.o HKA.o (fun j _ hj=>absurd hj (vR _)) (fun _ h=>by simp at h),hown3,Bn.grownT (ls:=[]) (HBW.o.alloc HBW.o.size _) (qQ _ _ _ _) hgrow3⟩
    cases hvv
    have HLR:=qX ((Bn.lies HOW1.o).2.2.2);have hgl:g<w1.heap.size:=by
     rcases qC g w1.heap.size with h|h
     · exact h
     simp[vX h]at hg
    unfold maxLen at hcm;clear hlen hBg hg hcs htk HOW HBR HLr;go_wp2_with fail;obtain⟨GK,rfl⟩:∃ z,z=gk:=⟨gk,rfl⟩
    clear wr;go_loopg [6] R.length (fun gi kk wr2=>∃ k:Nat,gi+k=R.length/\kk=.int .i64 k/\(∀ j p,j<k->R[j]? = some p->y<p.2)/\zW w1 wr2)
    case atStart=>exact⟨0,rfl,rfl,fun j p h=>absurd h (vR _),br⟩
    case round=>
     obtain⟨k,hgi,rfl,hup,hb2⟩:=hrel;have HUP:=qX hup;have HB2:=qX hb2;have e3:=j7 hb2 e1;have e4:=j7 hb2 e2;clear hup hb2;have hways:(∃ p,R[k]? = some p/\k<R.length/\y<p.2)\/((∃ p,R[k]? = some p/\k<R.length/\¬y<p.2)\/(¬k<R.length/\k<k0))\/(¬k<R.length/\¬k<k0):=by
      by_cases h1:k<R.length
      ·
       obtain⟨p,hp,-⟩:=Ab R k h1;by_cases h2:y<p.2
       · exact .inl ⟨p,hp,h1,h2⟩
       exact .inr (.inl (.inl ⟨p,hp,h1,h2⟩))
      by_cases h2:k<k0
      · exact .inr (.inl (.inr ⟨h1,h2⟩))
      exact .inr (.inr ⟨h1,h2⟩)
     rcases hways with⟨⟨x',y'⟩,hp',hkR,hyy⟩|hB|⟨hkR,hk0⟩
     ·
      obtain⟨_,_,eg,-,hcg⟩:=HLR.o.some (by omega);cases eg
      have d2:=j7 HB2.o (hcg k x' y' hp').2;have HP':=qX hp';rw[vC]at d2;clear hcg hp';replace hyy:y<y':=hyy;go_wp2
      go_quiet (fail);go_wp2
      go_roundg (gk-1)
      case measure=>omega
      case rel=>exact ⟨k+1,by omega,by go_num,fun j p hj he=>(by
       rcases qC j k with h|h
       · exact HUP.o j p h he
       obtain rfl:j=k:=by omega
       rw[HP'.o]at he;cases he
       exact hyy),qL HB2.o _⟩
     ·
      have HNx:Hid (∀ p,R[k]? = some p->¬y<p.2):=fun p h=>by
       rcases hB with⟨p',hp',h1,h2⟩|⟨h1,-⟩
       ·
        rw[hp']at h;cases h
        exact h2
       rw[qH (by omega)]at h;cases h
      rcases hB with⟨⟨x',y'⟩,hp',hkR,hyy⟩|⟨hkR,hk0⟩
      all_goals
       first
       |
        obtain⟨_,_,eg,-,hcg⟩:=HLR.o.some (by omega);cases eg
        have d2:=j7 HB2.o (hcg k x' y' hp').2;have HP':=qX hp';rw[vC]at d2;clear hcg hp';replace hyy:¬y<y':=hyy
       | skip
       go_wp2
       go_quiet (fail);have HBW:Hid (zW w (wr.drewN nq)):=qL (HB1.o.tr HB2.o) _;have f1:=j7 HBW.o HC.o.1;have f2:=j7 HBW.o HC.o.2;have HLW:Hid (AQ (wr.drewN nq) (some ⟨g,0,none⟩) R):=HLR.o.below (qL HB2.o _);have hgW:g<(wr.drewN nq).heap.size:=by have:=HB2.o.size;simp;omega
       have hbW:=Cg f1;clear HB2 e3 e4;generalize wr.drewN nq=W at *;have HT1:=qX (Iy (HLW.o.take k));have HT2:Hid ((AL (R.take k)).length=k*2):=MG (by omega);have HT3:Hid (∀ u∈AL (R.take k),u.oneCell'=true):=EN _;have HD2:=qX (Mg R k);have HD3:Hid (∀ u∈AL (R.drop k),u.oneCell'=true):=EN _;have HWB:=qX HBW.o.size;go_wp2_with (first
        | (at_builtin;refine xO _ rfl _ _ 54 rfl w.heap.size 66 i0 (.agg #[.int .i64 0,.int .i64 0]) 2 16 Tryz.underlying54 hi hz0 hz1 hz2 rfl (by decide) (.slice none 0 0) 0 [] rfl (qQ _ _ _ _) ⟨g,0,none⟩ k k0 (AL (R.take k)) rfl HT2.o HT1.o HT3.o (by unfold maxLen;omega) (by omega) HWB.o ?_;intro v3 w3 hown3 hgrow3 _ hat3;simp only [vC,zC] at hown3;obtain ⟨a3,n3,k3,rfl⟩:∃ a0 n0 k0,v3=.slice a0 n0 k0:=by (obtain ⟨_,⟨h,_⟩ | ⟨_,_,_,h,_⟩⟩:=hown3 <;> exact ⟨_,_,_,h⟩)
           have HOW3:=qX hown3;have HB3:Hid (zW w w3):=Bn.grownT (ls:=[]) HBW.o (qQ _ _ _ _) hgrow3;have HL3:Hid (AQ w3 (some ⟨g,0,none⟩) R):=Gx HLW.o hgrow3 (fun e=>by cases e);have f3:w3.cell? ⟨b,off+i*2,none⟩=some (.int .i64 x):=hgrow3.cell f1 (fun e=>by cases e);have f4:w3.cell? ⟨b,off+i*2+1,none⟩=some (.int .i64 y):=hgrow3.cell f2 (fun e=>by cases e);have HNE3:Hid ((Value.slice a3 n3 k3).ownBlock≠some g):=(show _≠_ from fun e=>by rcases hat3 with h|h <;> rw[h]at e <;> cases e;omega)
           have HNW:=qX (FU w3 x y);have hs3:=hgrow3.size;clear hown3 hgrow3 hat3 f1 f2)
        | (at_builtin;refine xO _ rfl _ _ 54 rfl w.heap.size 66 i0 (.agg #[.int .i64 0,.int .i64 0]) 2 16 Tryz.underlying54 hi hz0 hz1 hz2 rfl (by decide) (.slice a3 n3 k3) k (AL (R.take k)) rfl (HOW3.o.alloc _) ⟨w3.heap.size,0,none⟩ 1 1 [.int .i64 x,.int .i64 y] rfl rfl HNW.o (F3 _ _) (by unfold maxLen;omega) (by omega) (qI HB3.o.size (by simp)) ?_;intro v5 w5 hown5 hgrow5 _ hat5;obtain ⟨g5,c5,rfl,hc5,hg5⟩:=Dy hown5 (by omega)
           have HOW5:=qX hown5;have HB5:Hid (zW w w5):=Bn.grownR (HB3.o.alloc HB3.o.size _) (HOW3.o.alloc _) hgrow5;have HL5:Hid (AQ w5 (some ⟨g,0,none⟩) R):=Gx (HL3.o.below ba) hgrow5 HNE3.o;have HD1:Hid (∀ j u,(AL (R.drop k))[j]? = some u->w5.cell? ((⟨g,k*2,none⟩:Addr).add j)=some u):=Iy (show AQ w5 (some ⟨g,k*2,none⟩) (R.drop k)from by have:=HL5.o.drop k;rwa[vC]at this);clear hown5 hgrow5 hat5)
        | (at_builtin;refine xO _ rfl _ _ 54 rfl w.heap.size 66 i0 (.agg #[.int .i64 0,.int .i64 0]) 2 16 Tryz.underlying54 hi hz0 hz1 hz2 rfl (by decide) (.slice (some ⟨g5,0,none⟩) (k+1) c5) (k+1) (AL (R.take k) ++ [.int .i64 x,.int .i64 y]) rfl HOW5.o ⟨g,k * 2,none⟩ (R.length - k) (k0 - k) (AL (R.drop k)) rfl HD2.o HD1.o HD3.o (by unfold maxLen;omega) (by omega) HB5.o.size ?_;intro v6 w6 hown6 hgrow6 _ hat6
           obtain⟨g6,c6,rfl,hc6,hg6⟩:=Dy hown6 (by omega);have HOW6:=qX hown6;have HB6:=qX (Bn.grownR HB5.o HOW5.o hgrow6);clear hown6 hgrow6 hat6))
       go_roundg (GK-1)
       case measure=>omega
       case rel=>exact⟨i+1,R.take k++(x,y)::R.drop k,by omega,by go_num,Ni HK.o HP.o HKA.o HUP.o (fun p h=>Int.not_lt.2 (HNx.o p h)),Uo (by omega) HOW6.o,HB6.o⟩
     have hkk:k=k0:=by omega
     subst hkk;clear hk0;go_wp2
     go_quiet (fail);have HBW:Hid (zW w (wr.drewN nq)):=qL (HB1.o.tr HB2.o) _;have f1:=j7 HBW.o HC.o.1;have f2:=j7 HBW.o HC.o.2;have HLW:Hid (AQ (wr.drewN nq) (some ⟨g,0,none⟩) R):=HLR.o.below (qL HB2.o _);have hgW:g<(wr.drewN nq).heap.size:=by have:=HB2.o.size;simp;omega
     have hbW:=Cg f1;clear HB2 e3 e4;generalize wr.drewN nq=W at *;have HT1:=qX (Iy (HLW.o.take k));have HT2:Hid ((AL (R.take k)).length=k*2):=MG (by omega);have HT3:Hid (∀ u∈AL (R.take k),u.oneCell'=true):=EN _;have HD2:=qX (Mg R k);have HD3:Hid (∀ u∈AL (R.drop k),u.oneCell'=true):=EN _;have HWB:=qX HBW.o.size;go_wp2_with (first
      | (at_builtin;refine xO _ rfl _ _ 54 rfl w.heap.size 66 i0 (.agg #[.int .i64 0,.int .i64 0]) 2 16 Tryz.underlying54 hi hz0 hz1 hz2 rfl (by decide) (.slice none 0 0) 0 [] rfl (qQ _ _ _ _) ⟨g,0,none⟩ k k (AL (R.take k)) rfl HT2.o HT1.o HT3.o (by unfold maxLen;omega) (by omega) HWB.o ?_;intro v3 w3 hown3 hgrow3 _ hat3;simp only [vC,zC] at hown3;obtain ⟨a3,n3,k3,rfl⟩:∃ a0 n0 k0,v3=.slice a0 n0 k0:=by (obtain ⟨_,⟨h,_⟩ | ⟨_,_,_,h,_⟩⟩:=hown3 <;> exact ⟨_,_,_,h⟩)
         have HOW3:=qX hown3;have HB3:Hid (zW w w3):=Bn.grownT (ls:=[]) HBW.o (qQ _ _ _ _) hgrow3;have HL3:Hid (AQ w3 (some ⟨g,0,none⟩) R):=Gx HLW.o hgrow3 (fun e=>by cases e);have f3:w3.cell? ⟨b,off+i*2,none⟩=some (.int .i64 x):=hgrow3.cell f1 (fun e=>by cases e);have f4:w3.cell? ⟨b,off+i*2+1,none⟩=some (.int .i64 y):=hgrow3.cell f2 (fun e=>by cases e);have HNE3:Hid ((Value.slice a3 n3 k3).ownBlock≠some g):=(show _≠_ from fun e=>by rcases hat3 with h|h <;> rw[h]at e <;> cases e;omega)
         have HNW:=qX (FU w3 x y);have hs3:=hgrow3.size;clear hown3 hgrow3 hat3 f1 f2)
      | (at_builtin;refine xO _ rfl _ _ 54 rfl w.heap.size 66 i0 (.agg #[.int .i64 0,.int .i64 0]) 2 16 Tryz.underlying54 hi hz0 hz1 hz2 rfl (by decide) (.slice a3 n3 k3) k (AL (R.take k)) rfl (HOW3.o.alloc _) ⟨w3.heap.size,0,none⟩ 1 1 [.int .i64 x,.int .i64 y] rfl rfl HNW.o (F3 _ _) (by unfold maxLen;omega) (by omega) (qI HB3.o.size (by simp)) ?_;intro v5 w5 hown5 hgrow5 _ hat5;obtain ⟨g5,c5,rfl,hc5,hg5⟩:=Dy hown5 (by omega)
         have HOW5:=qX hown5;have HB5:Hid (zW w w5):=Bn.grownR (HB3.o.alloc HB3.o.size _) (HOW3.o.alloc _) hgrow5;have HL5:Hid (AQ w5 (some ⟨g,0,none⟩) R):=Gx (HL3.o.below ba) hgrow5 HNE3.o;have HD1:Hid (∀ j u,(AL (R.drop k))[j]? = some u->w5.cell? ((⟨g,0,none⟩:Addr).add j)=some u):=fun j u h=>by rw[List.drop_eq_nil_of_le (by omega)]at h;cases h
         clear hown5 hgrow5 hat5)
      | (at_builtin;refine xO _ rfl _ _ 54 rfl w.heap.size 66 i0 (.agg #[.int .i64 0,.int .i64 0]) 2 16 Tryz.underlying54 hi hz0 hz1 hz2 rfl (by decide) (.slice (some ⟨g5,0,none⟩) (k+1) c5) (k+1) (AL (R.take k) ++ [.int .i64 x,.int .i64 y]) rfl HOW5.o ⟨g,0,none⟩ (R.length - k) _ (AL (R.drop k)) rfl HD2.o HD1.o HD3.o (by unfold maxLen;omega) (by omega) HB5.o.size ?_;intro v6 w6 hown6 hgrow6 _ hat6
         obtain⟨g6,c6,rfl,hc6,hg6⟩:=Dy hown6 (by omega);have HOW6:=qX hown6;have HB6:=qX (Bn.grownR HB5.o HOW5.o hgrow6);clear hown6 hgrow6 hat6))
     go_roundg (GK-1)
     case measure=>omega
     case rel=>exact⟨i+1,R.take k++(x,y)::R.drop k,by omega,by go_num,Ni HK.o HP.o HKA.o HUP.o (fun p h=>by rw[qH (by omega)]at h;cases h),Uo (k:=k) (by omega) (by rw[show k+1+(R.length-k)=k+1 by omega,List.drop_eq_nil_of_le (show R.length<=k by omega)];have:=HOW5.o;simpa[AL]using this),HB5.o⟩
  have hi':i=ls.length:=by omega
  subst hi';clear hown hbr hkept;go_wp2
  go_ret;exact⟨_,R,rfl,HK.o,HOW.o,HBR.o⟩
def Y5 (z h:lI)(w w':World)(e:Ending):Prop:=
 zW w w' /\ ((¬ Ci (BL z h) /\ e=.returned (.tuple #[.slice none 0 0,.int .i64 2])) \/
  (Ci (BL z h) /\ ∃ R,GH (BL z h) (BL z h).length R /\
   ((6 < R.length /\ e=.returned (.tuple #[.slice none 0 0,.int .i64 3])) \/ (R.length <= 6 /\ ∃ v,e=.returned (.tuple #[v,.int .i64 0]) /\ Bn w' w.heap.size v R))))
theorem XV {T:lI}{z:Int×Int}(D:Ci T)(E:BM z.1 z.2=true):Ci (T++[z]):=fun p h=>by
 rcases vI.1 h with h|h
 · exact D p h
 rw[vJ.1 h];exact E
theorem iq {z h:lI}{x y:Int×Int}(E:x∈z)(D:y∈h):(x.1+y.1,x.2+y.2)∈BL z h:=by
 simp only[BL,Gi,List.mem_flatMap,List.mem_map];exact⟨x,E,y,D,rfl⟩
theorem dY (a1 a2:oA)(cap1 cap2:Nat)(la lb:lI)(w:World)(h1:AQ w a1 la)(h2:AQ w a2 lb)(n1:la.length<=6)(n2:lb.length<=6)(k1:Ci la)(k2:Ci lb):Calls Tryz.prog 37 #[.slice a1 la.length cap1,.slice a2 lb.length cap2] w fun e w'=>Y5 la lb w w' e:=by
 have HA:=qX h1;have HB:=qX h2;have KA:=qX k1;have KB:=qX k2;obtain⟨i0,hi,hz0,hz1,hz2⟩:=vL Tryz.infoLine;clear h1 h2 k1 k2;go_in
 go_wp2_with fail;go_loopg [6,7] la.length (fun gk v i wr=>∃ k:Nat,gk+k=la.length/\i=.int .i64 k/\Bn wr w.heap.size v (BL (la.take k) lb)/\Ci (BL (la.take k) lb)/\zW w wr)
 case atStart=>exact⟨0,rfl,rfl,qQ _ _ _ _,fun p hp=>by simp[BL]at hp,br⟩
 case round=>
  obtain⟨k,hgk,rfl,hown,hokT,hbr⟩:=hrel;have HBR:=qX hbr;obtain⟨a0,n0,k0,rfl⟩:∃ a0 n0 k0,u6=.slice a0 n0 k0:=by obtain⟨a,c,e,_⟩:=hown.open;exact⟨_,_,_,e⟩
  by_cases hkn:k<la.length
  ·
   obtain⟨⟨x,y⟩,hp,hmem⟩:=Ab la k hkn;obtain⟨b,off,rfl,hlt,hc⟩:=HA.o.some (by omega);have HC:=qX (hc k x y hp);obtain⟨q1,q2,q3,q4⟩:=AA (KA.o _ hmem);simp only[]at q1 q2 q3 q4;have HMA:=qX hmem;have hts:la.take (k+1)=la.take k++[(x,y)]:=by rw[vF,hp];rfl
   have HS:Hid (BL (la.take (k+1)) lb=BL (la.take k) lb++Gi (x,y) lb):=by show _=_;rw[hts];exact P7 _ _ _
   have hTlen:(BL (la.take k) lb).length<=36:=by
    rw[F6,vO];exact qI (Nat.mul_le_mul (show min k la.length<=6 by omega) n2) (by decide)
   generalize BL (la.take k) lb=T0 at *;have HOW0:=qY hown hokT;clear hc hp hmem hts hown hbr hokT;go_wp2_with fail;obtain⟨GK,rfl⟩:∃ z,z=gk:=⟨gk,rfl⟩
   obtain⟨wO,rfl⟩:∃ z,z=wr:=⟨wr,rfl⟩
   go_loopg [6,8] lb.length (fun gi v i wr2=>∃ j:Nat,gi+j=lb.length/\i=.int .i64 j/\Bn wr2 w.heap.size v (T0++Gi (x,y) (lb.take j))/\Ci (T0++Gi (x,y) (lb.take j))/\zW w wr2)
   case atStart=>exact⟨0,rfl,rfl,by have:=HOW0.o.1;simpa[Gi]using this,by have:=HOW0.o.2;simpa[Gi]using this,HBR.o⟩
   case round=>
    obtain⟨j,hgi,rfl,hown2,hok2,hb2⟩:=hrel;have HB2:=qX hb2;by_cases hjn:j<lb.length
    ·
     obtain⟨⟨x',y'⟩,hp,hmem⟩:=Ab lb j hjn;obtain⟨b',off',rfl,hlt',hc⟩:=HB.o.some (by omega);have d1:=j7 hb2 HC.o.1;have d2:=j7 hb2 HC.o.2;have e1:=j7 hb2 (hc j x' y' hp).1;have e2:=j7 hb2 (hc j x' y' hp).2;obtain⟨r1,r2,r3,r4⟩:=AA (KB.o _ hmem);simp only[]at r1 r2 r3 r4;have HIN:=qX (iq HMA.o hmem);have hts:lb.take (j+1)=lb.take j++[(x',y')]:=by rw[vF,hp];rfl
     have HSJ:Hid (T0++Gi (x,y) (lb.take (j+1))=(T0++Gi (x,y) (lb.take j))++[(x+x',y+y')]):=by show _=_;rw[hts,Sk,List.append_assoc]
     have hT1:(T0++Gi (x,y) (lb.take j)).length<=42:=by simp[Gi];omega
     generalize T0++Gi (x,y) (lb.take j)=T1 at *;obtain⟨a3,n3,k3,rfl⟩:∃ a3 n3 k3,u6=.slice a3 n3 k3:=by obtain⟨a,c,e,_⟩:=hown2.open;exact⟨_,_,_,e⟩
     have HOWr:=qX hown2;have HOK1:=qX hok2;clear hc hp hmem hts hown2 hb2 hok2;go_wp2_with fail;go_region_held (fun w'=>w'.cell? ⟨b,off+k*2,none⟩=some (.int .i64 x)/\w'.cell? ⟨b,off+k*2+1,none⟩=some (.int .i64 y)/\w'.cell? ⟨b',off' + j*2,none⟩=some (.int .i64 x')/\w'.cell? ⟨b',off' + j*2+1,none⟩=some (.int .i64 y')) (go_keep) (fail)
     go_wp2_with fail;have HW1:Hid (zW wr (wr.alloc (.cells #[.int .i64 (x+x'),.int .i64 (y+y')] 66)).drew):=ba.drew;have HB3:=qX (HB2.o.tr HW1.o);have HO3:=qX (Bn.later (ls:=T1) HOWr.o HW1.o);have g1:(wr.alloc (.cells #[.int .i64 (x+x'),.int .i64 (y+y')] 66)).drew.cell? ⟨wr.heap.size,0,none⟩=some (.int .i64 (x+x')):=by simp
     have g2:(wr.alloc (.cells #[.int .i64 (x+x'),.int .i64 (y+y')] 66)).drew.cell? ⟨wr.heap.size,1,none⟩=some (.int .i64 (y+y')):=by simp
     have hlw:wr.heap.size<(wr.alloc (.cells #[.int .i64 (x+x'),.int .i64 (y+y')] 66)).drew.heap.size:=by simp
     clear HW1 d1 d2 e1 e2 HOWr HB2;generalize (wr.alloc (.cells #[.int .i64 (x+x'),.int .i64 (y+y')] 66)).drew=W1 at *;cases hz:BM (x+x') (y+y')with
     | false=>
      refine(MX _ _ _ hz).mono ?_
      rintro e w2 ⟨rfl,rfl⟩;go_wp2
      go_ret2;exact⟨HB3.o.alloc HB3.o.size _,.inl ⟨fun h=>(by have:=h _ HIN.o;rw[hz]at this;cases this),rfl⟩⟩
     | true=>
      refine(Jm _ _ _ hz).mono ?_
      rintro e w2 ⟨rfl,rfl⟩;have HNW:Hid (∀ j u,[Value.int .i64 (x+x'),.int .i64 (y+y')][j]? = some u->((W1.alloc (.cells #[.int .i64 (x+x'),.int .i64 (y+y')] 66)).alloc (.cells #[.int .i64 (x+x'),.int .i64 (y+y')] 66)).cell? ((⟨W1.heap.size+1,0,none⟩:Addr).add j)=some u):=by
       have:=FU (W1.alloc (.cells #[.int .i64 (x+x'),.int .i64 (y+y')] 66)) (x+x') (y+y');rw[show(W1.alloc (.cells #[.int .i64 (x+x'),.int .i64 (y+y')] 66)).heap.size=W1.heap.size+1 by simp]at this;exact this
      have HZ:=qX hz;have HOWr:=qX HO3.o;clear hz;go_wp2_with (at_builtin;refine xO _ rfl _ _ 54 rfl w.heap.size 66 i0 (.agg #[.int .i64 0,.int .i64 0]) 2 16 Tryz.underlying54 hi hz0 hz1 hz2 rfl (by decide) (.slice a3 n3 k3) T1.length (AL T1) rfl ((HOWr.o.alloc _).alloc _) ⟨W1.heap.size+1,0,none⟩ 1 1 [.int .i64 (x+x'),.int .i64 (y+y')] rfl rfl HNW.o (F3 _ _) (by unfold maxLen;omega) (by omega) (qI HB3.o.size (by simp;omega)) ?_;intro v3 w3 hown3 hgrow3 _ hat3)
      have HB5:Hid (zW w w3):=Bn.grownT (ls:=T1) ((HB3.o.alloc HB3.o.size _).alloc (by have:=HB3.o.size;simp;omega) _) ((HOWr.o.alloc _).alloc _) hgrow3;have HO5:=qX (Bn.snoc hown3);obtain⟨a4,n4,k4,rfl⟩:∃ a4 n4 k4,v3=.slice a4 n4 k4:=by obtain⟨a,c,e,_⟩:=HO5.o.open;exact⟨_,_,_,e⟩
      clear hown3 hgrow3 hat3;go_wp2
      go_roundg (gk-1)
      case measure=>omega
      case rel=>exact⟨j+1,by omega,by go_num,by rw[HSJ.o];exact HO5.o,by rw[HSJ.o];exact XV HOK1.o HZ.o,HB5.o⟩
    have hj':j=lb.length:=by omega
    subst hj';rw[xA]at hown2 hok2;have HO3:=qY hown2 hok2;obtain⟨a3,n3,k3,rfl⟩:∃ a3 n3 k3,u6=.slice a3 n3 k3:=by obtain⟨a,c,e,_⟩:=hown2.open;exact⟨_,_,_,e⟩
    clear hown2 hb2 hok2;go_wp2
    go_roundg (GK-1)
    case measure=>omega
    case rel=>exact⟨k+1,by omega,by go_num,by rw[HS.o];exact HO3.o.1,by rw[HS.o];exact HO3.o.2,HB2.o⟩
  have hk':k=la.length:=by omega
  subst hk';rw[xA]at hown hokT;obtain⟨hn0,-,-,hL0⟩:=Bn.lies hown;have HL0:Hid (AQ wr a0 (BL la lb)/\Ci (BL la lb)/\(BL la lb).length<=500/\n0=(BL la lb).length):=⟨hL0,hokT,by rw[F6];exact qI (Nat.mul_le_mul n1 n2) (by decide),hn0⟩
  clear hown hbr hokT hn0 hL0;go_wp2_with fail;rw[HL0.o.2.2.2];refine(ae a0 k0 (BL la lb) _ HL0.o.1 HL0.o.2.2.1 HL0.o.2.1).mono ?_
  rintro e w2 ⟨v,R,rfl,hkept,ho,hb2⟩;have HB2:=qX (HBR.o.tr hb2);have HO2:=qX (Bb ho HBR.o.size);have HK:=qX hkept;have hRl:R.length<=500:=qI hkept.len HL0.o.2.2.1;obtain⟨a4,k4,rfl,-,-,-⟩:=Bn.open ho;clear hkept ho hb2;by_cases h6:6<R.length
  ·
   go_wp2
   go_ret2;exact⟨HB2.o,.inr ⟨HL0.o.2.1,R,HK.o,.inl ⟨h6,rfl⟩⟩⟩
  go_wp2
  go_ret2;exact⟨HB2.o,.inr ⟨HL0.o.2.1,R,HK.o,.inr ⟨by omega,_,rfl,HO2.o⟩⟩⟩
theorem ky {R:TypeId->Value->World->Prop}(a:oA)(n cap:Nat)(v2:Value)(w:World)
  (z:Calls Tryz.prog 61 #[.slice a n cap] w fun e w'=>∃ h p,e=.returned (.iface h p)/\R h p w') :
  Calls Tryz.prog 110 #[.slice a n cap,v2] w fun e w'=>∃ h p,e=.returned (.tuple #[.slice none 0 0,.iface h p])/\R h p w':=by
 have E:=qX z;clear z;go_in
 go_wp2_with fail;refine E.o.mono ?_
 rintro e I ⟨h,p,rfl,D⟩;have H:=qX D;clear D;go_wp2
 go_ret2;exact⟨h,p,rfl,H.o⟩
theorem Sc {z h:lI}(E:1<=z.length)(D:1<=h.length):1<=(BL z h).length:=by
 rw[F6];exact Nat.mul_pos E D
theorem Pp {z h:lI}(E:z.length<=6)(D:h.length<=6):(BL z h).length<=36:=by
 rw[F6];exact qI (Nat.mul_le_mul E D) (by decide)
theorem bM (am Y:oA)(av aw:Nat)(D z:lI)(w:World)(ai:Addr)(ac:w.cell? ⟨0,0,none⟩=some (.iface 308 (.pointer (some ai))))(al:AQ w am D)(ao:AQ w Y z)(W:Ak D)(O:Ak z)
  (j:Nat) (a6:j<(BL D z).length) (ab:∀ i x y,i<j->(BL D z)[i]? = some (x,y)->BM x y=true) (ap:∀ x y,(BL D z)[j]? = some (x,y)->BM x y=false) :
  Calls Tryz.prog 110 #[.slice am D.length av,.slice Y z.length aw] w fun e w'=>e=.returned (.tuple #[.slice none 0 0,.iface 308 (.pointer (some ai))])/\zW w w':=by
 have I:=qY al W;have H:=qY ao O;have a3:=qX ac;have a2:=qX ab;have aB:=qX ap;have a8:=Pp W.2.1 O.2.1;clear al ao W O ac ab ap;go_in
 go_wp2_with fail;refine(Gl _ _ D _ I.o.1 I.o.2).mono ?_
 rintro e w0 ⟨rfl,h⟩;have an:=qX h;clear h;go_wp2_with fail;refine(Gl _ _ z _ (H.o.1.below an.o) H.o.2).mono ?_
 rintro e bb ⟨rfl,h⟩;have U:=qX (an.o.tr h);clear h;go_wp2_with fail;refine(YX _ _ _ _ D z _ (I.o.1.below U.o) (H.o.1.below U.o) I.o.2.2.1 H.o.2.2.1 I.o.2.2.2 H.o.2.2.2).mono ?_
 rintro e aS ⟨v,rfl,Q,h⟩;have a4:=qX (U.o.tr h);obtain⟨aj,Z,ar,rfl⟩:∃ aj Z ar,v=.slice aj Z ar:=by obtain⟨a,c,e,_⟩:=Bn.open Q;exact⟨_,_,_,e⟩
 obtain⟨rfl,-,-,ad⟩:=Bn.lies Q;generalize BL D z=P at *;obtain⟨b,a9,rfl,bd,J⟩:=ad.some (by omega);clear Q h ad;go_wp2_with fail;go_loopw [27] (fun i wr=>∃ k:Nat,k<=j/\i=.int .i64 k/\zW aS wr) (fun i _=>P.length-(intOf i).toNat)
 case atStart=>exact⟨0,qR _,rfl,br⟩
 case round=>
  obtain⟨k,a',rfl,h⟩:=hrel;have aE:=h.size;have aN:k<P.length:=by omega
  obtain⟨⟨x,y⟩,E,aq⟩:=Ab P k aN;have a7:=j7 h (J k x y E).1;have bc:=j7 h (J k x y E).2;have V:=qX (a4.o.tr h);by_cases a1:k<j
  ·
   have K:=(show Hid (BM x y=true)from a2.o k x y a1 E)
   clear J E aq;go_wp2_with (go_at_call 84;refine(Kk x y _ K.o).mono ?_;rintro e w' ⟨rfl,rfl⟩)
   go_roundw
   case rel=>exact⟨k+1,by omega,by go_num,(h.alloc aE _).alloc (by simp;omega) _⟩
   case measure=>simp[intOf];omega
  obtain rfl:k=j:=by omega
  have K:=(show Hid (BM x y=false)from aB.o x y E)
  have N:zW w ((wr.alloc (.cells #[.int .i64 x,.int .i64 y] 66)).alloc (.cells #[.int .i64 x,.int .i64 y] 66)):=(V.o.alloc V.o.size _).alloc (by have:=V.o.size;simp;omega) _;have a5:=j7 N a3.o;have a0:=qX N;clear J E aq N;go_wp2_with (go_at_call 84;refine(Sq x y _ K.o).mono ?_;rintro e w' ⟨rfl,rfl⟩)
  go_quiet (fail);go_wp2
  go_ret2;exact⟨rfl,qL a0.o _⟩
theorem jJ (av am:oA)(a4 a6:Nat)(H D:lI)(w:World)(al:Addr)(a1:w.cell? ⟨3,0,none⟩=some (.iface 308 (.pointer (some al))))(ar:AQ w av H)(aN:AQ w am D)(Z:Ak H)(W:Ak D)(an:Ci (BL H D)):Calls Tryz.prog 110 #[.slice av H.length a4,.slice am D.length a6] w fun e w'=>∃ z,z.Perm (BL H D)/\DR z/\zW w w' /\
   ((6 < (EU [] z).length /\ e=.returned (.tuple #[.slice none 0 0,.iface 308 (.pointer (some al))])) \/
    ((EU [] z).length <= 6 /\ ∃ v,e=.returned (.tuple #[v,.nilIface]) /\ Bn w' w.heap.size v (EU [] z).reverse)):=by
 have K:=qY ar Z;have J:=qY aN W;have be:=qX a1;have ai:=qX an;have aw:=Pp Z.2.1 W.2.1;have a3:=Sc Z.1 W.1;clear ar aN Z W a1 an;go_in
 go_wp2_with fail;refine(Gl _ _ H _ K.o.1 K.o.2).mono ?_
 rintro e w0 ⟨rfl,h⟩;have aB:=qX h;clear h;go_wp2_with fail;refine(Gl _ _ D _ (J.o.1.below aB.o) J.o.2).mono ?_
 rintro e bs ⟨rfl,h⟩;have ad:=qX (aB.o.tr h);clear h;go_wp2_with fail;refine(YX _ _ _ _ H D _ (K.o.1.below ad.o) (J.o.1.below ad.o) K.o.2.2.1 J.o.2.2.1 K.o.2.2.2 J.o.2.2.2).mono ?_
 rintro e a9 ⟨v,rfl,E,h⟩;have bg:=qX (ad.o.tr h);obtain⟨Y,U,N,rfl⟩:∃ Y U N,v=.slice Y U N:=by obtain⟨a,c,e,_⟩:=Bn.open E;exact⟨_,_,_,e⟩
 obtain⟨rfl,-,-,V⟩:=Bn.lies E;have bc:Hid (∃ P,BL H D=P):=⟨_,rfl⟩
 obtain⟨P,aj⟩:=bc.o;have aS:=qX aj;rw[aj]at V aw a3 ai ⊢;clear aj;obtain⟨b,bp,rfl,bw,Q⟩:=V.some (by omega);have bb:=qX V;clear E h V;go_wp2_with fail;go_loopw [27] (fun i wr=>∃ k:Nat,k<=P.length/\i=.int .i64 k/\zW a9 wr) (fun i _=>P.length-(intOf i).toNat)
 case atStart=>exact⟨0,qR _,rfl,br⟩
 case round=>
  obtain⟨k,bq,rfl,h⟩:=hrel;have a7:=h.size;by_cases a8:k<P.length
  ·
   obtain⟨⟨x,y⟩,I,a0⟩:=Ab P k a8;have bm:=j7 h (Q k x y I).1;have bv:=j7 h (Q k x y I).2;have a5:=(show Hid (BM x y=true)from ai.o _ a0)
   clear Q I a0;go_wp2_with (go_at_call 84;refine(Kk x y _ a5.o).mono ?_;rintro e w' ⟨rfl,rfl⟩)
   go_roundw
   case rel=>exact⟨k+1,by omega,by go_num,(h.alloc a7 _).alloc (by simp;omega) _⟩
   case measure=>simp[intOf];omega
  have a2:=qX (bg.o.tr h);have a':=qX (bb.o.below h);clear h Q;go_wp2_with fail;refine(aC _ N P _ a'.o a3 (qI aw (by decide)) ai.o).mono ?_
  rintro e bl ⟨v,z,rfl,I,ap,E,ao⟩;obtain⟨bh,aE,bk,rfl⟩:∃ Y U N,v=.slice Y U N:=by obtain⟨a,c,e,_⟩:=Bn.open E;exact⟨_,_,_,e⟩
  obtain⟨ac,-,-,-⟩:=Bn.lies E;rw[xJ]at ac;have bj:aE<=36:=by have:=Vy z [];rw[I.length_eq]at this;simp at this;omega
  have ab:=qX (a2.o.tr ao);have O:=qZ I ap (Bb E a2.o.size);have aq:=qX ac;have bt:=j7 ab.o be.o;clear I ap E ao ac;by_cases bd:6<aE
  ·
   go_wp2
   go_quiet (fail);go_wp2
   go_ret2;exact⟨z,aS.o ▸ O.o.1,O.o.2.1,qL ab.o _,.inl ⟨aq.o ▸ bd,rfl⟩⟩
  go_wp2
  go_ret2;exact⟨z,aS.o ▸ O.o.1,O.o.2.1,ab.o,.inr ⟨by have:=aq.o;omega,_,rfl,O.o.2.2⟩⟩
def Dt (T:lI):Prop:=T.Pairwise fun a b=>a.2<b.2/\b.1<a.1
def Behind (x:Int×Int)(T:lI):Prop:=∀ s,s∈T->x.2<s.2\/(x.2=s.2/\x.1<=s.1)
theorem Wt (x:Int×Int)(T:lI):∃ h,T=h++C8 x T:=by
 induction T with
 | nil=>exact⟨[],rfl⟩
 | cons t r D=>
  unfold C8;split
  · obtain⟨h,z⟩:=D;exact⟨t::h,by rw[yL,<- z]⟩
  exact⟨[],rfl⟩
theorem eY (x:Int×Int)(T:lI):C8 x T=[]\/∃ t r,C8 x T=t::r/\El x (t::r)=false:=by
 induction T with
 | nil=>exact .inl rfl
 | cons t r z=>
  unfold C8;split
  · exact z
  next h=>exact .inr ⟨t,r,rfl,by simpa using h⟩
theorem L8 {x t:Int×Int}{r:lI}(h:El x (t::r)=false):t.1<x.1:=by
 match r,h with
 | [],h=>have:=xE h;omega
 | u::r,h=>
  have z:(decide (x.1<=t.1) || decide ((x.1-t.1)*(u.2-t.2)<=(t.1-u.1)*(t.2-x.2)))=false:=h;rw[Bool.or_eq_false_iff]at z;have:=xE z.1;omega
theorem IJ {x:Int×Int}{T:lI}(N:Dt T)(J:Behind x T):Dt (x::C8 x T):=by
 obtain⟨Q,K⟩:=Wt x T;have D:Dt (C8 x T):=by have h:=N;unfold Dt at h;rw[K,List.pairwise_append]at h;exact h.2.1
 refine vN.2 ⟨fun s z=>?_,D⟩;rcases eY x T with h|⟨t,r,h,H⟩
 · rw[h]at z;cases z
 have O:=L8 H;rw[h]at D z;have U:=J t (Hg x T t (by rw[h];exact qA ..));have E:=vN.1 D;rcases qS.1 z with rfl|I
 · omega
 have:=E.1 s I;omega
theorem ZC (l:lI):∀ T,Dt T->(∀ x,x∈l->Behind x T)->l.Pairwise (fun a b=>b.2<a.2\/(b.2=a.2/\b.1<=a.1))->Dt (EU T l):=by
 induction l with
 | nil=>intro T J _ _;exact J
 | cons x r I=>
  intro T H z K;have E:=vN.1 K;refine I _ (IJ H (z x (qA ..))) (fun y D s h=>?_) E.2;rcases qS.1 h with rfl|h
  · exact E.1 y D
  exact z y (qG _ D) s (Hg x T s h)
theorem Ia {l:lI}(h:DR l):l.Pairwise (fun a b=>b.2<a.2\/(b.2=a.2/\b.1<=a.1)):=by
 rw[xC];intro i j E D z;exact h i j _ _ z (by simp[E]) (by simp[D])
theorem KL {l:lI}(h:DR l):Dt (EU [] l):=
 ZC l [] List.Pairwise.nil (fun _ _ s z=>by cases z) (Ia h)
def high (t:Int)(p:Int×Int):Int:=1000*p.1+p.2*t
theorem VH {x t u:Int×Int}{n:Int}(Q:x.2<=t.2)(J:t.2<u.2)(E:(x.1-t.1)*(u.2-t.2)<=(t.1-u.1)*(t.2-x.2)):high n x<=high n t\/high n u<=high n t:=by
 unfold high;by_cases h:1000*x.1+x.2*n<=1000*t.1+t.2*n
 · exact .inl h
 refine .inr ?_
 have V:(t.2-x.2)*n=t.2*n-x.2*n:=Int.sub_mul ..;have K:(u.2-t.2)*n=u.2*n-t.2*n:=Int.sub_mul ..;have D:(t.2-x.2)*n<1000*(x.1-t.1):=by omega
 have I:(u.2-t.2)*((t.2-x.2)*n)<(u.2-t.2)*(1000*(x.1-t.1)):=Int.mul_lt_mul_of_pos_left D (by omega);have N:(u.2-t.2)*(1000*(x.1-t.1))=1000*((x.1-t.1)*(u.2-t.2)):=by rw[xV,xK (u.2-t.2)]
 have z:(u.2-t.2)*((t.2-x.2)*n)=(t.2-x.2)*((u.2-t.2)*n):=by rw[xV]
 have O:(t.2-x.2)*((u.2-t.2)*n)<(t.2-x.2)*(1000*(t.1-u.1)):=by
  rw[<- z];have H:(t.2-x.2)*(1000*(t.1-u.1))=1000*((t.1-u.1)*(t.2-x.2)):=by rw[xV,xK (t.2-x.2)]
  omega
 have U:(u.2-t.2)*n<1000*(t.1-u.1):=by
  rcases(show(u.2-t.2)*n<1000*(t.1-u.1)\/1000*(t.1-u.1)<=(u.2-t.2)*n by omega)with h|h
  · exact h
  have:=qP h (show 0<=t.2-x.2 by omega);omega
 omega
theorem Wj {x t:Int×Int}{n:Int}(h:0<=n)(D:x.1<=t.1)(z:x.2<=t.2):high n x<=high n t:=by
 unfold high;have:=vT z h;omega
theorem iL {x:Int×Int}{n:Int}(J:0<=n)(T:lI):Dt T->Behind x T->∀ s,s∈T->∃ s',s'∈x::C8 x T/\high n s'<=high n s:=by
 induction T with
 | nil=>intro _ _ s z;cases z
 | cons t r I=>
  intro W K s z;have E:=vN.1 W;have H:Behind x r:=fun y U=>K y (qG _ U)
  unfold C8;split
  ·
   next D=>
   rcases qS.1 z with rfl|z
   ·
    have Y:=K s (qA ..)
    match r,D,I,E,H with
    | [],D,_,_,_=>
     have:=vM D;exact⟨x,qA ..,Wj J this (by omega)⟩
    | u::r,D,I,E,H=>
     have N:(decide (x.1<=s.1) || decide ((x.1-s.1)*(u.2-s.2)<=(s.1-u.1)*(s.2-x.2)))=true:=D;rw[Bool.or_eq_true]at N;have O:=E.1 u (qA ..);rcases N with h|h
     · exact⟨x,qA ..,Wj J (vM h) (by omega)⟩
     rcases VH (n:=n) (by omega) O.1 (vM h)with h|h
     · exact⟨x,qA ..,h⟩
     obtain⟨s',V,Q⟩:=I E.2 H u (qA ..);exact⟨s',V,Int.le_trans Q h⟩
   exact I E.2 H s z
  exact⟨s,qG _ z,q8 _⟩
theorem iB {n:Int}(O:0<=n)(l:lI):∀ T,Dt T->(∀ x,x∈l->Behind x T)->l.Pairwise (fun a b=>b.2<a.2\/(b.2=a.2/\b.1<=a.1))->∀ s,s∈T\/s∈l->∃ s',s'∈EU T l/\high n s'<=high n s:=by
 induction l with
 | nil=>intro T _ _ _ s z;rcases z with z|z;exact⟨s,z,q8 _⟩;cases z
 | cons x r Z=>
  intro T K H z s h;have N:=vN.1 z;have I:=H x (qA ..);have E:=Z (x :: C8 x T) (IJ K I) (fun y J s D=>by
   rcases qS.1 D with rfl|D
   · exact N.1 y J
   exact H y (qG _ J) s (Hg x T s D)) N.2
  rcases h with h|h
  · obtain⟨s1,Y,U⟩:=iL O T K I s h;obtain⟨V,W,Q⟩:=E s1 (.inl Y);exact⟨V,W,Int.le_trans Q U⟩
  rcases qS.1 h with rfl|h
  · exact E s (.inl (qA ..))
  exact E s (.inr h)
theorem Yd {n:Int}(z:0<=n){l:lI}(D:DR l)(s:Int×Int)(h:s∈l):∃ s',s'∈EU [] l/\high n s'<=high n s:=
 iB z l [] List.Pairwise.nil (fun _ _ s h=>by cases h) (Ia D) s (.inr h)
theorem Tp {l:lI}(z:DR l)(D:1<=l.length):1<=(EU [] l).length:=by
 cases l with
 | nil=>simp at D
 | cons s r=>
  obtain⟨s',h,_⟩:=Yd (n:=0) (q8 _) z s (qA ..);exact List.length_pos_of_mem h
end Go.Proofs.YtejlihcdfffafaaGreatDoor
