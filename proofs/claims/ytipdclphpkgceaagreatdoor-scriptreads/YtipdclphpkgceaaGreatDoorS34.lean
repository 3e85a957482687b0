/- Own facts, put together: no statement of its own. -/
import Derived.Test.YtipdclphpkgceaaGreatDoorS33
import Derived.Test.YtipdclphpkgceaaGreatDoorS27
import Derived.Test.YtipdclphpkgceaaGreatDoorS25
import Derived.Test.YtipdclphpkgceaaGreatDoorS08
import Derived.Test.YtipdclphpkgceaaGreatDoorS12
set_option maxHeartbeats 4000000
set_option maxRecDepth 100000

namespace Go.Proofs.YtipdclphpkgceaaGreatDoor
open Go.RowKit
def SentRounds (per:Int) (ps:List Pk) (ns:List Int) (B:Nat) (w:World) (v:Value) (w':World):Prop:=∃ l,OwnS w' w.heap.size v l ∧ RoundSent per ps ns l ∧ Below B w w'
theorem roundSend_ok (a:Option Addr) (cap:Nat) (ps:List Pk) (per:Int) (na:Option Addr) (ncap:Nat) (ns:List Int) (B:Nat) (W0:World) (g:Nat) (D0:Nat → Prop) (w:World) (E:TurnsEnv B W0 a na ps ns) (h1:1 ≤ per) (h2:per ≤ 1000) (h0:HeldT B W0 g (.slice a ps.length cap) (.slice na ns.length ncap) w D0 turns0) :
  Calls Tryz.prog 169 #[.slice a ps.length cap,.int .i64 per,.iface 266 (ruleT g)] w fun e w'=>∃ v,e=.returned v ∧ SentRounds per ps ns B w v w':=by
 have hqu:∀ f,1 ≤ quOf ns f:=fun f=>(quOf_in E.ns.each (by omega) f).1
 have hlaw:=turns_law (per:=per) (ps:=ps) E.ok hqu
 have hlen:∀ s,Reaches (turnsQ ps ns) per ps turns0 s → s.q.n ≤ 300:=fun s hr=>by
  have hc:=hr.count hlaw
  have hn:=hr.next_le
  have:=E.ok.few
  have:(turnsQ ps ns).rest s.q=s.q.n:=rfl
  omega
 refine (send_any (turnsQ ps ns) (HeldT B W0 g (.slice a ps.length cap) (.slice na ns.length ncap)) per ps turns0 B _ _ _ (turnsMem B W0 g _ _) hlaw E.ok h1 h2 ?_ ?_ ?_ a cap w (E.pk.bel E.pB h0.env) h0.le E.pB D0 h0).mono ?_
 ·
  intro w D s p hr hp hh
  exact turnsRuleCome E hh (turns_ok E.ok hqu hr) (hlen s hr) hp
 ·
  intro w D s hr h0' hh
  exact turnsRulePick E hh (turns_ok E.ok hqu hr) h0' (hlen s hr) (fun f=>by
   obtain ⟨f1,f2⟩:=turns_few E.ok hqu hr f
   exact ⟨f1,fun k hk=>by have:=(f2 k hk).1;have:=hr.next_le;omega⟩)
 ·
  intro w D s hr hh
  rw [asked_same _ (fun _=>rfl)]
  exact turnsRuleRest hh
 ·
  rintro e w' ⟨s,v,rfl,hr,hn,hrest,hown,hb⟩
  exact ⟨v,rfl,s.out,hown,⟨s,hr,hn,hrest,rfl⟩,hb⟩
theorem roundRun_ok (a:Option Addr) (cap:Nat) (ps:List Pk) (per:Int) (na:Option Addr) (ncap:Nat) (ns:List Int) (w:World) (hl:LiesP w a ps) (hn:LiesN w na ns) (ho:OkPks ps) (h1:1 ≤ per) (h2:per ≤ 1000) (hk:NumsOk 1 3000 ns) :
  Calls Tryz.prog 146 #[.slice a ps.length cap,.int .i64 per,.slice na ns.length ncap] w fun e w'=>∃ v,e=.returned (.tuple #[v,.nilIface]) ∧ SentRounds per ps ns w.heap.size w v w':=by
 have HCheck:Hid (∀ W,Below w.heap.size w W → Calls Tryz.prog 168 #[.slice a ps.length cap,.int .i64 per] W fun e w'=>e=.returned .nilIface ∧ Below W.heap.size W w'):=fun W hb=>linkCheck_ok a cap ps per W (hl.below hb) ho h1 h2
 have HUp:Hid (∀ W,Below w.heap.size w W → Calls Tryz.prog 175 #[.slice na ns.length ncap,.func (.func 176) #[] #[]] W fun e w'=>e=.returned .nilIface ∧ w'=W):=fun W hb=>checkQuanta_ok na ncap ns W (hn.below hb) hk
 have HSend:Hid (∀ W W3,Below w.heap.size w W → HeldT W.heap.size W W.heap.size (.slice a ps.length cap) (.slice na ns.length ncap) W3 (fun k=>k=W.heap.size) turns0 → Below W.heap.size W W3 →
   Calls Tryz.prog 169 #[.slice a ps.length cap,.int .i64 per,.iface 266 (ruleT W.heap.size)] W3 fun e w'=>∃ v,e=.returned v ∧ SentRounds per ps ns w.heap.size w v w'):=fun W W3 hb h0 hb3=>by
  have hlW:=hl.below hb
  have hnW:=hn.below hb
  refine (roundSend_ok a cap ps per na ncap ns W.heap.size W W.heap.size _ W3 ⟨hlW,hnW,hlW.at_lt,fun ad had=>?_,ho,hk⟩ h1 h2 h0).mono ?_
  ·
   obtain ⟨b,off,e,hlt,-⟩:=hnW.place (by rw [hk.len];omega)
   rw [e] at had
   cases had
   exact hlt
  ·
   rintro e w' ⟨v,rfl,l,g1,g2,g3⟩
   exact ⟨v,rfl,l,ownsRow_mono g1 (Nat.le_trans hb.size hb3.size),g2,(hb.trans (hb3.mono hb.size)).trans (g3.mono hb.size)⟩
 clear hl hn ho hk
 generalize hpl:ps.length=n at *
 generalize hnl:ns.length=m at *
 clear hpl hnl
 go_enter Tryz.func146,Tryz.ntmps146
 go_wp2_with fail
 refine (HCheck.out _ (Below.refl _ _)).mono ?_
 rintro e w1 ⟨rfl,hb⟩
 have HB1:Hid (Below w.heap.size w w1):=hb
 clear hb
 go_wp2_with fail
 refine (HUp.out _ HB1.out).mono ?_
 rintro e w2 ⟨rfl,rfl⟩
 go_wp2_with fail
 refine (byTurns_any a n cap na m ncap w2).mono ?_
 rintro e w3 ⟨rfl,hh,hb3⟩
 have HS:Hid (Calls Tryz.prog 169 #[.slice a n cap,.int .i64 per,.iface 266 (ruleT w2.heap.size)] w3 fun e w'=>∃ v,e=.returned v ∧ SentRounds per ps ns w.heap.size w v w'):=HSend.out w2 w3 HB1.out hh hb3
 clear hh hb3
 go_wp2_with fail
 refine HS.out.mono ?_
 rintro e w4 ⟨v,rfl,hs⟩
 have HE:Hid (SentRounds per ps ns w.heap.size w v w4):=hs
 clear hs
 go_wp2_with fail
 go_ret2
 exact ⟨v,rfl,HE.out⟩
theorem roundRun_err1 {R:TypeId → Value → World → Prop} (a:Option Addr) (n cap:Nat) (per:Int) (na:Option Addr) (m ncap:Nat) (w:World) (h:Calls Tryz.prog 168 #[.slice a n cap,.int .i64 per] w fun e w'=>∃ ty v,e=.returned (.iface ty v) ∧ R ty v w') :
  Calls Tryz.prog 146 #[.slice a n cap,.int .i64 per,.slice na m ncap] w fun e w'=>∃ ty v,e=.returned (.tuple #[.slice none 0 0,.iface ty v]) ∧ R ty v w':=by
 have HC:Hid (Calls Tryz.prog 168 #[.slice a n cap,.int .i64 per] w fun e w'=>∃ ty v,e=.returned (.iface ty v) ∧ R ty v w'):=h
 clear h
 go_enter Tryz.func146,Tryz.ntmps146
 go_wp2_with fail
 refine HC.out.mono ?_
 rintro e w1 ⟨ty,v,rfl,hR⟩
 have HR:Hid (R ty v w1):=hR
 clear hR
 go_wp2_with fail
 go_ret2
 exact ⟨ty,v,rfl,HR.out⟩
theorem roundRun_err2 {R:TypeId → Value → World → Prop} (a:Option Addr) (n cap:Nat) (per:Int) (na:Option Addr) (m ncap:Nat) (w:World) (h:Calls Tryz.prog 168 #[.slice a n cap,.int .i64 per] w fun e w'=>e=.returned .nilIface ∧ Below w.heap.size w w')
  (h2:∀ W,Below w.heap.size w W → Calls Tryz.prog 175 #[.slice na m ncap,.func (.func 176) #[] #[]] W fun e w'=>∃ ty v,e=.returned (.iface ty v) ∧ R ty v w') :
  Calls Tryz.prog 146 #[.slice a n cap,.int .i64 per,.slice na m ncap] w fun e w'=>∃ ty v,e=.returned (.tuple #[.slice none 0 0,.iface ty v]) ∧ R ty v w':=by
 have HC:Hid (Calls Tryz.prog 168 #[.slice a n cap,.int .i64 per] w fun e w'=>e=.returned .nilIface ∧ Below w.heap.size w w'):=h
 have HU:Hid (∀ W,Below w.heap.size w W → Calls Tryz.prog 175 #[.slice na m ncap,.func (.func 176) #[] #[]] W fun e w'=>∃ ty v,e=.returned (.iface ty v) ∧ R ty v w'):=h2
 clear h h2
 go_enter Tryz.func146,Tryz.ntmps146
 go_wp2_with fail
 refine HC.out.mono ?_
 rintro e w1 ⟨rfl,hb⟩
 have HB:Hid (Below w.heap.size w w1):=hb
 clear hb
 go_wp2_with fail
 refine (HU.out _ HB.out).mono ?_
 rintro e w2 ⟨ty,v,rfl,hR⟩
 have HR:Hid (R ty v w2):=hR
 clear hR
 go_wp2_with fail
 go_ret2
 exact ⟨ty,v,rfl,HR.out⟩
theorem Tryz.keyed:Go.Maps.Keyed Tryz.prog 3:=Go.Maps.int_keyed Tryz.underlying3
theorem Tryz.zeroInt (w:World):(zeroValue 3).run Tryz.prog w=.ok (.int .i64 0) w:=by kernel_rfl
theorem Tryz.underMap:Tryz.prog.underlying 274=some (.map 3 3):=by kernel_rfl
section
variable {B:Nat} {W0:World} {g gt gm n:Nat} {pv qv:Value} {w:World} {D:Nat → Prop} {q:FQ}
theorem fairRest_some (h:HeldW B W0 g gt gm n pv qv w D q) (h0:0 < q.q.length) :
  Calls Tryz.prog 210 #[.pointer (some ⟨g,0,none⟩)] w fun e w'=>e=.returned (.int .i64 (q.q.length:Int)) ∧ w'=w:=by
 obtain ⟨rv,hA,hD⟩:=h.parts
 have hr:=hA.row
 rw [← asInts_length] at hr
 obtain ⟨ao,cap,rfl,hlc,hcm⟩:=own_open hr
 rw [asInts_length] at hlc hA
 have c5:=hA.cells.c5
 obtain ⟨l,hl⟩:∃ l,q.q.length=l:=⟨_,rfl⟩
 rw [hl] at c5 hlc h0 ⊢
 have h1:((l:Int) == 0)=false:=by simpa using (show l ≠ 0 by omega)
 have h2:(l:Int) ≠ 0:=by omega
 unfold maxLen at hcm
 clear hA hr hD h hl
 go_enter Tryz.func210,Tryz.ntmps210
 go_wp2
 go_ret
 exact ⟨rfl,rfl⟩
theorem fairRest_none (h:HeldW B W0 g gt gm n pv qv w D q) (h0:q.q.length=0) :
  Calls Tryz.prog 210 #[.pointer (some ⟨g,0,none⟩)] w fun e w'=>e=.returned (.int .i64 0) ∧ QueLeft (HeldW B W0 g gt gm n pv qv) w w' D q.rests:=by
 have HH:Hid (HeldW B W0 g gt gm n pv qv w D q):=h
 obtain ⟨rv,hA,hD⟩:=h.parts
 have hr:=hA.row
 rw [← asInts_length] at hr
 obtain ⟨ao,cap,rfl,hlc,hcm⟩:=own_open hr
 rw [asInts_length] at hlc hA hD
 rw [h0] at hlc hA hD
 have c5:=hA.cells.c5
 have c4:=hA.cells.c4
 have f4:=hA.cells.free 4
 have hV:=hA.setV 0
 have d3:=hV.cells.c3
 have d5:=hV.cells.c5
 have HV:Hid (FairAt B g gt gm n pv qv (w.setCell ⟨g,4,none⟩ (.int .i64 0)) (.slice ao 0 cap) { q with v:=0 } ∧ (∀ k,D k ↔ fairFoot g gt gm (.slice ao 0 cap) k) ∧ But (fun k=>k=g) w (w.setCell ⟨g,4,none⟩ (.int .i64 0))):=⟨hV,hD,butF _ _ _ _⟩
 obtain ⟨w1,hclr,ht,hg⟩:=hV.tells.cleared Tryz.underMap 0
 have HF0:=hV.setLast hg ht
 have e5:=HF0.1.cells.c5
 have HF:Hid (FairAt B g gt gm n pv qv w1 (.slice ao 0 cap) { q with v:=0,last:=fun _=>0 } ∧ But (fun k=>k=gm) (w.setCell ⟨g,4,none⟩ (.int .i64 0)) w1):=HF0
 unfold maxLen at hcm
 clear hA hr hD h hV ht hg HF0
 go_enter Tryz.func210,Tryz.ntmps210
 go_wp2
 go_ret
 refine ⟨rfl,HH.out.leaves (q':=q.rests) HV.out.2.1 ((HV.out.2.2.mono fun k hk=>(HV.out.2.1 k).2 (.inl hk)).trans (HF.out.2.mono fun k hk=>(HV.out.2.1 k).2 (.inr (.inr (.inl hk))))) HF.out.1 (fun k hk=>.inl hk)⟩
end
structure FairEnv (B:Nat) (W0:World) (pa qa:Option Addr) (ps:List Pk) (ws:List Int):Prop where
 pk:LiesP W0 pa ps
 nu:LiesN W0 qa ws
 pB:∀ ad,pa=some ad → 0 < ps.length → ad.block < B
 qB:∀ ad,qa=some ad → ad.block < B
 ok:OkPks ps
 ws:WtsAll ws
theorem wts_bel {B:Nat} {w w':World} {a:Option Addr} {xs:List Int} (h:LiesN w a xs) (ha:∀ ad,a=some ad → ad.block < B) (hb:Below B w w'):LiesN w' a xs:=by
 rcases h with rfl | ⟨b,off,rfl,hlt,hc⟩
 · exact .inl rfl
 ·
  have hB:b < B:=ha ⟨b,off,none⟩ rfl
  exact .inr ⟨b,off,rfl,Nat.lt_of_lt_of_le hlt hb.size,fun i x hi=>by rw [hb.cell (p:=⟨b,off+i,none⟩) hB];exact hc i x hi⟩
section
variable {B:Nat} {W0:World} {g gt gm n:Nat} {pv qv:Value} {w:World} {D:Nat → Prop} {q:FQ}
theorem HeldW.same {w':World} (h:HeldW B W0 g gt gm n pv qv w D q) (hb:Below w.heap.size w w'):QueLeft (HeldW B W0 g gt gm n pv qv) w w' D q:=⟨D,h.later hb,.ofBelow hb,fun _ hk=>.inl hk⟩
theorem fairRest {ps:List Pk} {ws:List Int} (h:HeldW B W0 g gt gm n pv qv w D q) :
  Calls Tryz.prog 210 #[.pointer (some ⟨g,0,none⟩)] w fun e w'=>e=.returned (.int .i64 (q.q.length:Int)) ∧ QueLeft (HeldW B W0 g gt gm n pv qv) w w' D ((fairQ ps ws).asked q):=by
 by_cases h0:q.q.length=0
 ·
  have e:(fairQ ps ws).asked q=q.rests:=if_pos h0
  rw [e,h0]
  exact fairRest_none h h0
 ·
  have e:(fairQ ps ws).asked q=q:=if_neg h0
  rw [e]
  refine (fairRest_some h (by omega)).mono ?_
  rintro e w' ⟨rfl,rfl⟩
  exact ⟨rfl,h.same (Below.refl _ _)⟩
theorem fairTagOf {rv:Value} (h:FairAt B g gt gm n pv qv w rv q) {k:Nat} (hk:k < n) :
  Calls Tryz.prog 225 #[.pointer (some ⟨g,0,none⟩),.int .i64 (k:Int)] w fun e w'=>e=.returned (.int .i64 (q.tag k)) ∧ ∃ m,w'=w.drewN m:=by
 have c2:=h.cells.c2
 have ck:=h.given.cell k hk
 generalize q.tag k=x at *
 clear h
 go_enter Tryz.func225,Tryz.ntmps225
 go_wp2_with fail
 go_ret
 exact ⟨rfl,0,rfl⟩
theorem fairPick {ps:List Pk} {ws:List Int} (h:HeldW B W0 g gt gm n pv qv w D q) (h0:0 < q.q.length) (hn:q.q.length ≤ 300) (hnd:q.q.Nodup) (hq:∀ k,k ∈ q.q → k < n) :
  Calls Tryz.prog 209 #[.pointer (some ⟨g,0,none⟩)] w fun e w'=>e=.returned (.int .i64 ((fairQ ps ws).pick q:Nat)) ∧ QueLeft (HeldW B W0 g gt gm n pv qv) w w' D ((fairQ ps ws).left q):=by
 have HH:Hid (HeldW B W0 g gt gm n pv qv w D q):=h
 obtain ⟨rv,hA,hD⟩:=h.parts
 have hr:=hA.row
 rw [← asInts_length] at hr
 obtain ⟨r,cap,rfl,hlc,hcm,-⟩:=own_some hr (by rw [asInts_length];exact h0)
 rw [asInts_length] at hlc hA hD hr
 have hpl:=pickAt_lt q.tag h0
 obtain ⟨k,hk⟩:∃ k,q.q.getD (pickAt q.tag q.q) 0=k:=⟨_,rfl⟩
 have hkn:k < n:=hq k (by rw [← hk,getD_lt hpl];exact List.getElem_mem hpl)
 have ht:=takeLeastB B 225 (.pointer (some ⟨g,0,none⟩)) q.tag n r cap q.q w (by omega) h0 hq hr hlc hcm (fun _ _=>rfl) (fun m' k hk=>fairTagOf (w:=w.drewN m') (hA.later (below_drewN (Below.refl _ _) _)) hk)
 unfold LeastTaken at ht
 have c5:=hA.cells.c5
 have hkm:∀ x,x=q.tag k → True:=fun _ _=>trivial
 have HA:Hid (FairAt B g gt gm n pv qv w (.slice (some ⟨r,0,none⟩) q.q.length cap) q ∧ (∀ k,D k ↔ fairFoot g gt gm (.slice (some ⟨r,0,none⟩) q.q.length cap) k)):=⟨hA,hD⟩
 have HLen:Hid ((q.q.eraseIdx (pickAt q.tag q.q)).length=q.q.length - 1):=by
  show _=_
  rw [List.length_eraseIdx,if_pos hpl]
 have HL:Hid ((fairQ ps ws).pick q=k ∧ (fairQ ps ws).left q={ q with q:=q.q.eraseIdx (pickAt q.tag q.q),v:=q.tag k }):=by
  refine ⟨hk,?_⟩
  show q.left (q.q.getD (pickAt q.tag q.q) 0)=_
  rw [erase_filter _ _ hnd hpl,hk]
  rfl
 rw [HL.out.1,HL.out.2]
 obtain ⟨l,hl⟩:∃ l,q.q.length=l:=⟨_,rfl⟩
 obtain ⟨pk,hpk⟩:∃ pk,pickAt q.tag q.q=pk:=⟨_,rfl⟩
 obtain ⟨T,hT⟩:∃ T,q.tag k=T:=⟨_,rfl⟩
 rw [hk,hl,hpk] at ht
 rw [hpk] at HLen ⊢
 have HT:Hid (Calls Tryz.prog 202 #[.slice (some ⟨r,0,none⟩) l cap,.func (.func 225) #[.pointer (some ⟨g,0,none⟩)] #[]] w fun e w'=>e=.returned (.tuple #[.int .i64 (k:Nat),.slice (some ⟨r,0,none⟩) (l - 1) cap]) ∧ w'.ownsRow B 3 1 (.slice (some ⟨r,0,none⟩) (l - 1) cap) (l - 1) (ints (asInts (q.q.eraseIdx pk))) ∧ But (fun j=>j=r) w w'):=ht
 have HLn:Hid (q.q.length=l ∧ q.tag k=T):=⟨hl,hT⟩
 rw [hl] at c5 hn h0 hlc
 rw [hT]
 clear hr hA hD h hk hq hpl hnd hl hpk ht hkm hT
 go_enter Tryz.func209,Tryz.ntmps209
 go_wp2_with fail
 refine HT.out.mono ?_
 rintro e w2 ⟨rfl,hown2,hbut2⟩
 have hR:FairAt B g gt gm n pv qv (w2.setCell ⟨g,5,none⟩ (.slice (some ⟨r,0,none⟩) (l - 1) cap)) (.slice (some ⟨r,0,none⟩) (l - 1) cap) { q with q:=q.q.eraseIdx pk }:=
  HA.out.1.setR (r':=q.q.eraseIdx pk) (hbut2.mono fun j hj=>by rw [hj];rfl) (by rw [HLen.out,HLn.out.1];exact hown2) (fun j hj=>.inl hj)
 have hA2:=HA.out.1.cells.but (S:=fun j=>j=r) hbut2 (fun e=>HA.out.1.rapart.1 (by rw [← e];rfl))
 have f2:=hA2.free 5
 have d5:=hA2.c5
 have d2:=hR.cells.c2
 have dk:=hR.given.cell k hkn
 have f4:=hR.cells.free 4
 have d4:=hR.cells.c4
 have hdk:(FQ.mk (q.q.eraseIdx pk) q.tag q.v q.last).tag k=T:=HLn.out.2
 rw [hdk] at dk
 have HR:Hid (FairAt B g gt gm n pv qv (w2.setCell ⟨g,5,none⟩ (.slice (some ⟨r,0,none⟩) (l - 1) cap)) (.slice (some ⟨r,0,none⟩) (l - 1) cap) { q with q:=q.q.eraseIdx pk } ∧ But (fun j=>j=r) w w2):=⟨hR,hbut2⟩
 clear hR hown2 hbut2 hA2 hdk
 go_wp2_with fail
 go_ret
 have hDr:D r:=(HA.out.2 r).2 (.inr (.inr (.inr rfl)))
 have hDg:D g:=(HA.out.2 g).2 (.inl rfl)
 exact ⟨rfl,HH.out.leaves HA.out.2 ((HR.out.2.mono fun j hj=>by rw [hj];exact hDr).trans (((butF _ _ _ _).mono fun j hj=>by rw [hj];exact hDg).trans ((butF _ _ _ _).mono fun j hj=>by rw [hj];exact hDg))) (HR.out.1.setV T) (fun j hj=>.inl hj)⟩
end
section
variable {B:Nat} {W0:World} {g gt gm:Nat} {pa:Option Addr} {pcap:Nat} {qa:Option Addr} {qcap:Nat} {ps:List Pk} {ws:List Int} {D:Nat → Prop} {q:FQ} {w:World}
theorem fairCome (E:FairEnv B W0 pa qa ps ws) (h:HeldW B W0 g gt gm ps.length (.slice pa ps.length pcap) (.slice qa ws.length qcap) w D q) (hn:q.q.length ≤ 300) (hv:0 ≤ q.v ∧ q.v ≤ 100000000) (hl:∀ f,0 ≤ q.last f ∧ q.last f ≤ 100000000) {k:Nat} {p:Pk} (hp:ps[k]? = some p) :
  Calls Tryz.prog 208 #[.pointer (some ⟨g,0,none⟩),.int .i64 (k:Int)] w fun e w'=>e=.returned (.tuple #[]) ∧ QueLeft (HeldW B W0 g gt gm ps.length (.slice pa ps.length pcap) (.slice qa ws.length qcap)) w w' D ((fairQ ps ws).come q k):=by
 have HH:Hid (HeldW B W0 g gt gm ps.length (.slice pa ps.length pcap) (.slice qa ws.length qcap) w D q):=h
 have HB:Hid (B ≤ w.heap.size):=h.le
 obtain ⟨rv,hA,hD⟩:=h.parts
 have hkl:=lt_of_get hp
 have hf8:=flow_lt E.ok k
 have hok:=okPk_true (E.ok.each _ p hp).1
 have hfew:=E.ok.few
 have hpf:p.flow=((flowOf ps k:Nat):Int):=by rw [flowOf_get hp];omega
 have hlw:LiesP w pa ps:=E.pk.bel E.pB h.env
 have hnw:LiesN w qa ws:=wts_bel E.nu E.qB h.env
 obtain ⟨x,hx,-⟩:=get_some ws (flowOf ps k) (by rw [E.ws.len];exact hf8)
 have hwt:=E.ws.each _ x hx
 have h12:=isWt_le hwt
 have hinc:incOf ps ws k=p.size * (12 / x):=by unfold incOf;rw [sizeAt_get hp,quOf_get hx]
 have hincr:=incOf_in E.ws.ok E.ok k
 have hdiv:=inc_tdiv hwt (show 0 ≤ p.size by omega)
 rw [← hinc] at hdiv
 obtain ⟨pb,off,rfl,hplt,hc⟩:=hlw.place (by omega)
 obtain ⟨qb,qo,rfl,hqlt,hqc⟩:=hnw.place (by rw [E.ws.len];omega)
 have hw8:=E.ws.len
 have hcome:(fairQ ps ws).come q k=⟨q.q ++ [k],put1 q.tag k (max q.v (q.last (flowOf ps k))+incOf ps ws k),q.v,put1 q.last (flowOf ps k) (max q.v (q.last (flowOf ps k))+incOf ps ws k)⟩:=rfl
 rw [hcome]
 have hlf:=hl (flowOf ps k)
 obtain ⟨f,hf⟩:∃ f,flowOf ps k=f:=⟨_,rfl⟩
 obtain ⟨I,hI⟩:∃ I,incOf ps ws k=I:=⟨_,rfl⟩
 obtain ⟨z,hz⟩:∃ z,p.size=z:=⟨_,rfl⟩
 obtain ⟨tk,htk⟩:∃ tk,p.tick=tk:=⟨_,rfl⟩
 obtain ⟨la,hla⟩:∃ la,q.last f=la:=⟨_,rfl⟩
 obtain ⟨cv,hcv⟩:∃ cv,q.v=cv:=⟨_,rfl⟩
 obtain ⟨n,hnl⟩:∃ n,ps.length=n:=⟨_,rfl⟩
 have d0:=(hc k p hp).1
 have d1:=(hc k p hp).2.1
 have d2:=(hc k p hp).2.2
 rw [hf] at hpf hx hf8 hlf ⊢
 rw [hpf] at d0
 rw [hz] at d1 hdiv hok
 rw [htk] at d2
 rw [hI] at hdiv hincr ⊢
 rw [hla] at hlf ⊢
 rw [hcv] at hv ⊢
 have dq:=hqc f x hx
 have hbW:Below w.heap.size w (w.alloc (.cells #[.int .i64 (f:Int),.int .i64 z,.int .i64 tk] 58)):=(Below.refl _ _).alloc (Nat.le_refl _) _
 have hAW:=hA.later hbW
 obtain ⟨W,hW⟩:∃ W,w.alloc (.cells #[.int .i64 (f:Int),.int .i64 z,.int .i64 tk] 58)=W:=⟨_,rfl⟩
 rw [hW] at hAW hbW
 have b0:W.cell? ⟨w.heap.size,0,none⟩=some (.int .i64 (f:Int)):=by rw [← hW];simp
 have b1:W.cell? ⟨w.heap.size,1,none⟩=some (.int .i64 z):=by rw [← hW];simp
 have a0:=hA.cells.c0
 have a1:=hAW.cells.c1
 have a2:=hAW.cells.c2
 have a3:=hAW.cells.c3
 have a4:=hAW.cells.c4
 rw [hcv] at a4
 rw [hnl] at a0 a2
 rw [hw8] at a1
 have eq:W.cell? ⟨qb,qo+f,none⟩=some (.int .i64 x):=cell_later hbW dq
 have hkey:keyOf Tryz.prog 3 (.int .i64 (f:Int))=some (.int .i64 (f:Int)):=Go.Maps.keyOf_int_mk Tryz.underlying3 (WalkArith.wf_i64 (by omega))
 have hlook:∀ m,(Instr.lookup 274 (.map (some gm)) (.int .i64 (f:Int)) false).run Tryz.prog (W.drewN m)=.ok (.int .i64 la) (W.drewN m):=fun m=>by
  have:=(hAW.later (below_drewN (Below.refl _ _) m)).tells.look Tryz.keyed Tryz.underMap Tryz.underlying3 (Tryz.zeroInt _) hkey
  rw [hla] at this
  exact this
 have HA:Hid (FairAt B g gt gm ps.length (.slice (some ⟨pb,off,none⟩) ps.length pcap) (.slice (some ⟨qb,qo,none⟩) ws.length qcap) W rv q ∧ (∀ k,D k ↔ fairFoot g gt gm rv k) ∧ Below w.heap.size w W):=⟨hAW,hD,hbW⟩
 have v1:IntKind.i64.wrap (z * 12)=z * 12:=IntWalk.i64_in _ (by omega)
 have hf8i:(f:Int) < 8:=by omega
 have hx1:1 ≤ x:=hwt.1
 have hx0:¬ x=0:=by omega
 have hx2:(x == 0)=false:=by simpa using hx0
 have v3:IntKind.i64.wrap I=I:=IntWalk.i64_in _ (by omega)
 obtain ⟨T,hT⟩:∃ T,max cv la+I=T:=⟨_,rfl⟩
 have v2:IntKind.i64.wrap (max cv la+I)=T:=by rw [← hT];exact IntWalk.i64_in _ (by omega)
 have HT:Hid (0 ≤ T ∧ T ≤ 200000000):=⟨by omega,by omega⟩
 rw [hT]
 have HW:Hid (w.alloc (.cells #[.int .i64 (f:Int),.int .i64 z,.int .i64 tk] 58)=W):=hW
 rw [hnl] at hkl hfew
 have HN:Hid (ps.length=n ∧ q.v=cv ∧ q.last f=la):=⟨hnl,hcv,hla⟩
 clear h hlw hnw hc hqc hp hx hinc hcome hA hAW hD hf hI hz htk hla hcv hnl hl hW hpf E
 go_enter Tryz.func208,Tryz.ntmps208
 go_wp2_with fail
 rw [HW.out]
 go_quiet (fail)
 obtain ⟨V,hV⟩:∃ V,W.drewN nq=V:=⟨_,rfl⟩
 rw [hV]
 have hbV:Below W.heap.size W V:=by rw [← hV];exact below_drewN (Below.refl _ _) _
 have hAV:=HA.out.1.later hbV
 have a2':=hAV.cells.c2
 rw [HN.out.1] at a2'
 have hkn:k < ps.length:=by rw [HN.out.1];exact hkl
 have ck:=hAV.given.cell k hkn
 have fk:=hAV.given.frozen k
 have hA2:=hAV.setTag hkn T
 have a3':=hA2.cells.c3
 have b0':(V.setCell ⟨gt,k,none⟩ (.int .i64 T)).cell? ⟨w.heap.size,0,none⟩=some (.int .i64 (f:Int)):=by
  rw [World.cell?_setCell_other _ _ _ _ (fun e=>by
   have e':gt=w.heap.size:=congrArg Addr.block e
   have:=(HH.out.foot gt (((HA.out.2.1 gt).2 (.inr (.inl rfl))))).2
   omega)]
  exact cell_later hbV b0
 have HV:Hid (FairAt B g gt gm ps.length (.slice (some ⟨pb,off,none⟩) ps.length pcap) (.slice (some ⟨qb,qo,none⟩) ws.length qcap) (V.setCell ⟨gt,k,none⟩ (.int .i64 T)) rv { q with tag:=put1 q.tag k T } ∧ Below W.heap.size W V):=⟨hA2,hbV⟩
 have hwf:(Lit.int .i64 T).wf=true:=WalkArith.wf_i64 (by have:=HT.out;omega)
 have hA2d:=hA2.later (below_drewN (Below.refl _ _) 1)
 obtain ⟨W3,hupd,ht3,hg3⟩:=hA2d.tells.store Tryz.keyed Tryz.underMap Tryz.underlying3 hf8 hkey hwf
 have h3:=hA2d.setLast hg3 ht3
 have a5:=h3.1.cells.c5
 have f5:=h3.1.cells.free 5
 have HV3:Hid (FairAt B g gt gm ps.length (.slice (some ⟨pb,off,none⟩) ps.length pcap) (.slice (some ⟨qb,qo,none⟩) ws.length qcap) W3 rv { q with tag:=put1 q.tag k T,last:=put1 q.last f T } ∧ But (fun k=>k=gm) ((V.setCell ⟨gt,k,none⟩ (.int .i64 T)).drewN 1) W3):=h3
 obtain ⟨V2,hV2⟩:∃ V2,V.setCell ⟨gt,k,none⟩ (.int .i64 T)=V2:=⟨_,rfl⟩
 have HV2:Hid (V.setCell ⟨gt,k,none⟩ (.int .i64 T)=V2):=hV2
 have hupd':(Instr.mapUpdate 274 (.map (some gm)) (.int .i64 (f:Int)) (.int .i64 T)).run Tryz.prog V2.drew=.ok () W3:=by rw [← hV2];exact hupd
 rw [hV2] at a3' b0'
 clear hV hbV hAV hA2 a0 a1 a2 a3 a4 d0 d1 d2 dq eq b0 b1 hlook v1 v2 v3 hkn hdiv hincr hupd h3 hA2d ht3 hg3
 go_wp2_with fail
 clear hV2
 go_region
 have H3:=HV3.out.1
 have hb0:Below W3.heap.size W3 (W3.alloc (.cells #[.int .i64 (k:Int)] 3)):=(Below.refl _ _).alloc (Nat.le_refl _) _
 have HA4:Hid (FairAt B g gt gm ps.length (.slice (some ⟨pb,off,none⟩) ps.length pcap) (.slice (some ⟨qb,qo,none⟩) ws.length qcap) (W3.alloc (.cells #[.int .i64 (k:Int)] 3)) rv { q with tag:=put1 q.tag k T,last:=put1 q.last f T }):=H3.later hb0
 have HRow:Hid ((W3.alloc (.cells #[.int .i64 (k:Int)] 3)).ownsRow B 3 1 rv q.q.length (ints (asInts q.q))):=HA4.out.row
 have HNew:Hid (∀ j u,(ints [(k:Int)])[j]? = some u → (W3.alloc (.cells #[.int .i64 (k:Int)] 3)).cell? (Addr.add ⟨W3.heap.size,0,none⟩ j)=some u):=by
  intro j u hu
  cases j with
  | zero=>simp [ints] at hu;subst hu;simp [Addr.add]
  | succ j=>simp [ints] at hu
 have HBs:Hid (B ≤ (W3.alloc (.cells #[.int .i64 (k:Int)] 3)).heap.size):=by
  have:=(HA4.out.foot g (.inl rfl))
  show B ≤ _
  omega
 obtain ⟨i0,hi,hz0,hz1,hz2⟩:=info_parts Tryz.infoInt
 clear H3 hb0
 go_wp2_with (at_builtin;go_must (refine wpList_append_lies _ rfl _ _ 32 rfl B 3 i0 (.int .i64 0) 1 8 Tryz.underlying32 hi hz0 hz1 hz2 rfl (by decide) rv q.q.length (ints (asInts q.q)) rfl HRow.out ⟨W3.heap.size,0,none⟩ 1 1 (ints [(k:Int)]) rfl rfl HNew.out (ints_one _) (by decide) (by unfold maxLen;omega) (by omega) HBs.out _ rfl ?_;intro g5 cap5 w5 ho5 hg5 hat5 hlt5;have hbut:But (fun k=>rv.ownBlock=some k) (W3.alloc (.cells #[.int .i64 (k:Int)] 3)) w5:=⟨hg5.os,hg5.tape,hg5.output,hg5.size,fun k hk hn=>hg5.block k hk (fun e=>hn e.symm)⟩;have hc5:=HA4.out.cells.but hbut (fun e=>HA4.out.rapart.1 e);have c5:=hc5.c5;have f5:=hc5.free 5;have H5:Hid (w5.ownsRow B 3 1 (.slice (some ⟨g5,0,none⟩) (q.q.length+1) cap5) (q.q.length+1) (ints (asInts q.q) ++ ints [(k:Int)]) ∧ But (fun k=>rv.ownBlock=some k) (W3.alloc (.cells #[.int .i64 (k:Int)] 3)) w5 ∧ (rv.ownBlock=some g5 ∨ g5=(W3.alloc (.cells #[.int .i64 (k:Int)] 3)).heap.size)):=⟨ho5,hbut,hat5⟩;clear ho5 hg5 hat5 hlt5 hbut hc5))
 go_end0
 have hnew5:∀ j,(Value.slice (some ⟨g5,0,none⟩) (q.q.length+1) cap5).ownBlock=some j → rv.ownBlock=some j ∨ (W3.alloc (.cells #[.int .i64 (k:Int)] 3)).heap.size ≤ j:=fun j hj=>by
  have e:g5=j:=Option.some.inj hj
  rcases H5.out.2.2 with h | h
  · exact .inl (by rw [← e];exact h)
  · exact .inr (by rw [← e,h];exact Nat.le_refl _)
 have hrow5:w5.ownsRow B 3 1 (.slice (some ⟨g5,0,none⟩) (q.q.length+1) cap5) (q.q ++ [k]).length (ints (asInts (q.q ++ [k]))):=by
  rw [asInts_snoc,List.length_append]
  exact H5.out.1
 have hfin:=HA4.out.setR (r':=q.q ++ [k]) H5.out.2.1 hrow5 hnew5
 have hDf:=HA.out.2.1
 have hg_:D g:=(hDf g).2 (.inl rfl)
 have hgt_:D gt:=(hDf gt).2 (.inr (.inl rfl))
 have hgm_:D gm:=(hDf gm).2 (.inr (.inr (.inl rfl)))
 have e1:But D w V:=(But.ofBelow HA.out.2.2).trans (.ofBelow HV.out.2)
 have e2:But D V V2:=by rw [← HV2.out];exact (butF V gt k _).mono fun j hj=>by rw [hj];exact hgt_
 have e3:But D V2 W3:=by
  have:=HV3.out.2
  rw [HV2.out] at this
  exact (But.ofBelow (below_drewN (Below.refl _ _) 1)).trans (this.mono fun j hj=>by rw [hj];exact hgm_)
 have e4:But D W3 (w5.setCell ⟨g,5,none⟩ (.slice (some ⟨g5,0,none⟩) (q.q.length+1) cap5)):=((But.ofBelow ((Below.refl _ _).alloc (Nat.le_refl _) _)).trans (H5.out.2.1.mono fun j hj=>(hDf j).2 (.inr (.inr (.inr hj))))).trans ((butF _ _ _ _).mono fun j hj=>by rw [hj];exact hg_)
 have hall:=((e1.trans e2).trans e3).trans e4
 refine ⟨rfl,HH.out.leaves hDf hall (by rw [HN.out.2.1] at hfin;exact hfin) (fun j hj=>?_)⟩
 rcases hnew5 j hj with h | h
 · exact .inl h
 ·
  exact .inr (by
   have:=((e1.trans e2).trans e3).size
   simp at h
   omega)
end
def ruleW (g:Nat):Value:=.agg #[.func (.func 208) #[.pointer (some ⟨g,0,none⟩)] #[],.func (.func 209) #[.pointer (some ⟨g,0,none⟩)] #[],.func (.func 210) #[.pointer (some ⟨g,0,none⟩)] #[]]
section
variable {B:Nat} {W0:World} {g gt gm:Nat} {pa:Option Addr} {pcap:Nat} {qa:Option Addr} {qcap:Nat} {ps:List Pk} {ws:List Int} {D:Nat → Prop} {q:FQ} {w:World} {pv qv:Value} {n:Nat}
theorem fairRuleRest (h:HeldW B W0 g gt gm n pv qv w D q) :
  Calls Tryz.prog 286 #[ruleW g] w fun e w'=>e=.returned (.int .i64 (q.q.length:Int)) ∧ QueLeft (HeldW B W0 g gt gm n pv qv) w w' D ((fairQ ps ws).asked q):=by
 have HP:Hid (∀ w',HeldW B W0 g gt gm n pv qv w' D q → Calls Tryz.prog 210 #[.pointer (some ⟨g,0,none⟩)] w' fun e w''=>e=.returned (.int .i64 (q.q.length:Int)) ∧ QueLeft (HeldW B W0 g gt gm n pv qv) w' w'' D ((fairQ ps ws).asked q)):=fun w' h'=>fairRest h'
 have HH:Hid (HeldW B W0 g gt gm n pv qv w D q):=h
 clear h
 unfold ruleW
 go_enter Tryz.func286,Tryz.ntmps286
 go_wp2_with fail
 refine (HP.out _ (HH.out.alloc _)).mono ?_
 rintro e w1 ⟨rfl,ho⟩
 have HO:Hid (QueLeft (HeldW B W0 g gt gm n pv qv) w w1 D ((fairQ ps ws).asked q)):=ho.after ((Below.refl _ _).alloc (Nat.le_refl _) _)
 clear ho
 go_wp2_with fail
 go_ret
 exact ⟨rfl,HO.out⟩
theorem fairRulePick (h:HeldW B W0 g gt gm n pv qv w D q) (h0:0 < q.q.length) (hn:q.q.length ≤ 300) (hnd:q.q.Nodup) (hq:∀ k,k ∈ q.q → k < n) :
  Calls Tryz.prog 285 #[ruleW g] w fun e w'=>e=.returned (.int .i64 ((fairQ ps ws).pick q:Nat)) ∧ QueLeft (HeldW B W0 g gt gm n pv qv) w w' D ((fairQ ps ws).left q):=by
 have HP:Hid (∀ w',HeldW B W0 g gt gm n pv qv w' D q → Calls Tryz.prog 209 #[.pointer (some ⟨g,0,none⟩)] w' fun e w''=>e=.returned (.int .i64 ((fairQ ps ws).pick q:Nat)) ∧ QueLeft (HeldW B W0 g gt gm n pv qv) w' w'' D ((fairQ ps ws).left q)):=fun w' h'=>fairPick h' h0 hn hnd hq
 have HH:Hid (HeldW B W0 g gt gm n pv qv w D q):=h
 clear h hq h0 hnd
 unfold ruleW
 go_enter Tryz.func285,Tryz.ntmps285
 go_wp2_with fail
 refine (HP.out _ (HH.out.alloc _)).mono ?_
 rintro e w1 ⟨rfl,ho⟩
 have HO:Hid (QueLeft (HeldW B W0 g gt gm n pv qv) w w1 D ((fairQ ps ws).left q)):=ho.after ((Below.refl _ _).alloc (Nat.le_refl _) _)
 clear ho
 go_wp2_with fail
 go_ret
 exact ⟨rfl,HO.out⟩
theorem fairRuleCome (E:FairEnv B W0 pa qa ps ws) (h:HeldW B W0 g gt gm ps.length (.slice pa ps.length pcap) (.slice qa ws.length qcap) w D q) (hn:q.q.length ≤ 300) (hv:0 ≤ q.v ∧ q.v ≤ 100000000) (hl:∀ f,0 ≤ q.last f ∧ q.last f ≤ 100000000) {k:Nat} {p:Pk} (hp:ps[k]? = some p) :
  Calls Tryz.prog 284 #[ruleW g,.int .i64 (k:Int)] w fun e w'=>e=.returned (.tuple #[]) ∧ QueLeft (HeldW B W0 g gt gm ps.length (.slice pa ps.length pcap) (.slice qa ws.length qcap)) w w' D ((fairQ ps ws).come q k):=by
 have HP:Hid (∀ w',HeldW B W0 g gt gm ps.length (.slice pa ps.length pcap) (.slice qa ws.length qcap) w' D q → Calls Tryz.prog 208 #[.pointer (some ⟨g,0,none⟩),.int .i64 (k:Int)] w' fun e w''=>e=.returned (.tuple #[]) ∧ QueLeft (HeldW B W0 g gt gm ps.length (.slice pa ps.length pcap) (.slice qa ws.length qcap)) w' w'' D ((fairQ ps ws).come q k)):=fun w' h'=>fairCome E h' hn hv hl hp
 have HH:Hid (HeldW B W0 g gt gm ps.length (.slice pa ps.length pcap) (.slice qa ws.length qcap) w D q):=h
 clear h hp hl hv
 unfold ruleW
 go_enter Tryz.func284,Tryz.ntmps284
 go_wp2_with fail
 refine (HP.out _ (HH.out.alloc _)).mono ?_
 rintro e w1 ⟨rfl,ho⟩
 have HO:Hid (QueLeft (HeldW B W0 g gt gm ps.length (.slice pa ps.length pcap) (.slice qa ws.length qcap)) w w1 D ((fairQ ps ws).come q k)):=ho.after ((Below.refl _ _).alloc (Nat.le_refl _) _)
 clear ho
 go_wp2_with fail
 go_end0
 exact ⟨rfl,HO.out⟩
end
def SentTags (per:Int) (ps:List Pk) (ws:List Int) (B g gt:Nat) (w:World) (v:Value) (w':World):Prop:=
 ∃ l f,OwnS w' w.heap.size v l ∧ FairSent per ps ws l ((List.range ps.length).map f) ∧ Below B w w' ∧ NumsAt w' gt ps.length f ∧ w'.cell? ⟨g,2,none⟩=some (.slice (some ⟨gt,0,none⟩) ps.length ps.length)
theorem asked_tag (ps:List Pk) (ws:List Int) (q:FQ):((fairQ ps ws).asked q).tag=q.tag:=by
 unfold Que.asked
 split <;> rfl
theorem fairSend_ok (a:Option Addr) (cap:Nat) (ps:List Pk) (per:Int) (na:Option Addr) (ncap:Nat) (ws:List Int) (B:Nat) (W0:World) (g gt gm:Nat) (D0:Nat → Prop) (w:World) (E:FairEnv B W0 a na ps ws) (h1:1 ≤ per) (h2:per ≤ 1000) (h0:HeldW B W0 g gt gm ps.length (.slice a ps.length cap) (.slice na ws.length ncap) w D0 fair0) :
  Calls Tryz.prog 169 #[.slice a ps.length cap,.int .i64 per,.iface 266 (ruleW g)] w fun e w'=>∃ v,e=.returned v ∧ SentTags per ps ws B g gt w v w':=by
 have hw:=E.ws.ok
 have hlaw:=fair_law (per:=per) hw E.ok h1
 have hlen:∀ s,Reaches (fairQ ps ws) per ps fair0 s → s.q.q.length ≤ 300 ∧ s.next ≤ 300:=fun s hr=>by
  have hc:=hr.count hlaw
  have hn:=hr.next_le
  have:=E.ok.few
  have:(fairQ ps ws).rest s.q=s.q.q.length:=rfl
  omega
 refine (send_held (fairQ ps ws) (HeldW B W0 g gt gm ps.length (.slice a ps.length cap) (.slice na ws.length ncap)) per ps fair0 B _ _ _ (fairMem B W0 g gt gm _ _ _) hlaw E.ok h1 h2 ?_ ?_ ?_ a cap w (E.pk.bel E.pB h0.env) h0.le E.pB D0 h0).mono ?_
 ·
  intro w D s p hr hp hh
  obtain ⟨l1,l2⟩:=hlen s hr
  obtain ⟨t1,t2,-⟩:=fair_tags hw E.ok hr
  exact fairRuleCome E hh l1 (by omega) (fun f=>by have:=t2 f;omega) hp
 ·
  intro w D s hr h0' hh
  obtain ⟨H,r⟩:=fair_run hw E.ok h1 hr
  exact fairRulePick hh h0' (hlen s hr).1 r.state.nodup (fun k hk=>by have:=(r.only k hk).1;have:=r.le;omega)
 ·
  intro w D s hr hh
  exact fairRuleRest hh
 ·
  rintro e w' ⟨s,v,rfl,hr,hn,hrest,hown,hb,D',hh⟩
  obtain ⟨rv,hA,-⟩:=hh.parts
  have hg:=hA.given
  rw [asked_tag] at hg
  exact ⟨v,rfl,s.out,s.q.tag,hown,⟨s,hr,hn,hrest,rfl,rfl⟩,hb,hg,hA.cells.c2⟩
theorem fairQueue_any (g:Nat) (w:World):Calls Tryz.prog 180 #[.pointer (some ⟨g,0,none⟩)] w fun e w'=>e=.returned (.iface 266 (ruleW g)) ∧ Below w.heap.size w w':=by
 unfold ruleW
 go_enter Tryz.func180,Tryz.ntmps180
 go_wp2_with fail
 go_ret
 exact ⟨rfl,Below.refl _ _⟩
theorem fair_new (w:World) (pv qv:Value) (pl:Nat) (ti tt:TypeId):FairAt w.heap.size (w.heap.size+1+1) w.heap.size (w.heap.size+1) pl pv qv (((w.alloc (.cells (madeCells #[.int .i64 0] pl) ti)).alloc (.map #[] 0)).alloc (.cells #[pv,qv,.slice (some ⟨w.heap.size,0,none⟩) pl pl,.map (some (w.heap.size+1)),.int .i64 0,.slice none 0 0] tt)) (.slice none 0 0) fair0 ∧ Below w.heap.size w (((w.alloc (.cells (madeCells #[.int .i64 0] pl) ti)).alloc (.map #[] 0)).alloc (.cells #[pv,qv,.slice (some ⟨w.heap.size,0,none⟩) pl pl,.map (some (w.heap.size+1)),.int .i64 0,.slice none 0 0] tt)):=by
 obtain ⟨w1,hw1⟩:∃ w1,w.alloc (.cells (madeCells #[.int .i64 0] pl) ti)=w1:=⟨_,rfl⟩
 obtain ⟨w2,hw2⟩:∃ w2,w1.alloc (.map #[] 0)=w2:=⟨_,rfl⟩
 have s1:w1.heap.size=w.heap.size+1:=by rw [← hw1];simp
 have s2:w2.heap.size=w.heap.size+1+1:=by rw [← hw2];simp [s1]
 have b1:Below w.heap.size w w1:=by rw [← hw1];exact (Below.refl _ _).alloc (Nat.le_refl _) _
 have b2:Below w1.heap.size w1 w2:=by rw [← hw2];exact (Below.refl _ _).alloc (Nat.le_refl _) _
 have t1:NumsAt w1 w.heap.size pl (fun _=>0):=by rw [← hw1];exact nums_made w pl ti
 have t2:Tells Tryz.prog 3 3 w2 (w.heap.size+1) (fun _=>0):=by rw [← hw2,← s1];exact tells_made w1 _ _ _
 rw [hw1,hw2]
 obtain ⟨cs,hcs⟩:∃ cs:Array Value,cs = #[pv,qv,.slice (some ⟨w.heap.size,0,none⟩) pl pl,.map (some (w.heap.size+1)),.int .i64 0,.slice none 0 0]:=⟨_,rfl⟩
 rw [← hcs]
 have hc:∀ i,(w2.alloc (.cells cs tt)).cell? ⟨w.heap.size+1+1,i,none⟩=cs[i]?:=fun i=>by rw [← s2];exact World.cell?_alloc_at _ _ _ _ rfl
 have b3:Below w2.heap.size w2 (w2.alloc (.cells cs tt)):=(Below.refl _ _).alloc (Nat.le_refl _) _
 have b13:Below w1.heap.size w1 (w2.alloc (.cells cs tt)):=b2.trans (b3.mono b2.size)
 refine ⟨⟨⟨by rw [hc,hcs];rfl,by rw [hc,hcs];rfl,by rw [hc,hcs];rfl,by rw [hc,hcs];rfl,by rw [hc,hcs];rfl,by rw [hc,hcs];rfl,fun i=>by rw [← s2];exact World.frozen?_alloc_new w2 _ _ i⟩,t1.of_block (b13.block _ t1.lt) b13.size,t2.but (S:=fun _=>False) (.ofBelow b3) id,World.ownsRow_nil _ _ _ _,by omega,⟨(fun e=>by cases e),(fun e=>by cases e),fun e=>by cases e⟩,by omega⟩,b1.trans (b13.mono b1.size)⟩
theorem newTags_any (pa:Option Addr) (pl pcap:Nat) (qa:Option Addr) (ql qcap:Nat) (w:World) (hpl:pl ≤ 1000) :
  Calls Tryz.prog 179 #[.slice pa pl pcap,.slice qa ql qcap] w fun e w'=>∃ g gt gm,e=.returned (.pointer (some ⟨g,0,none⟩)) ∧ HeldW w.heap.size w g gt gm pl (.slice pa pl pcap) (.slice qa ql qcap) w' (fairFoot g gt gm (.slice none 0 0)) fair0 ∧ Below w.heap.size w w':=by
 have hmi:∀ w':World,(Instr.makeSlice 32 (.int .i64 pl) (.int .i64 pl)).run Tryz.prog w'=.ok (.slice (some ⟨w'.heap.size,0,none⟩) pl pl) (w'.alloc (.cells (madeCells #[.int .i64 0] pl) 3)):=fun w'=>by
  obtain ⟨i0,hi,hz0,hz1,hz2⟩:=info_parts Tryz.infoInt
  have:=run_make (P:=Tryz.prog) w' 32 3 i0 (.int .i64 0) Tryz.underlying32 hi hz0 .i64 .i64 pl pl (by omega) (by omega) (by rw [hz2];omega) (by omega)
  simpa [hz1,Value.cells] using this
 have hmm:=@run_makeMap Tryz.prog
 go_enter Tryz.func179,Tryz.ntmps179
 go_wp2_with fail
 go_ret
 obtain ⟨h1,h2⟩:=fair_new w (.slice pa pl pcap) (.slice qa ql qcap) pl 3 276
 exact ⟨_,_,_,rfl,⟨h2,_,h1,fun _=>Iff.rfl⟩,h2⟩
end Go.Proofs.YtipdclphpkgceaaGreatDoor
