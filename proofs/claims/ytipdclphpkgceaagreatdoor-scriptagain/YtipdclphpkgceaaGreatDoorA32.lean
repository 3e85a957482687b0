/- Own facts, put together: no statement of its own. -/
import Derived.Test.YtipdclphpkgceaaGreatDoorA31
import Derived.Test.YtipdclphpkgceaaGreatDoorA11
import Derived.Test.YtipdclphpkgceaaGreatDoorA16
import Derived.Test.YtipdclphpkgceaaGreatDoorA30
import Derived.Test.YtipdclphpkgceaaGreatDoorA12
import Derived.Test.YtipdclphpkgceaaGreatDoorA22
import Derived.Deep.RegionHeld3
import Derived.Test.YtipdclphpkgceaaGreatDoorA15
set_option maxHeartbeats 4000000
set_option maxRecDepth 100000

namespace Go.Proofs.YtipdclphpkgceaaGreatDoor
open Go.RowKit
def GU (g:Nat):Value:=.agg #[.func (.func 208) #[.pointer (some ⟨g,0,none⟩)] #[],.func (.func 209) #[.pointer (some ⟨g,0,none⟩)] #[],.func (.func 210) #[.pointer (some ⟨g,0,none⟩)] #[]]
section
variable {B:Nat} {W0:World} {g gt gm:Nat} {pa:Option Addr} {pcap:Nat} {qa:Option Addr} {qcap:Nat} {ps:List Pk} {ws:List Int} {D:Nat → Prop} {q:FQ} {w:World} {pv qv:Value} {n:Nat}
theorem Qy (h:Bf B W0 g gt gm n pv qv w D q) :
  Calls Tryz.prog 286 #[GU g] w fun e w'=>e=.returned (.int .i64 (q.q.length:Int)) ∧ Az (Bf B W0 g gt gm n pv qv) w w' D ((BD ps ws).asked q):=by
 have HP:Hid (∀ w',Bf B W0 g gt gm n pv qv w' D q → Calls Tryz.prog 210 #[.pointer (some ⟨g,0,none⟩)] w' fun e w''=>e=.returned (.int .i64 (q.q.length:Int)) ∧ Az (Bf B W0 g gt gm n pv qv) w' w'' D ((BD ps ws).asked q)):=fun w' h'=>YE h'
 have HH:Hid (Bf B W0 g gt gm n pv qv w D q):=h
 clear h
 unfold GU
 go_enter Tryz.func286,Tryz.ntmps286
 go_wp2_with fail
 refine (HP.out _ (HH.out.alloc _)).mono ?_
 rintro e w1 ⟨rfl,ho⟩
 have HO:Hid (Az (Bf B W0 g gt gm n pv qv) w w1 D ((BD ps ws).asked q)):=ho.after ((Below.refl _ _).alloc (Nat.le_refl _) _)
 clear ho
 go_wp2_with fail
 go_ret
 exact ⟨rfl,HO.out⟩
theorem Qw (h:Bf B W0 g gt gm n pv qv w D q) (h0:0 < q.q.length) (hn:q.q.length ≤ 300) (hnd:q.q.Nodup) (hq:∀ k,k ∈ q.q → k < n) :
  Calls Tryz.prog 285 #[GU g] w fun e w'=>e=.returned (.int .i64 ((BD ps ws).pick q:Nat)) ∧ Az (Bf B W0 g gt gm n pv qv) w w' D ((BD ps ws).left q):=by
 have HP:Hid (∀ w',Bf B W0 g gt gm n pv qv w' D q → Calls Tryz.prog 209 #[.pointer (some ⟨g,0,none⟩)] w' fun e w''=>e=.returned (.int .i64 ((BD ps ws).pick q:Nat)) ∧ Az (Bf B W0 g gt gm n pv qv) w' w'' D ((BD ps ws).left q)):=fun w' h'=>Ye h' h0 hn hnd hq
 have HH:Hid (Bf B W0 g gt gm n pv qv w D q):=h
 clear h hq h0 hnd
 unfold GU
 go_enter Tryz.func285,Tryz.ntmps285
 go_wp2_with fail
 refine (HP.out _ (HH.out.alloc _)).mono ?_
 rintro e w1 ⟨rfl,ho⟩
 have HO:Hid (Az (Bf B W0 g gt gm n pv qv) w w1 D ((BD ps ws).left q)):=ho.after ((Below.refl _ _).alloc (Nat.le_refl _) _)
 clear ho
 go_wp2_with fail
 go_ret
 exact ⟨rfl,HO.out⟩
theorem QC (E:Qz B W0 pa qa ps ws) (h:Bf B W0 g gt gm ps.length (.slice pa ps.length pcap) (.slice qa ws.length qcap) w D q) (hn:q.q.length ≤ 300) (hv:0 ≤ q.v ∧ q.v ≤ 100000000) (hl:∀ f,0 ≤ q.last f ∧ q.last f ≤ 100000000) {k:Nat} {p:Pk} (hp:ps[k]? = some p) :
  Calls Tryz.prog 284 #[GU g,.int .i64 (k:Int)] w fun e w'=>e=.returned (.tuple #[]) ∧ Az (Bf B W0 g gt gm ps.length (.slice pa ps.length pcap) (.slice qa ws.length qcap)) w w' D ((BD ps ws).come q k):=by
 have HP:Hid (∀ w',Bf B W0 g gt gm ps.length (.slice pa ps.length pcap) (.slice qa ws.length qcap) w' D q → Calls Tryz.prog 208 #[.pointer (some ⟨g,0,none⟩),.int .i64 (k:Int)] w' fun e w''=>e=.returned (.tuple #[]) ∧ Az (Bf B W0 g gt gm ps.length (.slice pa ps.length pcap) (.slice qa ws.length qcap)) w' w'' D ((BD ps ws).come q k)):=fun w' h'=>Zd E h' hn hv hl hp
 have HH:Hid (Bf B W0 g gt gm ps.length (.slice pa ps.length pcap) (.slice qa ws.length qcap) w D q):=h
 clear h hp hl hv
 unfold GU
 go_enter Tryz.func284,Tryz.ntmps284
 go_wp2_with fail
 refine (HP.out _ (HH.out.alloc _)).mono ?_
 rintro e w1 ⟨rfl,ho⟩
 have HO:Hid (Az (Bf B W0 g gt gm ps.length (.slice pa ps.length pcap) (.slice qa ws.length qcap)) w w1 D ((BD ps ws).come q k)):=ho.after ((Below.refl _ _).alloc (Nat.le_refl _) _)
 clear ho
 go_wp2_with fail
 go_end0
 exact ⟨rfl,HO.out⟩
end
def F8 (per:Int) (ps:List Pk) (ws:List Int) (B g gt:Nat) (w:World) (v:Value) (w':World):Prop:=
 ∃ l f,Ig w' w.heap.size v l ∧ ED per ps ws l ((List.range ps.length).map f) ∧ Below B w w' ∧ EU w' gt ps.length f ∧ w'.cell? ⟨g,2,none⟩=some (.slice (some ⟨gt,0,none⟩) ps.length ps.length)
theorem WX (ps:List Pk) (ws:List Int) (q:FQ):((BD ps ws).asked q).tag=q.tag:=by
 unfold Que.asked
 split <;> rfl
theorem Ta (a:Option Addr) (cap:Nat) (ps:List Pk) (per:Int) (na:Option Addr) (ncap:Nat) (ws:List Int) (B:Nat) (W0:World) (g gt gm:Nat) (D0:Nat → Prop) (w:World) (E:Qz B W0 a na ps ws) (h1:1 ≤ per) (h2:per ≤ 1000) (h0:Bf B W0 g gt gm ps.length (.slice a ps.length cap) (.slice na ws.length ncap) w D0 FJ) :
  Calls Tryz.prog 169 #[.slice a ps.length cap,.int .i64 per,.iface 266 (GU g)] w fun e w'=>∃ v,e=.returned v ∧ F8 per ps ws B g gt w v w':=by
 have hw:=E.ws.ok
 have hlaw:=NT (per:=per) hw E.ok h1
 have hlen:∀ s,Reaches (BD ps ws) per ps FJ s → s.q.q.length ≤ 300 ∧ s.next ≤ 300:=fun s hr=>by
  have hc:=hr.count hlaw
  have hn:=hr.next_le
  have:=E.ok.few
  have:(BD ps ws).rest s.q=s.q.q.length:=rfl
  omega
 refine (PD (BD ps ws) (Bf B W0 g gt gm ps.length (.slice a ps.length cap) (.slice na ws.length ncap)) per ps FJ B _ _ _ (Zr B W0 g gt gm _ _ _) hlaw E.ok h1 h2 ?_ ?_ ?_ a cap w (E.pk.bel E.pB h0.env) h0.le E.pB D0 h0).mono ?_
 ·
  intro w D s p hr hp hh
  obtain ⟨l1,l2⟩:=hlen s hr
  obtain ⟨t1,t2,-⟩:=Xm hw E.ok hr
  exact QC E hh l1 (by omega) (fun f=>by have:=t2 f;omega) hp
 ·
  intro w D s hr h0' hh
  obtain ⟨H,r⟩:=fair_run hw E.ok h1 hr
  exact Qw hh h0' (hlen s hr).1 r.state.nodup (fun k hk=>by have:=(r.only k hk).1;have:=r.le;omega)
 ·
  intro w D s hr hh
  exact Qy hh
 ·
  rintro e w' ⟨s,v,rfl,hr,hn,hrest,hown,hb,D',hh⟩
  obtain ⟨rv,hA,-⟩:=hh.parts
  have hg:=hA.given
  rw [WX] at hg
  exact ⟨v,rfl,s.out,s.q.tag,hown,⟨s,hr,hn,hrest,rfl,rfl⟩,hb,hg,hA.cells.c2⟩
theorem OY (g:Nat) (w:World):Calls Tryz.prog 180 #[.pointer (some ⟨g,0,none⟩)] w fun e w'=>e=.returned (.iface 266 (GU g)) ∧ Below w.heap.size w w':=by
 unfold GU
 go_enter Tryz.func180,Tryz.ntmps180
 go_wp2_with fail
 go_ret
 exact ⟨rfl,Below.refl _ _⟩
theorem Yx (w:World) (pv qv:Value) (pl:Nat) (ti tt:TypeId):BB w.heap.size (w.heap.size+1+1) w.heap.size (w.heap.size+1) pl pv qv (((w.alloc (.cells (madeCells #[.int .i64 0] pl) ti)).alloc (.map #[] 0)).alloc (.cells #[pv,qv,.slice (some ⟨w.heap.size,0,none⟩) pl pl,.map (some (w.heap.size+1)),.int .i64 0,.slice none 0 0] tt)) (.slice none 0 0) FJ ∧ Below w.heap.size w (((w.alloc (.cells (madeCells #[.int .i64 0] pl) ti)).alloc (.map #[] 0)).alloc (.cells #[pv,qv,.slice (some ⟨w.heap.size,0,none⟩) pl pl,.map (some (w.heap.size+1)),.int .i64 0,.slice none 0 0] tt)):=by
 obtain ⟨w1,hw1⟩:∃ w1,w.alloc (.cells (madeCells #[.int .i64 0] pl) ti)=w1:=⟨_,rfl⟩
 obtain ⟨w2,hw2⟩:∃ w2,w1.alloc (.map #[] 0)=w2:=⟨_,rfl⟩
 have s1:w1.heap.size=w.heap.size+1:=by rw [← hw1];simp
 have s2:w2.heap.size=w.heap.size+1+1:=by rw [← hw2];simp [s1]
 have b1:Below w.heap.size w w1:=by rw [← hw1];exact (Below.refl _ _).alloc (Nat.le_refl _) _
 have b2:Below w1.heap.size w1 w2:=by rw [← hw2];exact (Below.refl _ _).alloc (Nat.le_refl _) _
 have t1:EU w1 w.heap.size pl (fun _=>0):=by rw [← hw1];exact V7 w pl ti
 have t2:Fq Tryz.prog 3 3 w2 (w.heap.size+1) (fun _=>0):=by rw [← hw2,← s1];exact TR w1 _ _ _
 rw [hw1,hw2]
 obtain ⟨cs,hcs⟩:∃ cs:Array Value,cs = #[pv,qv,.slice (some ⟨w.heap.size,0,none⟩) pl pl,.map (some (w.heap.size+1)),.int .i64 0,.slice none 0 0]:=⟨_,rfl⟩
 rw [← hcs]
 have hc:∀ i,(w2.alloc (.cells cs tt)).cell? ⟨w.heap.size+1+1,i,none⟩=cs[i]?:=fun i=>by rw [← s2];exact World.cell?_alloc_at _ _ _ _ rfl
 have b3:Below w2.heap.size w2 (w2.alloc (.cells cs tt)):=(Below.refl _ _).alloc (Nat.le_refl _) _
 have b13:Below w1.heap.size w1 (w2.alloc (.cells cs tt)):=b2.trans (b3.mono b2.size)
 refine ⟨⟨⟨by rw [hc,hcs];rfl,by rw [hc,hcs];rfl,by rw [hc,hcs];rfl,by rw [hc,hcs];rfl,by rw [hc,hcs];rfl,by rw [hc,hcs];rfl,fun i=>by rw [← s2];exact World.frozen?_alloc_new w2 _ _ i⟩,t1.of_block (b13.block _ t1.lt) b13.size,t2.but (S:=fun _=>False) (.ofBelow b3) id,World.ownsRow_nil _ _ _ _,by omega,⟨(fun e=>by cases e),(fun e=>by cases e),fun e=>by cases e⟩,by omega⟩,b1.trans (b13.mono b1.size)⟩
theorem RQ (pa:Option Addr) (pl pcap:Nat) (qa:Option Addr) (ql qcap:Nat) (w:World) (hpl:pl ≤ 1000) :
  Calls Tryz.prog 179 #[.slice pa pl pcap,.slice qa ql qcap] w fun e w'=>∃ g gt gm,e=.returned (.pointer (some ⟨g,0,none⟩)) ∧ Bf w.heap.size w g gt gm pl (.slice pa pl pcap) (.slice qa ql qcap) w' (D7 g gt gm (.slice none 0 0)) FJ ∧ Below w.heap.size w w':=by
 have hmi:∀ w':World,(Instr.makeSlice 32 (.int .i64 pl) (.int .i64 pl)).run Tryz.prog w'=.ok (.slice (some ⟨w'.heap.size,0,none⟩) pl pl) (w'.alloc (.cells (madeCells #[.int .i64 0] pl) 3)):=fun w'=>by
  obtain ⟨i0,hi,hz0,hz1,hz2⟩:=info_parts Tryz.infoInt
  have:=run_make (P:=Tryz.prog) w' 32 3 i0 (.int .i64 0) Tryz.underlying32 hi hz0 .i64 .i64 pl pl (by omega) (by omega) (by rw [hz2];omega) (by omega)
  simpa [hz1,Value.cells] using this
 have hmm:=@run_makeMap Tryz.prog
 go_enter Tryz.func179,Tryz.ntmps179
 go_wp2_with fail
 go_ret
 obtain ⟨h1,h2⟩:=Yx w (.slice pa pl pcap) (.slice qa ql qcap) pl 3 276
 exact ⟨_,_,_,rfl,⟨h2,_,h1,fun _=>Iff.rfl⟩,h2⟩
theorem Qo (a:Option Addr) (cap:Nat) (ps:List Pk) (per:Int) (na:Option Addr) (ncap:Nat) (ws:List Int) (w:World) (hl:AO w a ps) (hn:AV w na ws) (ho:Aj ps) (h1:1 ≤ per) (h2:per ≤ 1000) (hk:GD ws) :
  Calls Tryz.prog 178 #[.slice a ps.length cap,.int .i64 per,.slice na ws.length ncap] w fun e w'=>e=.returned .nilIface ∧ Below w.heap.size w w':=by
 have HCheck:Hid (Calls Tryz.prog 168 #[.slice a ps.length cap,.int .i64 per] w fun e w'=>e=.returned .nilIface ∧ Below w.heap.size w w'):=Cn a cap ps per w hl ho h1 h2
 have HUp:Hid (∀ W,Below w.heap.size w W → Calls Tryz.prog 175 #[.slice na ws.length ncap,.func (.func 207) #[] #[]] W fun e w'=>e=.returned .nilIface ∧ w'=W):=fun W hb=>L9 na ncap ws W (hn.below hb) hk
 clear hl hn ho hk
 generalize ps.length=n at *
 generalize ws.length=m at *
 go_enter Tryz.func178,Tryz.ntmps178
 go_wp2_with fail
 refine HCheck.out.mono ?_
 rintro e w1 ⟨rfl,hb⟩
 have HB1:Hid (Below w.heap.size w w1):=hb
 clear hb
 go_wp2_with fail
 refine (HUp.out _ HB1.out).mono ?_
 rintro e w2 ⟨rfl,rfl⟩
 go_wp2_with fail
 go_ret
 exact ⟨rfl,HB1.out⟩
theorem Ni {R:TypeId → Value → World → Prop} (a:Option Addr) (n cap:Nat) (per:Int) (na:Option Addr) (m ncap:Nat) (w:World) (h:Calls Tryz.prog 168 #[.slice a n cap,.int .i64 per] w fun e w'=>∃ ty v,e=.returned (.iface ty v) ∧ R ty v w') :
  Calls Tryz.prog 178 #[.slice a n cap,.int .i64 per,.slice na m ncap] w fun e w'=>∃ ty v,e=.returned (.iface ty v) ∧ R ty v w':=by
 have HC:Hid (Calls Tryz.prog 168 #[.slice a n cap,.int .i64 per] w fun e w'=>∃ ty v,e=.returned (.iface ty v) ∧ R ty v w'):=h
 clear h
 go_enter Tryz.func178,Tryz.ntmps178
 go_wp2_with fail
 refine HC.out.mono ?_
 rintro e w1 ⟨ty,v,rfl,hR⟩
 have HR:Hid (R ty v w1):=hR
 clear hR
 go_wp2_with fail
 go_ret
 exact ⟨ty,v,rfl,HR.out⟩
theorem Mt {R:TypeId → Value → World → Prop} (a:Option Addr) (n cap:Nat) (per:Int) (na:Option Addr) (m ncap:Nat) (w:World) (h:Calls Tryz.prog 168 #[.slice a n cap,.int .i64 per] w fun e w'=>e=.returned .nilIface ∧ Below w.heap.size w w')
  (h2:∀ W,Below w.heap.size w W → Calls Tryz.prog 175 #[.slice na m ncap,.func (.func 207) #[] #[]] W fun e w'=>∃ ty v,e=.returned (.iface ty v) ∧ R ty v w') :
  Calls Tryz.prog 178 #[.slice a n cap,.int .i64 per,.slice na m ncap] w fun e w'=>∃ ty v,e=.returned (.iface ty v) ∧ R ty v w':=by
 have HC:Hid (Calls Tryz.prog 168 #[.slice a n cap,.int .i64 per] w fun e w'=>e=.returned .nilIface ∧ Below w.heap.size w w'):=h
 have HU:Hid (∀ W,Below w.heap.size w W → Calls Tryz.prog 175 #[.slice na m ncap,.func (.func 207) #[] #[]] W fun e w'=>∃ ty v,e=.returned (.iface ty v) ∧ R ty v w'):=h2
 clear h h2
 go_enter Tryz.func178,Tryz.ntmps178
 go_wp2_with fail
 refine HC.out.mono ?_
 rintro e w1 ⟨rfl,hb⟩
 have HB:Hid (Below w.heap.size w w1):=hb
 clear hb
 go_wp2_with fail
 refine (HU.out _ HB.out).mono ?_
 rintro e w2 ⟨ty,v,rfl,hR⟩
 have HR:Hid (R ty v w2):=hR
 clear hR
 go_wp2_with fail
 go_ret
 exact ⟨ty,v,rfl,HR.out⟩
theorem Oy (a:Option Addr) (cap:Nat) (ps:List Pk) (per:Int) (na:Option Addr) (ncap:Nat) (ws:List Int) (w:World) (hl:AO w a ps) (hn:AV w na ws) (ho:Aj ps) (h1:1 ≤ per) (h2:per ≤ 1000) (hk:GD ws) (W W3 W4:World) (g gt gm:Nat) (D:Nat → Prop) (hb:Below w.heap.size w W) (h0:Bf W.heap.size W g gt gm ps.length (.slice a ps.length cap) (.slice na ws.length ncap) W3 D FJ) (hb3:Below W.heap.size W W3) (hb4:Below W3.heap.size W3 W4) :
  Calls Tryz.prog 169 #[.slice a ps.length cap,.int .i64 per,.iface 266 (GU g)] W4 fun e w'=>∃ v,e=.returned v ∧ F8 per ps ws w.heap.size g gt w v w':=by
 have hlW:=hl.below hb
 have hnW:=hn.below hb
 have hs3:W.heap.size ≤ W3.heap.size:=hb3.size
 refine (Ta a cap ps per na ncap ws W.heap.size W g gt gm D W4 ⟨hlW,hnW,hlW.at_lt,fun ad had=>?_,ho,hk⟩ h1 h2 (h0.later hb4)).mono ?_
 ·
  obtain ⟨b,off,e,hlt,-⟩:=hnW.place (by rw [hk.len];omega)
  rw [e] at had
  cases had
  exact hlt
 ·
  rintro e w' ⟨v,rfl,l,f,g1,g2,g3,g4,g5⟩
  have hbb:Below w.heap.size w W4:=(hb.trans (hb3.mono hb.size)).trans (hb4.mono (Nat.le_trans hb.size hs3))
  exact ⟨v,rfl,l,f,CR g1 hbb.size,g2,hbb.trans (g3.mono hb.size),g4,g5⟩
theorem UE (a:Option Addr) (cap:Nat) (ps:List Pk) (per:Int) (na:Option Addr) (ncap:Nat) (ws:List Int) (w:World) (hl:AO w a ps) (hn:AV w na ws) (ho:Aj ps) (h1:1 ≤ per) (h2:per ≤ 1000) (hk:GD ws) :
  Calls Tryz.prog 147 #[.slice a ps.length cap,.int .i64 per,.slice na ws.length ncap] w fun e w'=>∃ v,e=.returned (.tuple #[v,.nilIface]) ∧ ∃ g gt,F8 per ps ws w.heap.size g gt w v w':=by
 have HCheck:Hid (Calls Tryz.prog 178 #[.slice a ps.length cap,.int .i64 per,.slice na ws.length ncap] w fun e w'=>e=.returned .nilIface ∧ Below w.heap.size w w'):=Qo a cap ps per na ncap ws w hl hn ho h1 h2 hk
 have HNew:Hid (∀ W,Calls Tryz.prog 179 #[.slice a ps.length cap,.slice na ws.length ncap] W fun e w'=>∃ g gt gm,e=.returned (.pointer (some ⟨g,0,none⟩)) ∧ Bf W.heap.size W g gt gm ps.length (.slice a ps.length cap) (.slice na ws.length ncap) w' (D7 g gt gm (.slice none 0 0)) FJ ∧ Below W.heap.size W w'):=fun W=>RQ a ps.length cap na ws.length ncap W (by have:=ho.few;omega)
 have HSend:Hid (∀ W W3 W4 g gt gm D,Below w.heap.size w W → Bf W.heap.size W g gt gm ps.length (.slice a ps.length cap) (.slice na ws.length ncap) W3 D FJ → Below W.heap.size W W3 → Below W3.heap.size W3 W4 →
   Calls Tryz.prog 169 #[.slice a ps.length cap,.int .i64 per,.iface 266 (GU g)] W4 fun e w'=>∃ v,e=.returned v ∧ F8 per ps ws w.heap.size g gt w v w'):=fun W W3 W4 g gt gm D hb h0 hb3 hb4=>Oy a cap ps per na ncap ws w hl hn ho h1 h2 hk W W3 W4 g gt gm D hb h0 hb3 hb4
 clear hl hn ho hk
 generalize hpl:ps.length=n at *
 generalize hnl:ws.length=m at *
 clear hpl hnl
 go_enter Tryz.func147,Tryz.ntmps147
 go_wp2_with fail
 refine HCheck.out.mono ?_
 rintro e w1 ⟨rfl,hb⟩
 have HB1:Hid (Below w.heap.size w w1):=hb
 clear hb
 go_wp2_with fail
 refine (HNew.out _).mono ?_
 rintro e w3 ⟨g,gt,gm,rfl,hh,hb3⟩
 have HS:Hid (∀ W4,Below w3.heap.size w3 W4 → Calls Tryz.prog 169 #[.slice a n cap,.int .i64 per,.iface 266 (GU g)] W4 fun e w'=>∃ v,e=.returned v ∧ F8 per ps ws w.heap.size g gt w v w'):=fun W4 hb4=>HSend.out w1 w3 W4 g gt gm _ HB1.out hh hb3 hb4
 clear hh hb3
 go_wp2_with fail
 refine (OY g _).mono ?_
 rintro e w4 ⟨rfl,hb4⟩
 have HC4:=HS.out w4 hb4
 have HS4:Hid (Calls Tryz.prog 169 #[.slice a n cap,.int .i64 per,.iface 266 (GU g)] w4 fun e w'=>∃ v,e=.returned v ∧ F8 per ps ws w.heap.size g gt w v w'):=HC4
 clear HC4 hb4
 go_wp2_with fail
 refine HS4.out.mono ?_
 rintro e w5 ⟨v,rfl,hs⟩
 have HE:Hid (F8 per ps ws w.heap.size g gt w v w5):=hs
 clear hs
 go_wp2_with fail
 go_ret2
 exact ⟨v,rfl,g,gt,HE.out⟩
theorem LF {R:TypeId → Value → World → Prop} (a:Option Addr) (n cap:Nat) (per:Int) (na:Option Addr) (m ncap:Nat) (w:World) (h:Calls Tryz.prog 178 #[.slice a n cap,.int .i64 per,.slice na m ncap] w fun e w'=>∃ ty v,e=.returned (.iface ty v) ∧ R ty v w') :
  Calls Tryz.prog 147 #[.slice a n cap,.int .i64 per,.slice na m ncap] w fun e w'=>∃ ty v,e=.returned (.tuple #[.slice none 0 0,.iface ty v]) ∧ R ty v w':=by
 have HC:Hid (Calls Tryz.prog 178 #[.slice a n cap,.int .i64 per,.slice na m ncap] w fun e w'=>∃ ty v,e=.returned (.iface ty v) ∧ R ty v w'):=h
 clear h
 go_enter Tryz.func147,Tryz.ntmps147
 go_wp2_with fail
 refine HC.out.mono ?_
 rintro e w1 ⟨ty,v,rfl,hR⟩
 have HR:Hid (R ty v w1):=hR
 clear hR
 go_wp2_with fail
 go_ret2
 exact ⟨ty,v,rfl,HR.out⟩
theorem Tj (a:Option Addr) (cap:Nat) (ps:List Pk) (per:Int) (na:Option Addr) (nn ncap:Nat) (w:World) (ad:Nat → Addr) (he:AP w ad) (hl:AO w a ps) (hcap:ps.length ≤ cap) (hm:cap ≤ maxLen) (c p:Int) (h:Dn ps per c p) (hc:0 < c) :
  Calls Tryz.prog 144 #[.slice a ps.length cap,.int .i64 per,.slice na nn ncap] w fun e w'=>∃ ty v,e=.returned (.tuple #[.slice none 0 0,.iface ty v]) ∧ (AR w' (.iface ty v) c p ∧ Below w.heap.size w w'):=by
 refine Q9 (R:=fun ty v w'=>AR w' (.iface ty v) c p ∧ Below w.heap.size w w') a _ cap per na _ ncap w (fun W hB=>(ER a cap ps per c p W ad (he.below hB.below) (hl.below hB.below) hcap hm h hc).mono ?_)
 rintro e w' ⟨ty,v,rfl,hE,hb⟩
 exact ⟨ty,v,rfl,hE,hB.below.trans (hb.mono hB.below.size)⟩
theorem RV (a:Option Addr) (cap:Nat) (ps:List Pk) (per:Int) (na:Option Addr) (ncap:Nat) (ns:List Int) (w:World) (ad:Nat → Addr) (he:AP w ad) (hl:AO w a ps) (hn:AV w na ns) (ho:Aj ps) (h1:1 ≤ per) (h2:per ≤ 1000) (c:Nat) (h:Ct 0 100 ns c) (hc:0 < c) :
  Calls Tryz.prog 144 #[.slice a ps.length cap,.int .i64 per,.slice na ns.length ncap] w fun e w'=>∃ ty v,e=.returned (.tuple #[.slice none 0 0,.iface ty v]) ∧ (AR w' (.iface ty v) c (-1) ∧ Below w.heap.size w w'):=by
 refine QA (R:=fun ty v w'=>AR w' (.iface ty v) c (-1) ∧ Below w.heap.size w w') a _ cap per na _ ncap w (fun W hB=>Cn a cap ps per W (hl.below hB.below) ho h1 h2) (fun W hB=>(JE na ncap ns 100 W ad (he.below hB.below).nums (hn.below hB.below) c h hc).mono ?_)
 rintro e w' ⟨rfl,hb⟩
 have hb':=hB.below.trans (hb.mono hB.below.size)
 obtain ⟨ty,v,e1,e2⟩:=NC (he.below hb') h hc
 exact ⟨ty,v,by rw [e1],e2,hb'⟩
theorem SC (a:Option Addr) (cap:Nat) (ps:List Pk) (per:Int) (na:Option Addr) (nn ncap:Nat) (w:World) (ad:Nat → Addr) (he:AP w ad) (hl:AO w a ps) (hcap:ps.length ≤ cap) (hm:cap ≤ maxLen) (c p:Int) (h:Dn ps per c p) (hc:0 < c) :
  Calls Tryz.prog 145 #[.slice a ps.length cap,.int .i64 per,.slice na nn ncap] w fun e w'=>∃ ty v,e=.returned (.tuple #[.slice none 0 0,.iface ty v]) ∧ (AR w' (.iface ty v) c p ∧ Below w.heap.size w w'):=by
 refine Qf (R:=fun ty v w'=>AR w' (.iface ty v) c p ∧ Below w.heap.size w w') a _ cap per na _ ncap w (fun W hB=>(ER a cap ps per c p W ad (he.below hB.below) (hl.below hB.below) hcap hm h hc).mono ?_)
 rintro e w' ⟨ty,v,rfl,hE,hb⟩
 exact ⟨ty,v,rfl,hE,hB.below.trans (hb.mono hB.below.size)⟩
theorem Te (a:Option Addr) (cap:Nat) (ps:List Pk) (per:Int) (na:Option Addr) (ncap:Nat) (ns:List Int) (w:World) (ad:Nat → Addr) (he:AP w ad) (hl:AO w a ps) (hn:AV w na ns) (ho:Aj ps) (h1:1 ≤ per) (h2:per ≤ 1000) (c:Nat) (h:Ct 0 1099511627776 ns c) (hc:0 < c) :
  Calls Tryz.prog 145 #[.slice a ps.length cap,.int .i64 per,.slice na ns.length ncap] w fun e w'=>∃ ty v,e=.returned (.tuple #[.slice none 0 0,.iface ty v]) ∧ (AR w' (.iface ty v) c (-1) ∧ Below w.heap.size w w'):=by
 refine Ri (R:=fun ty v w'=>AR w' (.iface ty v) c (-1) ∧ Below w.heap.size w w') a _ cap per na _ ncap w (fun W hB=>Cn a cap ps per W (hl.below hB.below) ho h1 h2) (fun W hB=>(JE na ncap ns 1099511627776 W ad (he.below hB.below).nums (hn.below hB.below) c h hc).mono ?_)
 rintro e w' ⟨rfl,hb⟩
 have hb':=hB.below.trans (hb.mono hB.below.size)
 obtain ⟨ty,v,e1,e2⟩:=NC (he.below hb') h hc
 exact ⟨ty,v,by rw [e1],e2,hb'⟩
theorem QZ (a:Option Addr) (cap:Nat) (ps:List Pk) (per:Int) (na:Option Addr) (nn ncap:Nat) (w:World) (ad:Nat → Addr) (he:AP w ad) (hl:AO w a ps) (hcap:ps.length ≤ cap) (hm:cap ≤ maxLen) (c p:Int) (h:Dn ps per c p) (hc:0 < c) :
  Calls Tryz.prog 146 #[.slice a ps.length cap,.int .i64 per,.slice na nn ncap] w fun e w'=>∃ ty v,e=.returned (.tuple #[.slice none 0 0,.iface ty v]) ∧ (AR w' (.iface ty v) c p ∧ Below w.heap.size w w'):=
 OX (R:=fun ty v w'=>AR w' (.iface ty v) c p ∧ Below w.heap.size w w') a _ cap per na _ ncap w (ER a cap ps per c p w ad he hl hcap hm h hc)
theorem P8 (a:Option Addr) (cap:Nat) (ps:List Pk) (per:Int) (na:Option Addr) (ncap:Nat) (ns:List Int) (w:World) (ad:Nat → Addr) (he:AP w ad) (hl:AO w a ps) (hn:AV w na ns) (ho:Aj ps) (h1:1 ≤ per) (h2:per ≤ 1000) (c:Nat) (h:Ct 1 3000 ns c) (hc:0 < c) :
  Calls Tryz.prog 146 #[.slice a ps.length cap,.int .i64 per,.slice na ns.length ncap] w fun e w'=>∃ ty v,e=.returned (.tuple #[.slice none 0 0,.iface ty v]) ∧ (AR w' (.iface ty v) c (-1) ∧ Below w.heap.size w w'):=by
 refine OC (R:=fun ty v w'=>AR w' (.iface ty v) c (-1) ∧ Below w.heap.size w w') a _ cap per na _ ncap w (Cn a cap ps per w hl ho h1 h2) (fun W hb=>(LV na ncap ns W ad (he.below hb).nums (hn.below hb) c h hc).mono ?_)
 rintro e w' ⟨rfl,rfl⟩
 obtain ⟨ty,v,e1,e2⟩:=Sl (he.below hb) h hc
 exact ⟨ty,v,by rw [e1],e2,hb⟩
theorem WK {w:World} {ad:Nat → Addr} (he:AP w ad) {ns:List Int} {c:Nat} (h:Gg ns c) (hc:0 < c):∃ ty v,Ec ad c=.iface ty v ∧ AR w (.iface ty v) c (-1):=by
 rcases h with ⟨rfl,-⟩ | ⟨rfl,-⟩ | ⟨rfl,-⟩
 · exact ⟨_,_,rfl,AY he 2 (by decide)⟩
 · exact ⟨_,_,rfl,AY he 1 (by decide)⟩
 · omega
theorem Ou (a:Option Addr) (cap:Nat) (ps:List Pk) (per:Int) (na:Option Addr) (nn ncap:Nat) (w:World) (ad:Nat → Addr) (he:AP w ad) (hl:AO w a ps) (hcap:ps.length ≤ cap) (hm:cap ≤ maxLen) (c p:Int) (h:Dn ps per c p) (hc:0 < c) :
  Calls Tryz.prog 178 #[.slice a ps.length cap,.int .i64 per,.slice na nn ncap] w fun e w'=>∃ ty v,e=.returned (.iface ty v) ∧ (AR w' (.iface ty v) c p ∧ Below w.heap.size w w'):=
 Ni (R:=fun ty v w'=>AR w' (.iface ty v) c p ∧ Below w.heap.size w w') a _ cap per na _ ncap w (ER a cap ps per c p w ad he hl hcap hm h hc)
theorem Oj (a:Option Addr) (cap:Nat) (ps:List Pk) (per:Int) (na:Option Addr) (ncap:Nat) (ns:List Int) (w:World) (ad:Nat → Addr) (he:AP w ad) (hl:AO w a ps) (hn:AV w na ns) (ho:Aj ps) (h1:1 ≤ per) (h2:per ≤ 1000) (c:Nat) (h:Gg ns c) (hc:0 < c) :
  Calls Tryz.prog 178 #[.slice a ps.length cap,.int .i64 per,.slice na ns.length ncap] w fun e w'=>∃ ty v,e=.returned (.iface ty v) ∧ (AR w' (.iface ty v) c (-1) ∧ Below w.heap.size w w'):=by
 refine Mt (R:=fun ty v w'=>AR w' (.iface ty v) c (-1) ∧ Below w.heap.size w w') a _ cap per na _ ncap w (Cn a cap ps per w hl ho h1 h2) (fun W hb=>(K6 na ncap ns W ad (he.below hb).nums (hn.below hb) c h hc).mono ?_)
 rintro e w' ⟨rfl,rfl⟩
 obtain ⟨ty,v,e1,e2⟩:=WK (he.below hb) h hc
 exact ⟨ty,v,by rw [e1],e2,hb⟩
def FM (k:Nat) (per:Int) (ns:List Int) (c:Int):Prop:=(¬ (1 ≤ per ∧ per ≤ 1000) ∧ c=2) ∨ (1 ≤ per ∧ per ≤ 1000 ∧ ∃ d:Nat,DF k ns d ∧ c=d)
def Fh (k:Nat) (per:Int) (ns:List Int) (ps:List Pk) (c:Int) (w:World) (e:Ending) (w':World):Prop:=∃ la n lcap E,e=.returned (.tuple #[.slice la n lcap,E]) ∧ AR w' E c (-1) ∧ Below w.heap.size w w' ∧ (c=0 → ∃ l,n=l.length ∧ GL w' la lcap l ∧ CZ k per ps ns l)
theorem CP {k:Nat} {per:Int} {ns:List Int} {ps:List Pk} {c:Int} {w:World} (hc:0 < c) {e:Ending} {w':World} (h:∃ ty v,e=.returned (.tuple #[.slice none 0 0,.iface ty v]) ∧ (AR w' (.iface ty v) c (-1) ∧ Below w.heap.size w w')):Fh k per ns ps c w e w':=by
 obtain ⟨ty,v,rfl,h1,h2⟩:=h
 exact ⟨none,0,0,_,rfl,h1,h2,fun h0=>by omega⟩
theorem F3 {k:Nat} {per:Int} {ns:List Int} {ps:List Pk} {w w':World} {v:Value} {l:List Sn} (ho:Ig w' w.heap.size v l) (hl:CZ k per ps ns l) (hb:Below w.heap.size w w'):Fh k per ns ps 0 w (.returned (.tuple #[v,.nilIface])) w':=by
 obtain ⟨a,cap,rfl,h1,h2,h3,-,h5⟩:=ho.open
 exact ⟨a,l.length,cap,.nilIface,rfl,CG w',hb,fun _=>⟨l,rfl,⟨h3,h1,h2,h5⟩,hl⟩⟩
section
variable (pa:Option Addr) (pcap:Nat) (ps:List Pk) (per:Int) (na:Option Addr) (ncap:Nat) (ns:List Int) (w:World) (ad:Nat → Addr)
theorem KC {per:Int} {ps:List Pk} (ho:Aj ps) (h:¬ (1 ≤ per ∧ per ≤ 1000)):Dn ps per 2 (-1):=.inr (.inl ⟨ho,by omega,rfl,rfl⟩)
theorem X6 (he:AP w ad) (hp:CE w pa pcap ps) (hn:AV w na ns) (ho:Aj ps) (c:Int) (hr:FM 2 per ns c):Calls Tryz.prog 144 #[.slice pa ps.length pcap,.int .i64 per,.slice na ns.length ncap] w fun e w'=>Fh 2 per ns ps c w e w':=by
 rcases hr with ⟨h,rfl⟩ | ⟨h1,h2,d,hd,rfl⟩
 · exact (Tj pa pcap ps per na ns.length ncap w ad he hp.pks hp.cap hp.max 2 (-1) (KC ho h) (by omega)).mono fun _ _ h=>CP (by omega) h
 ·
  rcases hd with ⟨h,-⟩ | ⟨-,hd⟩ | ⟨h,-⟩ | ⟨h,-⟩ | ⟨h,-⟩
  · omega
  ·
   rcases Nat.eq_zero_or_pos d with rfl | h0
   ·
    refine (UT pa pcap ps per na ncap ns w hp.pks hn ho h1 h2 hd.ok).mono ?_
    rintro e w' ⟨v,rfl,l,g1,g2,g3,g4⟩
    exact F3 g1 (.inr (.inl ⟨rfl,g2,g3⟩)) g4
   · exact (RV pa pcap ps per na ncap ns w ad he hp.pks hn ho h1 h2 d hd h0).mono fun _ _ h=>CP (by omega) h
  all_goals omega
theorem ZO (he:AP w ad) (hp:CE w pa pcap ps) (hn:AV w na ns) (ho:Aj ps) (c:Int) (hr:FM 3 per ns c):Calls Tryz.prog 145 #[.slice pa ps.length pcap,.int .i64 per,.slice na ns.length ncap] w fun e w'=>Fh 3 per ns ps c w e w':=by
 rcases hr with ⟨h,rfl⟩ | ⟨h1,h2,d,hd,rfl⟩
 · exact (SC pa pcap ps per na ns.length ncap w ad he hp.pks hp.cap hp.max 2 (-1) (KC ho h) (by omega)).mono fun _ _ h=>CP (by omega) h
 ·
  rcases hd with ⟨h,-⟩ | ⟨h,-⟩ | ⟨-,hd⟩ | ⟨h,-⟩ | ⟨h,-⟩
  · omega
  · omega
  ·
   rcases Nat.eq_zero_or_pos d with rfl | h0
   ·
    refine (Vt pa pcap ps per na ncap ns w hp.pks hn ho h1 h2 hd.ok).mono ?_
    rintro e w' ⟨v,rfl,l,g1,g2,g3,g4⟩
    exact F3 g1 (.inr (.inr (.inl ⟨rfl,g2,g3⟩))) g4
   · exact (Te pa pcap ps per na ncap ns w ad he hp.pks hn ho h1 h2 d hd h0).mono fun _ _ h=>CP (by omega) h
  all_goals omega
theorem WP (he:AP w ad) (hp:CE w pa pcap ps) (hn:AV w na ns) (ho:Aj ps) (c:Int) (hr:FM 4 per ns c):Calls Tryz.prog 146 #[.slice pa ps.length pcap,.int .i64 per,.slice na ns.length ncap] w fun e w'=>Fh 4 per ns ps c w e w':=by
 rcases hr with ⟨h,rfl⟩ | ⟨h1,h2,d,hd,rfl⟩
 · exact (QZ pa pcap ps per na ns.length ncap w ad he hp.pks hp.cap hp.max 2 (-1) (KC ho h) (by omega)).mono fun _ _ h=>CP (by omega) h
 ·
  rcases hd with ⟨h,-⟩ | ⟨h,-⟩ | ⟨h,-⟩ | ⟨-,hd⟩ | ⟨h,-⟩
  · omega
  · omega
  · omega
  ·
   rcases Nat.eq_zero_or_pos d with rfl | h0
   ·
    refine (Sq pa pcap ps per na ncap ns w hp.pks hn ho h1 h2 hd.ok).mono ?_
    rintro e w' ⟨v,rfl,l,g1,g2,g4⟩
    exact F3 g1 (.inr (.inr (.inr (.inl ⟨rfl,g2⟩)))) g4
   · exact (P8 pa pcap ps per na ncap ns w ad he hp.pks hn ho h1 h2 d hd h0).mono fun _ _ h=>CP (by omega) h
  all_goals omega
theorem Yf (he:AP w ad) (hp:CE w pa pcap ps) (hn:AV w na ns) (ho:Aj ps) (c:Int) (hr:FM 5 per ns c):Calls Tryz.prog 147 #[.slice pa ps.length pcap,.int .i64 per,.slice na ns.length ncap] w fun e w'=>Fh 5 per ns ps c w e w':=by
 rcases hr with ⟨h,rfl⟩ | ⟨h1,h2,d,hd,rfl⟩
 · exact (LF (R:=fun ty v w'=>AR w' (.iface ty v) 2 (-1) ∧ Below w.heap.size w w') pa _ pcap per na _ ncap w (Ou pa pcap ps per na ns.length ncap w ad he hp.pks hp.cap hp.max 2 (-1) (KC ho h) (by omega))).mono fun _ _ h=>CP (by omega) h
 ·
  rcases hd with ⟨h,-⟩ | ⟨h,-⟩ | ⟨h,-⟩ | ⟨h,-⟩ | ⟨-,hd⟩
  · omega
  · omega
  · omega
  · omega
  ·
   rcases Nat.eq_zero_or_pos d with rfl | h0
   ·
    refine (UE pa pcap ps per na ncap ns w hp.pks hn ho h1 h2 hd.ok).mono ?_
    rintro e w' ⟨v,rfl,g,gt,l,f,g1,g2,g4,-⟩
    exact F3 g1 (.inr (.inr (.inr (.inr ⟨rfl,_,g2⟩)))) g4
   · exact (LF (R:=fun ty v w'=>AR w' (.iface ty v) d (-1) ∧ Below w.heap.size w w') pa _ pcap per na _ ncap w (Oj pa pcap ps per na ncap ns w ad he hp.pks hn ho h1 h2 d hd h0)).mono fun _ _ h=>CP (by omega) h
theorem Tryz.callFifo (args:Array Value) (W:World):Sem.run Tryz.prog (callFunc 143 args) W=.ok (.enter 143 args) W:=by kernel_rfl
theorem YW (X:Nat) (he:AP w ad) (hx:w.cell? ⟨X,0,none⟩=some (.func (.func 143) #[] #[])) (hp:CE w pa pcap ps) (ho:Aj ps) (c:Int) (hr:FM 1 per ns c):Calls Tryz.prog 167 #[.slice pa ps.length pcap,.int .i64 per,.slice na ns.length ncap,.pointer (some ⟨X,0,none⟩)] w fun e w'=>Fh 1 per ns ps c w e w':=by
 have hcall:=Tryz.callFifo
 have HE:Hid (AP w ad):=he
 have HO:Hid (Aj ps):=ho
 rcases hr with ⟨h,rfl⟩ | ⟨h1,h2,d,hd,rfl⟩
 ·
  have HC:Hid (Calls Tryz.prog 143 #[.slice pa ps.length pcap,.int .i64 per] w fun e w'=>∃ ty v,e=.returned (.tuple #[.slice none 0 0,.iface ty v]) ∧ (AR w' (.iface ty v) 2 (-1) ∧ Below w.heap.size w w')):=Vh pa pcap ps per 2 (-1) w ad he hp.pks hp.cap hp.max (KC ho h) (by omega)
  clear he hp ho h
  go_enter Tryz.func167,Tryz.ntmps167
  go_wp2_with fail
  refine HC.out.mono ?_
  rintro e w1 ⟨ty,v,rfl,h3,h4⟩
  have H3:Hid (AR w1 (.iface ty v) 2 (-1) ∧ Below w.heap.size w w1):=⟨h3,h4⟩
  clear h3 h4
  go_wp2_with fail
  go_ret2
  exact CP (by omega) ⟨ty,v,rfl,H3.out⟩
 ·
  have HC:Hid (Calls Tryz.prog 143 #[.slice pa ps.length pcap,.int .i64 per] w fun e w'=>∃ v,e=.returned (.tuple #[v,.nilIface]) ∧ Ig w' w.heap.size v (BH per ps ps.length) ∧ Below w.heap.size w w'):=UG pa pcap ps per w hp.pks ho h1 h2
  have hd':(d=3 ∧ ns ≠ []) ∨ (d=0 ∧ ns=[]):=by
   rcases hd with ⟨-,hd⟩ | ⟨h,-⟩ | ⟨h,-⟩ | ⟨h,-⟩ | ⟨h,-⟩
   · exact hd
   all_goals omega
  obtain ⟨r,hr⟩:∃ r,ns.length=r:=⟨_,rfl⟩
  have HR:Hid (ns.length=r):=hr
  rw [hr]
  clear he hp ho hd hr
  rcases hd' with ⟨rfl,hne⟩ | ⟨rfl,hnil⟩
  ·
   have hr0:(0:Int) < (r:Int):=by have:=List.length_pos_iff.2 hne;have:=HR.out;omega
   clear hne
   go_enter Tryz.func167,Tryz.ntmps167
   go_wp2_with fail
   refine HC.out.mono ?_
   rintro e w1 ⟨v,rfl,h3,h4⟩
   have H4:Hid (Below w.heap.size w w1):=h4
   have c2:=(HE.out.below h4).c2
   clear h3 h4
   go_wp2_with fail
   go_quiet (fail)
   go_wp2_with fail
   go_ret2
   have hbq:Below w.heap.size w (w1.drewN nq):=below_drewN H4.out nq
   exact ⟨none,0,0,_,rfl,AY (HE.out.below hbq) 2 (by omega),hbq,fun h0=>absurd h0 (by decide)⟩
  ·
   have hr0:¬ (0:Int) < (r:Int):=by have:=HR.out;rw [hnil] at this;simp at this;omega
   have HNil:Hid (ns=[]):=hnil
   clear hnil
   go_enter Tryz.func167,Tryz.ntmps167
   go_wp2_with fail
   refine HC.out.mono ?_
   rintro e w1 ⟨v,rfl,h3,h4⟩
   have H4:Hid (Ig w1 w.heap.size v (BH per ps ps.length) ∧ Below w.heap.size w w1):=⟨h3,h4⟩
   clear h3 h4
   go_wp2_with fail
   go_ret2
   exact F3 H4.out.1 (.inl ⟨rfl,rfl⟩) H4.out.2
end
structure Mx (w:World) (k:Nat) (F:Nat) (bd:Array Value):Prop where
 call:∀ args W,Sem.run Tryz.prog (callFunc F args) W=.ok (.enter F args) W
 send:∀ (pa:Option Addr) (pcap:Nat) (ps:List Pk) (per:Int) (na:Option Addr) (ncap:Nat) (ns:List Int) (W:World) (ad:Nat → Addr) (c:Int),Below w.heap.size w W → AP W ad → CE W pa pcap ps → AV W na ns → Aj ps → FM k per ns c → Calls Tryz.prog F (#[.slice pa ps.length pcap,.int .i64 per,.slice na ns.length ncap] ++ bd) W fun e w'=>Fh k per ns ps c W e w'
theorem WL {w:World} {M X:Nat} (h:Kb w M X) {k:Nat} (h1:1 ≤ k) (h5:k ≤ 5):∃ F bd,Dh X k=.func (.func F) #[] bd ∧ Mx w k F bd:=by
 rcases (show k=1 ∨ k=2 ∨ k=3 ∨ k=4 ∨ k=5 by omega) with rfl | rfl | rfl | rfl | rfl
 · exact ⟨_,_,rfl,fun args W=>by kernel_rfl,fun pa pcap ps per na ncap ns W ad c hb he hp _ ho hr=>YW pa pcap ps per na ncap ns W ad X he (cell_later hb h.box) hp ho c hr⟩
 · exact ⟨_,_,rfl,fun args W=>by kernel_rfl,fun pa pcap ps per na ncap ns W ad c _ he hp hn ho hr=>X6 pa pcap ps per na ncap ns W ad he hp hn ho c hr⟩
 · exact ⟨_,_,rfl,fun args W=>by kernel_rfl,fun pa pcap ps per na ncap ns W ad c _ he hp hn ho hr=>ZO pa pcap ps per na ncap ns W ad he hp hn ho c hr⟩
 · exact ⟨_,_,rfl,fun args W=>by kernel_rfl,fun pa pcap ps per na ncap ns W ad c _ he hp hn ho hr=>WP pa pcap ps per na ncap ns W ad he hp hn ho c hr⟩
 · exact ⟨_,_,rfl,fun args W=>by kernel_rfl,fun pa pcap ps per na ncap ns W ad c _ he hp hn ho hr=>Yf pa pcap ps per na ncap ns W ad he hp hn ho c hr⟩
def JW (kb:ByteArray) (k:Nat) (b:Bool) (w:World) (e:Ending) (w':World):Prop:=∃ M fv,e=.returned (.map (some M)) ∧ Below w.heap.size w w' ∧ (Instr.lookup 189 (.map (some M)) (.string kb) true).run Tryz.prog w'=.ok (.tuple #[fv,.bool b]) w' ∧ (Instr.lookup 189 (.map (some M)) (.string kb) false).run Tryz.prog w'=.ok fv w' ∧ (1 ≤ k → ∃ F bd,fv=.func (.func F) #[] bd ∧ Mx w' k F bd)
theorem ML (kb:ByteArray) (k:Nat) (hk:kindOf kb.toList=k) (b:Bool) (hb:decide (k ≠ 0)=b) (w:World):Calls Tryz.prog 115 #[] w fun e w'=>JW kb k b w e w':=by
 subst hb
 refine (UA w).mono ?_
 rintro e w' ⟨M,X,rfl,hm,hb⟩
 exact ⟨M,Dh X k,rfl,hb,hm.look kb hk true,hm.look kb hk false,fun h1=>WL hm h1 (by rw [← hk];exact G6 _)⟩
section
variable (ca:Option Addr) (m ccap:Nat) (kb:ByteArray) (per:Int) (na:Option Addr) (r ncap:Nat) (w:World)
theorem Hd (c p:Int) (hc:0 < c) (h:∀ W,Below w.heap.size w W → Calls Tryz.prog 116 #[.slice ca m ccap] W fun e w'=>∃ E,e=.returned E ∧ AR w' E c p ∧ Below W.heap.size W w') :
  Calls Tryz.prog 82 #[.agg #[.slice ca m ccap,.string kb,.int .i64 per,.slice na r ncap]] w fun e w'=>∃ E,e=.returned E ∧ AR w' E c p ∧ Below w.heap.size w w':=by
 have hb1:Below w.heap.size w (w.alloc (.cells #[.slice ca m ccap,.string kb,.int .i64 per,.slice na r ncap] 70)):=(Below.refl _ _).alloc (Nat.le_refl _) _
 have HC:=(show Hid (Calls Tryz.prog 116 #[.slice ca m ccap] (w.alloc (.cells #[.slice ca m ccap,.string kb,.int .i64 per,.slice na r ncap] 70)) fun e w'=>∃ E,e=.returned E ∧ AR w' E c p ∧ Below (w.alloc (.cells #[.slice ca m ccap,.string kb,.int .i64 per,.slice na r ncap] 70)).heap.size (w.alloc (.cells #[.slice ca m ccap,.string kb,.int .i64 per,.slice na r ncap] 70)) w') from h _ hb1)
 have HB1:Hid (Below w.heap.size w (w.alloc (.cells #[.slice ca m ccap,.string kb,.int .i64 per,.slice na r ncap] 70))):=hb1
 clear h hb1
 go_enter Tryz.func82,Tryz.ntmps82
 go_wp2_with fail
 refine HC.out.mono ?_
 rintro e w1 ⟨E,rfl,h1,h2⟩
 obtain ⟨ty,v,rfl⟩:=h1.some_ (by omega)
 have H1:Hid (AR w1 (.iface ty v) c p ∧ Below w.heap.size w w1):=⟨h1,HB1.out.trans (h2.mono HB1.out.size)⟩
 clear h1 h2
 go_wp2_with fail
 go_ret
 exact ⟨_,rfl,H1.out⟩
theorem NH (ns:List Int) (hr:ns.length=r) (ad:Nat → Addr) (he:AP w ad) (hn:AV w na ns) (k:Nat) (hk:kindOf kb.toList=k) (c:Int) (hc:(k=0 ∧ c=9) ∨ (1 ≤ k ∧ FM k per ns c)) (h:∀ W,Below w.heap.size w W → Calls Tryz.prog 116 #[.slice ca m ccap] W fun e w'=>e=.returned .nilIface ∧ Below W.heap.size W w') :
  Calls Tryz.prog 82 #[.agg #[.slice ca m ccap,.string kb,.int .i64 per,.slice na r ncap]] w fun e w'=>∃ E,e=.returned E ∧ AR w' E c (-1) ∧ Below w.heap.size w w':=by
 have hb1:Below w.heap.size w (w.alloc (.cells #[.slice ca m ccap,.string kb,.int .i64 per,.slice na r ncap] 70)):=(Below.refl _ _).alloc (Nat.le_refl _) _
 have hga:=F5 w (.slice ca m ccap) kb per (.slice na r ncap) 70
 have HC:=(show Hid (Calls Tryz.prog 116 #[.slice ca m ccap] (w.alloc (.cells #[.slice ca m ccap,.string kb,.int .i64 per,.slice na r ncap] 70)) fun e w'=>e=.returned .nilIface ∧ Below (w.alloc (.cells #[.slice ca m ccap,.string kb,.int .i64 per,.slice na r ncap] 70)).heap.size (w.alloc (.cells #[.slice ca m ccap,.string kb,.int .i64 per,.slice na r ncap] 70)) w') from h _ hb1)
 have HG:Hid (El (w.alloc (.cells #[.slice ca m ccap,.string kb,.int .i64 per,.slice na r ncap] 70)) w.heap.size (.slice ca m ccap) kb per (.slice na r ncap)):=hga
 have HB1:Hid (Below w.heap.size w (w.alloc (.cells #[.slice ca m ccap,.string kb,.int .i64 per,.slice na r ncap] 70))):=hb1
 have HE:Hid (AP w ad):=he
 have HN:Hid (AV w na ns):=hn
 have HCs:Hid ((k=0 ∧ c=9) ∨ (1 ≤ k ∧ FM k per ns c)):=hc
 have HR:Hid (ns.length=r):=hr
 obtain ⟨b,hb⟩:∃ b,decide (k ≠ 0)=b:=⟨_,rfl⟩
 have HSe:Hid (∀ W,Calls Tryz.prog 115 #[] W fun e w'=>JW kb k b W e w'):=fun W=>ML kb k hk b hb W
 have HKb:Hid (decide (k ≠ 0)=b):=hb
 clear h hb1 hga he hn hc hr hk hb
 go_enter Tryz.func82,Tryz.ntmps82
 go_wp2_with fail
 refine HC.out.mono ?_
 rintro e w1 ⟨rfl,h1⟩
 have HB:Hid (Below w.heap.size w w1):=HB1.out.trans (h1.mono HB1.out.size)
 have HGw:Hid (El w1 w.heap.size (.slice ca m ccap) kb per (.slice na r ncap)):=HG.out.later h1
 have g1:=HGw.out.c1
 have HSb:Hid (∀ W,Below w1.heap.size w1 W → W.cell? ⟨w.heap.size,1,none⟩=some (.string kb)):=fun W hW=>cell_later hW HGw.out.c1
 have HD:Hid (Below w1.heap.size w1 w1.drew):=below_drewN (Below.refl _ _) 1
 clear h1
 go_wp2_with fail
 go_region_held3 (fun w'=>w'.cell? ⟨w.heap.size,1,none⟩=some (.string kb))
  (first | exact hS | exact HSb.out _ HD.out)
  (first
  | (go_at_call 115;refine (HSe.out _).mono ?_;rintro e w2 ⟨M,fv,rfl,hb2,hlk,hlk0,hfv⟩;have HB2:Hid (Below w1.heap.size w1 w2):=(by exact HD.out.trans (hb2.mono HD.out.size));have hS:=HSb.out w2 HB2.out;have HF:Hid (1 ≤ k → ∃ F bd,fv=.func (.func F) #[] bd ∧ Mx w2 k F bd):=hfv;clear hb2 hfv hlk0))
 all_goals
  have HBw2:Hid (Below w.heap.size w w2):=HB.out.trans (HB2.out.mono HB.out.size)
  clear hlk hS g1
  cases b with
  | false=>
   have hk0:k=0:=by have:=HKb.out;simpa using this
   have hc9:c=9:=by
    rcases HCs.out with ⟨-,h⟩ | ⟨h,-⟩
    · exact h
    · omega
   have c8:=(HE.out.below HBw2.out).c8
   clear hk0
   go_wp2_with fail
   go_ret
   rw [hc9]
   exact ⟨_,rfl,AY (HE.out.below HBw2.out) 8 (by omega),HBw2.out⟩
  | true=>
   have hk1:1 ≤ k:=by have:=HKb.out;simp at this;omega
   obtain ⟨F,bd,rfl,hby⟩:=HF.out hk1
   have hkr:FM k per ns c:=by
    rcases HCs.out with ⟨h,-⟩ | ⟨-,h⟩
    · omega
    · exact h
   have hcF:=hby.call
   have g2:=cell_later HB2.out HGw.out.c2
   have g3:=cell_later HB2.out HGw.out.c3
   have HCa:Hid (Calls Tryz.prog F (#[.slice none 0 0,.int .i64 per,.slice na r ncap] ++ bd) w2 fun e w'=>Fh k per ns [] c w2 e w'):=by
    have:=hby.send none 0 [] per na ncap ns w2 ad c (Below.refl _ _) (HE.out.below HBw2.out) ⟨.inl rfl,Nat.le_refl _,by simp [maxLen],fun _=>⟨rfl,rfl⟩⟩ (HN.out.below HBw2.out) Eh hkr
    rwa [HR.out] at this
   clear hby hkr hk1
   go_wp2_with fail
   refine HCa.out.mono ?_
   rintro e w3 ⟨la,n,lcap,E,rfl,hE,hb3,-⟩
   have H3:Hid (AR w3 E c (-1) ∧ Below w.heap.size w w3):=⟨hE,HBw2.out.trans (hb3.mono HBw2.out.size)⟩
   clear hE hb3
   go_wp2_with fail
   go_ret
   exact ⟨_,rfl,H3.out⟩
theorem DK (ca:Option Addr) (ccap:Nat) (cs:List (List (Int × Int))) (kb:ByteArray) (per:Int) (na:Option Addr) (ncap:Nat) (ns:List Int) (w:World) (ad:Nat → Addr) (c p:Int) (he:AP w ad) (hg:Dk w ca ccap cs na ncap ns) (h:DT cs (kindOf kb.toList) per ns c p) :
  Calls Tryz.prog 82 #[.agg #[.slice ca cs.length ccap,.string kb,.int .i64 per,.slice na ns.length ncap]] w fun e w'=>∃ E,e=.returned E ∧ AR w' E c p ∧ Below w.heap.size w w':=by
 rcases h with ⟨h8,rfl,rfl⟩ | ⟨h8,i,hbad,rfl,hto⟩ | ⟨h8,hto,rfl,hk⟩
 · exact Hd ca _ ccap kb per na _ ncap w 3 (-1) (by omega) fun W hW=>Ki ca cs.length ccap W ad (he.below hW) h8
 ·
  have hi:i ≤ 8:=by
   obtain ⟨ls,p,h1,-⟩:=hbad
   have:=Ad h1
   omega
  have hc:0 < c:=by obtain ⟨ls,p,-,-,-,h4⟩:=hbad;exact h4
  exact Hd ca _ ccap kb per na _ ncap w c i hc fun W hW=>IM ca ccap cs W ad (he.below hW) (hg.curves.below hW) h8 i hi hto c i (.inr ⟨hbad,rfl⟩)
 ·
  refine NH ca _ ccap kb per na _ ncap w ns rfl ad he hg.nums (kindOf kb.toList) rfl c ?_ fun W hW=>(IM ca ccap cs W ad (he.below hW) (hg.curves.below hW) h8 8 (Nat.le_refl _) hto 0 (-1) (.inl ⟨rfl,rfl,rfl⟩)).mono ?_
  ·
   rcases hk with h | ⟨h1,-,h3⟩
   · exact .inl h
   · exact .inr ⟨h1,h3⟩
  ·
   rintro e w' ⟨E,rfl,hE,hb⟩
   rw [hE.none_ rfl]
   exact ⟨rfl,hb⟩
end
end Go.Proofs.YtipdclphpkgceaaGreatDoor
