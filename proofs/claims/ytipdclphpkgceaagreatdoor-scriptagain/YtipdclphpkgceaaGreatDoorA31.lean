/- Own facts, put together: no statement of its own. -/
import Derived.Test.YtipdclphpkgceaaGreatDoorA25
import Derived.Test.YtipdclphpkgceaaGreatDoorA11
import Derived.Test.YtipdclphpkgceaaGreatDoorA16
import Derived.Test.YtipdclphpkgceaaGreatDoorA30
import Derived.Test.YtipdclphpkgceaaGreatDoorA26
import Derived.Test.YtipdclphpkgceaaGreatDoorA23
import Derived.Test.YtipdclphpkgceaaGreatDoorA05
set_option maxHeartbeats 4000000
set_option maxRecDepth 100000

namespace Go.Proofs.YtipdclphpkgceaaGreatDoor
open Go.RowKit
def IR (g:Nat):Value:=.agg #[.func (.func 204) #[.pointer (some ⟨g,0,none⟩)] #[],.func (.func 205) #[.pointer (some ⟨g,0,none⟩)] #[],.func (.func 206) #[.pointer (some ⟨g,0,none⟩)] #[]]
section
variable (B:Nat) (W0:World) (g:Nat) (pa:Option Addr) (pcap:Nat) (qa:Option Addr) (qcap:Nat) (ps:List Pk) (ns:List Int)
structure IZ:Prop where
 pk:AO W0 pa ps
 nu:AV W0 qa ns
 pB:∀ ad,pa=some ad → 0 < ps.length → ad.block < B
 qB:∀ ad,qa=some ad → ad.block < B
 ok:Aj ps
 ns:E5 1 3000 ns
end
section
variable {B:Nat} {W0:World} {g:Nat} {pa:Option Addr} {pcap:Nat} {qa:Option Addr} {qcap:Nat} {ps:List Pk} {ns:List Int}
theorem TP (E:IZ B W0 pa qa ps ns) {D:Nat → Prop} {q:TQ} {w:World} (h:Bz B W0 g (.slice pa ps.length pcap) (.slice qa ns.length qcap) w D q) (hok:II ps ns 1500 q) (hn:q.n ≤ 300) {k:Nat} {p:Pk} (hp:ps[k]? = some p) :
  Calls Tryz.prog 204 #[.pointer (some ⟨g,0,none⟩),.int .i64 (k:Int)] w fun e w'=>e=.returned (.tuple #[]) ∧ Az (Bz B W0 g (.slice pa ps.length pcap) (.slice qa ns.length qcap)) w w' D ((BC ps ns).come q k):=by
 obtain ⟨vq,F,rv,hT,hD⟩:=h.parts
 have hl:AO w pa ps:=E.pk.bel E.pB h.env
 have hf8:=QO E.ok k
 have hpf:p.flow=((Ae ps k:Nat):Int):=by
  rw [ES hp]
  have:=Bb (E.ok.each _ p hp).1
  omega
 have hq3:(q.d.qs (Ae ps k)).length ≤ 300:=by
  have:=Qs q.d.qs 8 hf8
  have:=hok.count
  omega
 by_cases hq:q.d.qs (Ae ps k)=[]
 ·
  refine (LX B g pa pcap _ ps vq F rv q.d q.n w hT hl E.ok.few k (Ae ps k) p hp hpf hf8 hq (Zq hok) (by omega) h.le).mono ?_
  rintro e w' ⟨rfl,hE⟩
  have hm:Ae ps k ∉ q.d.line:=fun hm=>(hok.state.active _).1 hm hq
  have e1:((BC ps ns).come q k).d={ q.d with qs:=Au q.d.qs (Ae ps k) (q.d.qs (Ae ps k) ++ [k]),row:=q.d.row ++ [Ae ps k] }:=by
   show q.d.come (Ae ps) k=_
   unfold Drr.come
   rw [if_neg hm]
  exact ⟨rfl,Bl.left h hD (by rw [e1];exact hE)⟩
 ·
  refine (MX B g pa pcap _ ps vq F rv q.d q.n w hT hl E.ok.few k (Ae ps k) p hp hpf hf8 hq hq3 (by omega) h.le).mono ?_
  rintro e w' ⟨rfl,hE⟩
  have hm:Ae ps k ∈ q.d.line:=(hok.state.active _).2 hq
  have e1:((BC ps ns).come q k).d={ q.d with qs:=Au q.d.qs (Ae ps k) (q.d.qs (Ae ps k) ++ [k]) }:=by
   show q.d.come (Ae ps) k=_
   unfold Drr.come
   rw [if_pos hm]
  exact ⟨rfl,Bl.left h hD (by rw [e1];exact hE)⟩
theorem Uc (E:IZ B W0 pa qa ps ns) {D:Nat → Prop} {q:TQ} {w:World} (h:Bz B W0 g (.slice pa ps.length pcap) (.slice qa ns.length qcap) w D q) (hok:II ps ns 1500 q) (h0:0 < q.n) (hn:q.n ≤ 300) (hq3:∀ f,(q.d.qs f).length ≤ 300 ∧ ∀ k,k ∈ q.d.qs f → k < ps.length) :
  Calls Tryz.prog 205 #[.pointer (some ⟨g,0,none⟩)] w fun e w'=>e=.returned (.int .i64 ((BC ps ns).pick q:Nat)) ∧ Az (Bz B W0 g (.slice pa ps.length pcap) (.slice qa ns.length qcap)) w w' D ((BC ps ns).left q):=by
 obtain ⟨vq,F,rv,hT,hD⟩:=h.parts
 have hqu:∀ f,1 ≤ BN ns f:=fun f=>(H9 E.ns.each (by omega) f).1
 obtain ⟨k,e,hx,e1,e2,-⟩:=hok.picks hqu h0
 obtain ⟨n,hn'⟩:∃ n,q.n=n+1:=⟨q.n - 1,by omega⟩
 rw [hn'] at hT
 refine (WY B g pa pcap qa qcap ps ns vq F rv q.d n w hT (E.pk.bel E.pB h.env) E.pB (PN E.nu E.qB h.env) E.qB E.ok E.ns hok.state hok.few hq3 (by omega) h.le (YB ps q.d) k e hx).mono ?_
 rintro e' w' ⟨rfl,hE⟩
 rw [e1,e2]
 exact ⟨rfl,Bl.left h hD (by rw [show q.n - 1=n by omega];exact hE)⟩
theorem OD {D:Nat → Prop} {q:TQ} {w:World} {pv qv:Value} (h:Bz B W0 g pv qv w D q) :
  Calls Tryz.prog 286 #[IR g] w fun e w'=>e=.returned (.int .i64 (q.n:Int)) ∧ Az (Bz B W0 g pv qv) w w' D q:=by
 have HH:Hid (Bz B W0 g pv qv w D q):=h
 clear h
 unfold IR
 go_enter Tryz.func286,Tryz.ntmps286
 go_wp2_with fail
 refine (Xf B W0 g pv qv D q _ (HH.out.alloc _)).mono ?_
 rintro e w1 ⟨rfl,rfl⟩
 go_wp2_with fail
 go_ret
 exact ⟨rfl,HH.out.same ((Below.refl _ _).alloc (Nat.le_refl _) _)⟩
theorem OG (E:IZ B W0 pa qa ps ns) {D:Nat → Prop} {q:TQ} {w:World} (h:Bz B W0 g (.slice pa ps.length pcap) (.slice qa ns.length qcap) w D q) (hok:II ps ns 1500 q) (h0:0 < q.n) (hn:q.n ≤ 300) (hq3:∀ f,(q.d.qs f).length ≤ 300 ∧ ∀ k,k ∈ q.d.qs f → k < ps.length) :
  Calls Tryz.prog 285 #[IR g] w fun e w'=>e=.returned (.int .i64 ((BC ps ns).pick q:Nat)) ∧ Az (Bz B W0 g (.slice pa ps.length pcap) (.slice qa ns.length qcap)) w w' D ((BC ps ns).left q):=by
 have HP:Hid (∀ w',Bz B W0 g (.slice pa ps.length pcap) (.slice qa ns.length qcap) w' D q → Calls Tryz.prog 205 #[.pointer (some ⟨g,0,none⟩)] w' fun e w''=>e=.returned (.int .i64 ((BC ps ns).pick q:Nat)) ∧ Az (Bz B W0 g (.slice pa ps.length pcap) (.slice qa ns.length qcap)) w' w'' D ((BC ps ns).left q)):=fun w' h'=>Uc E h' hok h0 hn hq3
 have HH:Hid (Bz B W0 g (.slice pa ps.length pcap) (.slice qa ns.length qcap) w D q):=h
 clear h hok hq3 h0
 unfold IR
 go_enter Tryz.func285,Tryz.ntmps285
 go_wp2_with fail
 refine (HP.out _ (HH.out.alloc _)).mono ?_
 rintro e w1 ⟨rfl,ho⟩
 have HO:Hid (Az (Bz B W0 g (.slice pa ps.length pcap) (.slice qa ns.length qcap)) w w1 D ((BC ps ns).left q)):=ho.after ((Below.refl _ _).alloc (Nat.le_refl _) _)
 clear ho
 go_wp2_with fail
 go_ret
 exact ⟨rfl,HO.out⟩
theorem OQ (E:IZ B W0 pa qa ps ns) {D:Nat → Prop} {q:TQ} {w:World} (h:Bz B W0 g (.slice pa ps.length pcap) (.slice qa ns.length qcap) w D q) (hok:II ps ns 1500 q) (hn:q.n ≤ 300) {k:Nat} {p:Pk} (hp:ps[k]? = some p) :
  Calls Tryz.prog 284 #[IR g,.int .i64 (k:Int)] w fun e w'=>e=.returned (.tuple #[]) ∧ Az (Bz B W0 g (.slice pa ps.length pcap) (.slice qa ns.length qcap)) w w' D ((BC ps ns).come q k):=by
 have HP:Hid (∀ w',Bz B W0 g (.slice pa ps.length pcap) (.slice qa ns.length qcap) w' D q → Calls Tryz.prog 204 #[.pointer (some ⟨g,0,none⟩),.int .i64 (k:Int)] w' fun e w''=>e=.returned (.tuple #[]) ∧ Az (Bz B W0 g (.slice pa ps.length pcap) (.slice qa ns.length qcap)) w' w'' D ((BC ps ns).come q k)):=fun w' h'=>TP E h' hok hn hp
 have HH:Hid (Bz B W0 g (.slice pa ps.length pcap) (.slice qa ns.length qcap) w D q):=h
 clear h hok hp
 unfold IR
 go_enter Tryz.func284,Tryz.ntmps284
 go_wp2_with fail
 refine (HP.out _ (HH.out.alloc _)).mono ?_
 rintro e w1 ⟨rfl,ho⟩
 have HO:Hid (Az (Bz B W0 g (.slice pa ps.length pcap) (.slice qa ns.length qcap)) w w1 D ((BC ps ns).come q k)):=ho.after ((Below.refl _ _).alloc (Nat.le_refl _) _)
 clear ho
 go_wp2_with fail
 go_end0
 exact ⟨rfl,HO.out⟩
end
theorem XT (w:World) (pv qv:Value) (t:TypeId):Ao w.heap.size w.heap.size pv qv (w.alloc (.cells #[pv,qv,.slice none 0 0,.slice none 0 0,.slice none 0 0,.slice none 0 0,.slice none 0 0,.slice none 0 0,.slice none 0 0,.slice none 0 0,.int .i64 0,.int .i64 0,.int .i64 0,.int .i64 0,.int .i64 0,.int .i64 0,.int .i64 0,.int .i64 0,.slice none 0 0,.int .i64 (-1),.int .i64 0] t)) (fun _=>.slice none 0 0) (fun _ _=>False) (.slice none 0 0) EO.d 0:=by
 have hc:∀ i,(w.alloc (.cells #[pv,qv,.slice none 0 0,.slice none 0 0,.slice none 0 0,.slice none 0 0,.slice none 0 0,.slice none 0 0,.slice none 0 0,.slice none 0 0,.int .i64 0,.int .i64 0,.int .i64 0,.int .i64 0,.int .i64 0,.int .i64 0,.int .i64 0,.int .i64 0,.slice none 0 0,.int .i64 (-1),.int .i64 0] t)).cell? ⟨w.heap.size,i,none⟩=(#[pv,qv,.slice none 0 0,.slice none 0 0,.slice none 0 0,.slice none 0 0,.slice none 0 0,.slice none 0 0,.slice none 0 0,.slice none 0 0,.int .i64 0,.int .i64 0,.int .i64 0,.int .i64 0,.int .i64 0,.int .i64 0,.int .i64 0,.int .i64 0,.slice none 0 0,.int .i64 (-1),.int .i64 0]:Array Value)[i]?:=fun i=>World.cell?_alloc_at _ _ _ _ rfl
 refine ⟨⟨hc 0,hc 1,fun f hf=>?_,fun f hf=>?_,hc 18,hc 19,hc 20,fun i=>World.frozen?_alloc_new w _ _ i⟩,fun f hf=>Bc.nil _ _,World.ownsRow_nil _ _ _ _,fun f hf=>⟨id,fun _ h=>h.elim,fun _ _ _ h=>h.elim⟩,(fun h=>by cases h),Nat.le_refl _⟩
 ·
  match f,hf with
  | 0,_=>exact hc 2
  | 1,_=>exact hc 3
  | 2,_=>exact hc 4
  | 3,_=>exact hc 5
  | 4,_=>exact hc 6
  | 5,_=>exact hc 7
  | 6,_=>exact hc 8
  | 7,_=>exact hc 9
  | f+8,h=>omega
 ·
  match f,hf with
  | 0,_=>exact hc 10
  | 1,_=>exact hc 11
  | 2,_=>exact hc 12
  | 3,_=>exact hc 13
  | 4,_=>exact hc 14
  | 5,_=>exact hc 15
  | 6,_=>exact hc 16
  | 7,_=>exact hc 17
  | f+8,h=>omega
theorem SV (pa:Option Addr) (pl pcap:Nat) (qa:Option Addr) (ql qcap:Nat) (w:World) :
  Calls Tryz.prog 177 #[.slice pa pl pcap,.slice qa ql qcap] w fun e w'=>e=.returned (.iface 266 (IR w.heap.size)) ∧ Bz w.heap.size w w.heap.size (.slice pa pl pcap) (.slice qa ql qcap) w' (fun k=>k=w.heap.size) EO ∧ Below w.heap.size w w':=by
 unfold IR
 go_enter Tryz.func177,Tryz.ntmps177
 go_wp2_with fail
 go_ret
 have hb:=(Below.refl w.heap.size w).alloc (Nat.le_refl _) (.cells #[.slice pa pl pcap,.slice qa ql qcap,.slice none 0 0,.slice none 0 0,.slice none 0 0,.slice none 0 0,.slice none 0 0,.slice none 0 0,.slice none 0 0,.slice none 0 0,.int .i64 0,.int .i64 0,.int .i64 0,.int .i64 0,.int .i64 0,.int .i64 0,.int .i64 0,.int .i64 0,.slice none 0 0,.int .i64 (-1),.int .i64 0] 273)
 exact ⟨rfl,⟨hb,_,_,_,XT w _ _ _,fun k=>⟨fun h=>.inl h,fun h=>by
  rcases h with h | ⟨_,_,h⟩ | h
  · exact h
  · exact h.elim
  · cases h⟩⟩,hb⟩
theorem Sm (x:Int) (w:World) (h:1 ≤ x ∧ x ≤ 3000):Calls Tryz.prog 176 #[.int .i64 x] w fun e w'=>e=.returned (.bool true) ∧ w'=w:=by
 obtain ⟨h1,h2⟩:=h
 go_enter Tryz.func176,Tryz.ntmps176
 go_wp2
 go_ret
 exact ⟨rfl,rfl⟩
theorem Vq (x:Int) (w:World) (h:¬ (1 ≤ x ∧ x ≤ 3000)):Calls Tryz.prog 176 #[.int .i64 x] w fun e w'=>e=.returned (.bool false) ∧ w'=w:=by
 by_cases h1:1 ≤ x
 ·
  have h2:¬ x ≤ 3000:=fun h'=>h ⟨h1,h'⟩
  clear h
  go_enter Tryz.func176,Tryz.ntmps176
  go_wp2
  go_ret
  exact ⟨rfl,rfl⟩
 ·
  clear h
  go_enter Tryz.func176,Tryz.ntmps176
  go_wp2
  go_ret
  exact ⟨rfl,rfl⟩
theorem I5 (a:Option Addr) (cap:Nat) (ns:List Int) (w:World) (ad:Nat → Addr) (hl:AV w a ns) (h8:ns.length=8) (j:Nat) (hj:j ≤ 8) (hg:∀ (i:Nat) y,i < j → ns[i]? = some y → 1 ≤ y ∧ y ≤ 3000) (R:Value)
  (h:(j=8 ∧ R=.nilIface) ∨ (R=.iface 312 (.pointer (some (ad 1))) ∧ w.cell? ⟨0,0,none⟩=some (.iface 312 (.pointer (some (ad 1)))) ∧ ∃ x,ns[j]? = some x ∧ ¬ (1 ≤ x ∧ x ≤ 3000))) :
  Calls Tryz.prog 175 #[.slice a 8 cap,.func (.func 176) #[] #[]] w fun e w'=>e=.returned R ∧ w'=w:=by
 have HG:Hid (∀ (i:Nat) y,i < j → ns[i]? = some y → 1 ≤ y ∧ y ≤ 3000):=hg
 have HR:Hid ((j=8 ∧ R=.nilIface) ∨ (R=.iface 312 (.pointer (some (ad 1))) ∧ w.cell? ⟨0,0,none⟩=some (.iface 312 (.pointer (some (ad 1)))) ∧ ∃ x,ns[j]? = some x ∧ ¬ (1 ≤ x ∧ x ≤ 3000))):=h
 obtain ⟨b,off,rfl,-,hcell⟩:=hl.place (by omega)
 have HC:Hid (∀ (i:Nat) x,ns[i]? = some x → w.cell? ⟨b,off+i,none⟩=some (.int .i64 x)):=hcell
 have H8:Hid (ns.length=8):=h8
 clear hg h hl hcell h8
 go_enter Tryz.func175,Tryz.ntmps175
 go_wp2_with fail
 go_loopw [13] (fun i wr=>∃ k:Nat,k ≤ j ∧ i=.int .i64 k ∧ wr=w) (fun i _=>8 - (intOf i).toNat)
 case atStart=>exact ⟨0,Nat.zero_le _,rfl,rfl⟩
 case round=>
  obtain ⟨k,hk,rfl,rfl⟩:=hrel
  by_cases hkj:k < j
  ·
   obtain ⟨x,hx,-⟩:=Ai ns k (by rw [H8.out];omega)
   have hok:=HG.out k x hkj hx
   have c1:=HC.out k x hx
   clear hx
   go_wp2_with fail
   refine (Sm x _ hok).mono ?_
   rintro e w1 ⟨rfl,rfl⟩
   go_wp2_with fail
   go_roundw
   case rel=>exact ⟨k+1,by omega,by go_num,trivial⟩
   case measure=>simp [intOf];omega
  ·
   obtain rfl:k=j:=by omega
   rcases HR.out with ⟨rfl,rfl⟩ | ⟨rfl,he,x,hx,hbad⟩
   ·
    go_wp2_with fail
    go_ret
    exact ⟨rfl,rfl⟩
   ·
    have c1:=HC.out k x hx
    have hk8:k < 8:=by
     rw [← H8.out]
     rcases Nat.lt_or_ge k ns.length with h' | h'
     · exact h'
     · simp [List.getElem?_eq_none h'] at hx
    clear hx
    go_wp2_with fail
    refine (Vq x _ hbad).mono ?_
    rintro e w1 ⟨rfl,rfl⟩
    go_wp2_with fail
    go_ret
    exact ⟨rfl,rfl⟩
theorem MG (a:Option Addr) (cap:Nat) (ns:List Int) (w:World) (hl:AV w a ns) (ho:E5 1 3000 ns) :
  Calls Tryz.prog 175 #[.slice a ns.length cap,.func (.func 176) #[] #[]] w fun e w'=>e=.returned .nilIface ∧ w'=w:=by
 rw [ho.len]
 exact I5 a cap ns w (fun _=>⟨0,0,none⟩) hl ho.len 8 (Nat.le_refl _) (fun i y _ hy=>ho.each i y hy) _ (.inl ⟨rfl,rfl⟩)
theorem LV (a:Option Addr) (cap:Nat) (ns:List Int) (w:World) (ad:Nat → Addr) (he:Iu w ad) (hl:AV w a ns) (c:Nat) (h:Ct 1 3000 ns c) (hc:0 < c) :
  Calls Tryz.prog 175 #[.slice a ns.length cap,.func (.func 176) #[] #[]] w fun e w'=>e=.returned (Ec ad c) ∧ w'=w:=by
 rcases h with ⟨rfl,h8⟩ | ⟨rfl,j,h8,⟨x,hx,hbad⟩,hg⟩ | ⟨rfl,-⟩
 · exact Ej a ns.length cap _ w ad h8 he.2
 ·
  rw [h8]
  exact I5 a cap ns w ad hl h8 j (by have:=Ad hx;omega) hg _ (.inr ⟨rfl,he.1,x,hx,hbad⟩)
 · omega
def F6 (per:Int) (ps:List Pk) (ns:List Int) (B:Nat) (w:World) (v:Value) (w':World):Prop:=∃ l,Ig w' w.heap.size v l ∧ Dz per ps ns l ∧ Below B w w'
theorem PW (a:Option Addr) (cap:Nat) (ps:List Pk) (per:Int) (na:Option Addr) (ncap:Nat) (ns:List Int) (B:Nat) (W0:World) (g:Nat) (D0:Nat → Prop) (w:World) (E:IZ B W0 a na ps ns) (h1:1 ≤ per) (h2:per ≤ 1000) (h0:Bz B W0 g (.slice a ps.length cap) (.slice na ns.length ncap) w D0 EO) :
  Calls Tryz.prog 169 #[.slice a ps.length cap,.int .i64 per,.iface 266 (IR g)] w fun e w'=>∃ v,e=.returned v ∧ F6 per ps ns B w v w':=by
 have hqu:∀ f,1 ≤ BN ns f:=fun f=>(H9 E.ns.each (by omega) f).1
 have hlaw:=Jn (per:=per) (ps:=ps) E.ok hqu
 have hlen:∀ s,Reaches (BC ps ns) per ps EO s → s.q.n ≤ 300:=fun s hr=>by
  have hc:=hr.count hlaw
  have hn:=hr.next_le
  have:=E.ok.few
  have:(BC ps ns).rest s.q=s.q.n:=rfl
  omega
 refine (NU (BC ps ns) (Bz B W0 g (.slice a ps.length cap) (.slice na ns.length ncap)) per ps EO B _ _ _ (YX B W0 g _ _) hlaw E.ok h1 h2 ?_ ?_ ?_ a cap w (E.pk.bel E.pB h0.env) h0.le E.pB D0 h0).mono ?_
 ·
  intro w D s p hr hp hh
  exact OQ E hh (RX E.ok hqu hr) (hlen s hr) hp
 ·
  intro w D s hr h0' hh
  exact OG E hh (RX E.ok hqu hr) h0' (hlen s hr) (fun f=>by
   obtain ⟨f1,f2⟩:=Xd E.ok hqu hr f
   exact ⟨f1,fun k hk=>by have:=(f2 k hk).1;have:=hr.next_le;omega⟩)
 ·
  intro w D s hr hh
  rw [JZ _ (fun _=>rfl)]
  exact OD hh
 ·
  rintro e w' ⟨s,v,rfl,hr,hn,hrest,hown,hb⟩
  exact ⟨v,rfl,s.out,hown,⟨s,hr,hn,hrest,rfl⟩,hb⟩
theorem Sq (a:Option Addr) (cap:Nat) (ps:List Pk) (per:Int) (na:Option Addr) (ncap:Nat) (ns:List Int) (w:World) (hl:AO w a ps) (hn:AV w na ns) (ho:Aj ps) (h1:1 ≤ per) (h2:per ≤ 1000) (hk:E5 1 3000 ns) :
  Calls Tryz.prog 146 #[.slice a ps.length cap,.int .i64 per,.slice na ns.length ncap] w fun e w'=>∃ v,e=.returned (.tuple #[v,.nilIface]) ∧ F6 per ps ns w.heap.size w v w':=by
 have HCheck:Hid (∀ W,Below w.heap.size w W → Calls Tryz.prog 168 #[.slice a ps.length cap,.int .i64 per] W fun e w'=>e=.returned .nilIface ∧ Below W.heap.size W w'):=fun W hb=>Cn a cap ps per W (hl.below hb) ho h1 h2
 have HUp:Hid (∀ W,Below w.heap.size w W → Calls Tryz.prog 175 #[.slice na ns.length ncap,.func (.func 176) #[] #[]] W fun e w'=>e=.returned .nilIface ∧ w'=W):=fun W hb=>MG na ncap ns W (hn.below hb) hk
 have HSend:Hid (∀ W W3,Below w.heap.size w W → Bz W.heap.size W W.heap.size (.slice a ps.length cap) (.slice na ns.length ncap) W3 (fun k=>k=W.heap.size) EO → Below W.heap.size W W3 →
   Calls Tryz.prog 169 #[.slice a ps.length cap,.int .i64 per,.iface 266 (IR W.heap.size)] W3 fun e w'=>∃ v,e=.returned v ∧ F6 per ps ns w.heap.size w v w'):=fun W W3 hb h0 hb3=>by
  have hlW:=hl.below hb
  have hnW:=hn.below hb
  refine (PW a cap ps per na ncap ns W.heap.size W W.heap.size _ W3 ⟨hlW,hnW,hlW.at_lt,fun ad had=>?_,ho,hk⟩ h1 h2 h0).mono ?_
  ·
   obtain ⟨b,off,e,hlt,-⟩:=hnW.place (by rw [hk.len];omega)
   rw [e] at had
   cases had
   exact hlt
  ·
   rintro e w' ⟨v,rfl,l,g1,g2,g3⟩
   exact ⟨v,rfl,l,CR g1 (Nat.le_trans hb.size hb3.size),g2,(hb.trans (hb3.mono hb.size)).trans (g3.mono hb.size)⟩
 clear hl hn ho hk
 generalize hpl:ps.length=n at *
 generalize hnl:ns.length=m at *
 clear hpl hnl
 go_enter Tryz.func146,Tryz.ntmps146
 go_wp2_with fail
 refine (HCheck.out _ (Below.refl _ _)).mono ?_
 rintro e w1 ⟨rfl,hb⟩
 have HB1:Hid (Below w.heap.size w w1):=hb
 clear hb
 go_wp2_with fail
 refine (HUp.out _ HB1.out).mono ?_
 rintro e w2 ⟨rfl,rfl⟩
 go_wp2_with fail
 refine (SV a n cap na m ncap w2).mono ?_
 rintro e w3 ⟨rfl,hh,hb3⟩
 have HS:Hid (Calls Tryz.prog 169 #[.slice a n cap,.int .i64 per,.iface 266 (IR w2.heap.size)] w3 fun e w'=>∃ v,e=.returned v ∧ F6 per ps ns w.heap.size w v w'):=HSend.out w2 w3 HB1.out hh hb3
 clear hh hb3
 go_wp2_with fail
 refine HS.out.mono ?_
 rintro e w4 ⟨v,rfl,hs⟩
 have HE:Hid (F6 per ps ns w.heap.size w v w4):=hs
 clear hs
 go_wp2_with fail
 go_ret2
 exact ⟨v,rfl,HE.out⟩
theorem OX {R:TypeId → Value → World → Prop} (a:Option Addr) (n cap:Nat) (per:Int) (na:Option Addr) (m ncap:Nat) (w:World) (h:Calls Tryz.prog 168 #[.slice a n cap,.int .i64 per] w fun e w'=>∃ ty v,e=.returned (.iface ty v) ∧ R ty v w') :
  Calls Tryz.prog 146 #[.slice a n cap,.int .i64 per,.slice na m ncap] w fun e w'=>∃ ty v,e=.returned (.tuple #[.slice none 0 0,.iface ty v]) ∧ R ty v w':=by
 have HC:Hid (Calls Tryz.prog 168 #[.slice a n cap,.int .i64 per] w fun e w'=>∃ ty v,e=.returned (.iface ty v) ∧ R ty v w'):=h
 clear h
 go_enter Tryz.func146,Tryz.ntmps146
 go_wp2_with fail
 refine HC.out.mono ?_
 rintro e w1 ⟨ty,v,rfl,hR⟩
 have HR:Hid (R ty v w1):=hR
 clear hR
 go_wp2_with fail
 go_ret2
 exact ⟨ty,v,rfl,HR.out⟩
theorem OC {R:TypeId → Value → World → Prop} (a:Option Addr) (n cap:Nat) (per:Int) (na:Option Addr) (m ncap:Nat) (w:World) (h:Calls Tryz.prog 168 #[.slice a n cap,.int .i64 per] w fun e w'=>e=.returned .nilIface ∧ Below w.heap.size w w')
  (h2:∀ W,Below w.heap.size w W → Calls Tryz.prog 175 #[.slice na m ncap,.func (.func 176) #[] #[]] W fun e w'=>∃ ty v,e=.returned (.iface ty v) ∧ R ty v w') :
  Calls Tryz.prog 146 #[.slice a n cap,.int .i64 per,.slice na m ncap] w fun e w'=>∃ ty v,e=.returned (.tuple #[.slice none 0 0,.iface ty v]) ∧ R ty v w':=by
 have HC:Hid (Calls Tryz.prog 168 #[.slice a n cap,.int .i64 per] w fun e w'=>e=.returned .nilIface ∧ Below w.heap.size w w'):=h
 have HU:Hid (∀ W,Below w.heap.size w W → Calls Tryz.prog 175 #[.slice na m ncap,.func (.func 176) #[] #[]] W fun e w'=>∃ ty v,e=.returned (.iface ty v) ∧ R ty v w'):=h2
 clear h h2
 go_enter Tryz.func146,Tryz.ntmps146
 go_wp2_with fail
 refine HC.out.mono ?_
 rintro e w1 ⟨rfl,hb⟩
 have HB:Hid (Below w.heap.size w w1):=hb
 clear hb
 go_wp2_with fail
 refine (HU.out _ HB.out).mono ?_
 rintro e w2 ⟨ty,v,rfl,hR⟩
 have HR:Hid (R ty v w2):=hR
 clear hR
 go_wp2_with fail
 go_ret2
 exact ⟨ty,v,rfl,HR.out⟩
theorem Tryz.keyed:Go.Maps.Keyed Tryz.prog 3:=Go.Maps.int_keyed Tryz.underlying3
theorem Tryz.zeroInt (w:World):(zeroValue 3).run Tryz.prog w=.ok (.int .i64 0) w:=by kernel_rfl
theorem Tryz.underMap:Tryz.prog.underlying 274=some (.map 3 3):=by kernel_rfl
section
variable {B:Nat} {W0:World} {g gt gm n:Nat} {pv qv:Value} {w:World} {D:Nat → Prop} {q:FQ}
theorem Ov (h:Bf B W0 g gt gm n pv qv w D q) (h0:0 < q.q.length) :
  Calls Tryz.prog 210 #[.pointer (some ⟨g,0,none⟩)] w fun e w'=>e=.returned (.int .i64 (q.q.length:Int)) ∧ w'=w:=by
 obtain ⟨rv,hA,hD⟩:=h.parts
 have hr:=hA.row
 rw [← AA] at hr
 obtain ⟨ao,cap,rfl,hlc,hcm⟩:=NK hr
 rw [AA] at hlc hA
 have c5:=hA.cells.c5
 obtain ⟨l,hl⟩:∃ l,q.q.length=l:=⟨_,rfl⟩
 rw [hl] at c5 hlc h0 ⊢
 have h1:((l:Int) == 0)=false:=by simpa using (show l ≠ 0 by omega)
 have h2:(l:Int) ≠ 0:=by omega
 unfold maxLen at hcm
 clear hA hr hD h hl
 go_enter Tryz.func210,Tryz.ntmps210
 go_wp2
 go_ret
 exact ⟨rfl,rfl⟩
theorem OI (h:Bf B W0 g gt gm n pv qv w D q) (h0:q.q.length=0) :
  Calls Tryz.prog 210 #[.pointer (some ⟨g,0,none⟩)] w fun e w'=>e=.returned (.int .i64 0) ∧ Az (Bf B W0 g gt gm n pv qv) w w' D q.rests:=by
 have HH:Hid (Bf B W0 g gt gm n pv qv w D q):=h
 obtain ⟨rv,hA,hD⟩:=h.parts
 have hr:=hA.row
 rw [← AA] at hr
 obtain ⟨ao,cap,rfl,hlc,hcm⟩:=NK hr
 rw [AA] at hlc hA hD
 rw [h0] at hlc hA hD
 have c5:=hA.cells.c5
 have c4:=hA.cells.c4
 have f4:=hA.cells.free 4
 have hV:=hA.setV 0
 have d3:=hV.cells.c3
 have d5:=hV.cells.c5
 have HV:Hid (BB B g gt gm n pv qv (w.setCell ⟨g,4,none⟩ (.int .i64 0)) (.slice ao 0 cap) { q with v:=0 } ∧ (∀ k,D k ↔ D7 g gt gm (.slice ao 0 cap) k) ∧ But (fun k=>k=g) w (w.setCell ⟨g,4,none⟩ (.int .i64 0))):=⟨hV,hD,R5 _ _ _ _⟩
 obtain ⟨w1,hclr,ht,hg⟩:=hV.tells.cleared Tryz.underMap 0
 have HF0:=hV.setLast hg ht
 have e5:=HF0.1.cells.c5
 have HF:Hid (BB B g gt gm n pv qv w1 (.slice ao 0 cap) { q with v:=0,last:=fun _=>0 } ∧ But (fun k=>k=gm) (w.setCell ⟨g,4,none⟩ (.int .i64 0)) w1):=HF0
 unfold maxLen at hcm
 clear hA hr hD h hV ht hg HF0
 go_enter Tryz.func210,Tryz.ntmps210
 go_wp2
 go_ret
 refine ⟨rfl,HH.out.leaves (q':=q.rests) HV.out.2.1 ((HV.out.2.2.mono fun k hk=>(HV.out.2.1 k).2 (.inl hk)).trans (HF.out.2.mono fun k hk=>(HV.out.2.1 k).2 (.inr (.inr (.inl hk))))) HF.out.1 (fun k hk=>.inl hk)⟩
end
structure Qz (B:Nat) (W0:World) (pa qa:Option Addr) (ps:List Pk) (ws:List Int):Prop where
 pk:AO W0 pa ps
 nu:AV W0 qa ws
 pB:∀ ad,pa=some ad → 0 < ps.length → ad.block < B
 qB:∀ ad,qa=some ad → ad.block < B
 ok:Aj ps
 ws:GD ws
theorem ZQ {B:Nat} {w w':World} {a:Option Addr} {xs:List Int} (h:AV w a xs) (ha:∀ ad,a=some ad → ad.block < B) (hb:Below B w w'):AV w' a xs:=by
 rcases h with rfl | ⟨b,off,rfl,hlt,hc⟩
 · exact .inl rfl
 ·
  have hB:b < B:=ha ⟨b,off,none⟩ rfl
  exact .inr ⟨b,off,rfl,Nat.lt_of_lt_of_le hlt hb.size,fun i x hi=>by rw [hb.cell (p:=⟨b,off+i,none⟩) hB];exact hc i x hi⟩
section
variable {B:Nat} {W0:World} {g gt gm n:Nat} {pv qv:Value} {w:World} {D:Nat → Prop} {q:FQ}
theorem Bf.same {w':World} (h:Bf B W0 g gt gm n pv qv w D q) (hb:Below w.heap.size w w'):Az (Bf B W0 g gt gm n pv qv) w w' D q:=⟨D,h.later hb,.ofBelow hb,fun _ hk=>.inl hk⟩
theorem YE {ps:List Pk} {ws:List Int} (h:Bf B W0 g gt gm n pv qv w D q) :
  Calls Tryz.prog 210 #[.pointer (some ⟨g,0,none⟩)] w fun e w'=>e=.returned (.int .i64 (q.q.length:Int)) ∧ Az (Bf B W0 g gt gm n pv qv) w w' D ((BD ps ws).asked q):=by
 by_cases h0:q.q.length=0
 ·
  have e:(BD ps ws).asked q=q.rests:=if_pos h0
  rw [e,h0]
  exact OI h h0
 ·
  have e:(BD ps ws).asked q=q:=if_neg h0
  rw [e]
  refine (Ov h (by omega)).mono ?_
  rintro e w' ⟨rfl,rfl⟩
  exact ⟨rfl,h.same (Below.refl _ _)⟩
theorem Wl {rv:Value} (h:BB B g gt gm n pv qv w rv q) {k:Nat} (hk:k < n) :
  Calls Tryz.prog 225 #[.pointer (some ⟨g,0,none⟩),.int .i64 (k:Int)] w fun e w'=>e=.returned (.int .i64 (q.tag k)) ∧ ∃ m,w'=w.drewN m:=by
 have c2:=h.cells.c2
 have ck:=h.given.cell k hk
 generalize q.tag k=x at *
 clear h
 go_enter Tryz.func225,Tryz.ntmps225
 go_wp2_with fail
 go_ret
 exact ⟨rfl,0,rfl⟩
theorem Ye {ps:List Pk} {ws:List Int} (h:Bf B W0 g gt gm n pv qv w D q) (h0:0 < q.q.length) (hn:q.q.length ≤ 300) (hnd:q.q.Nodup) (hq:∀ k,k ∈ q.q → k < n) :
  Calls Tryz.prog 209 #[.pointer (some ⟨g,0,none⟩)] w fun e w'=>e=.returned (.int .i64 ((BD ps ws).pick q:Nat)) ∧ Az (Bf B W0 g gt gm n pv qv) w w' D ((BD ps ws).left q):=by
 have HH:Hid (Bf B W0 g gt gm n pv qv w D q):=h
 obtain ⟨rv,hA,hD⟩:=h.parts
 have hr:=hA.row
 rw [← AA] at hr
 obtain ⟨r,cap,rfl,hlc,hcm,-⟩:=M8 hr (by rw [AA];exact h0)
 rw [AA] at hlc hA hD hr
 have hpl:=FV q.tag h0
 obtain ⟨k,hk⟩:∃ k,q.q.getD (Ba q.tag q.q) 0=k:=⟨_,rfl⟩
 have hkn:k < n:=hq k (by rw [← hk,getD_lt hpl];exact List.getElem_mem hpl)
 have ht:=Ug B 225 (.pointer (some ⟨g,0,none⟩)) q.tag n r cap q.q w (by omega) h0 hq hr hlc hcm (fun _ _=>rfl) (fun m' k hk=>Wl (w:=w.drewN m') (hA.later (below_drewN (Below.refl _ _) _)) hk)
 unfold EW at ht
 have c5:=hA.cells.c5
 have hkm:∀ x,x=q.tag k → True:=fun _ _=>trivial
 have HA:Hid (BB B g gt gm n pv qv w (.slice (some ⟨r,0,none⟩) q.q.length cap) q ∧ (∀ k,D k ↔ D7 g gt gm (.slice (some ⟨r,0,none⟩) q.q.length cap) k)):=⟨hA,hD⟩
 have HLen:Hid ((q.q.eraseIdx (Ba q.tag q.q)).length=q.q.length - 1):=by
  show _=_
  rw [List.length_eraseIdx,if_pos hpl]
 have HL:Hid ((BD ps ws).pick q=k ∧ (BD ps ws).left q={ q with q:=q.q.eraseIdx (Ba q.tag q.q),v:=q.tag k }):=by
  refine ⟨hk,?_⟩
  show q.left (q.q.getD (Ba q.tag q.q) 0)=_
  rw [Kz _ _ hnd hpl,hk]
  rfl
 rw [HL.out.1,HL.out.2]
 obtain ⟨l,hl⟩:∃ l,q.q.length=l:=⟨_,rfl⟩
 obtain ⟨pk,hpk⟩:∃ pk,Ba q.tag q.q=pk:=⟨_,rfl⟩
 obtain ⟨T,hT⟩:∃ T,q.tag k=T:=⟨_,rfl⟩
 rw [hk,hl,hpk] at ht
 rw [hpk] at HLen ⊢
 have HT:Hid (Calls Tryz.prog 202 #[.slice (some ⟨r,0,none⟩) l cap,.func (.func 225) #[.pointer (some ⟨g,0,none⟩)] #[]] w fun e w'=>e=.returned (.tuple #[.int .i64 (k:Nat),.slice (some ⟨r,0,none⟩) (l - 1) cap]) ∧ w'.ownsRow B 3 1 (.slice (some ⟨r,0,none⟩) (l - 1) cap) (l - 1) (ints (Am (q.q.eraseIdx pk))) ∧ But (fun j=>j=r) w w'):=ht
 have HLn:Hid (q.q.length=l ∧ q.tag k=T):=⟨hl,hT⟩
 rw [hl] at c5 hn h0 hlc
 rw [hT]
 clear hr hA hD h hk hq hpl hnd hl hpk ht hkm hT
 go_enter Tryz.func209,Tryz.ntmps209
 go_wp2_with fail
 refine HT.out.mono ?_
 rintro e w2 ⟨rfl,hown2,hbut2⟩
 have hR:BB B g gt gm n pv qv (w2.setCell ⟨g,5,none⟩ (.slice (some ⟨r,0,none⟩) (l - 1) cap)) (.slice (some ⟨r,0,none⟩) (l - 1) cap) { q with q:=q.q.eraseIdx pk }:=
  HA.out.1.setR (r':=q.q.eraseIdx pk) (hbut2.mono fun j hj=>by rw [hj];rfl) (by rw [HLen.out,HLn.out.1];exact hown2) (fun j hj=>.inl hj)
 have hA2:=HA.out.1.cells.but (S:=fun j=>j=r) hbut2 (fun e=>HA.out.1.rapart.1 (by rw [← e];rfl))
 have f2:=hA2.free 5
 have d5:=hA2.c5
 have d2:=hR.cells.c2
 have dk:=hR.given.cell k hkn
 have f4:=hR.cells.free 4
 have d4:=hR.cells.c4
 have hdk:(FQ.mk (q.q.eraseIdx pk) q.tag q.v q.last).tag k=T:=HLn.out.2
 rw [hdk] at dk
 have HR:Hid (BB B g gt gm n pv qv (w2.setCell ⟨g,5,none⟩ (.slice (some ⟨r,0,none⟩) (l - 1) cap)) (.slice (some ⟨r,0,none⟩) (l - 1) cap) { q with q:=q.q.eraseIdx pk } ∧ But (fun j=>j=r) w w2):=⟨hR,hbut2⟩
 clear hR hown2 hbut2 hA2 hdk
 go_wp2_with fail
 go_ret
 have hDr:D r:=(HA.out.2 r).2 (.inr (.inr (.inr rfl)))
 have hDg:D g:=(HA.out.2 g).2 (.inl rfl)
 exact ⟨rfl,HH.out.leaves HA.out.2 ((HR.out.2.mono fun j hj=>by rw [hj];exact hDr).trans (((R5 _ _ _ _).mono fun j hj=>by rw [hj];exact hDg).trans ((R5 _ _ _ _).mono fun j hj=>by rw [hj];exact hDg))) (HR.out.1.setV T) (fun j hj=>.inl hj)⟩
end
section
variable {B:Nat} {W0:World} {g gt gm:Nat} {pa:Option Addr} {pcap:Nat} {qa:Option Addr} {qcap:Nat} {ps:List Pk} {ws:List Int} {D:Nat → Prop} {q:FQ} {w:World}
theorem Zd (E:Qz B W0 pa qa ps ws) (h:Bf B W0 g gt gm ps.length (.slice pa ps.length pcap) (.slice qa ws.length qcap) w D q) (hn:q.q.length ≤ 300) (hv:0 ≤ q.v ∧ q.v ≤ 100000000) (hl:∀ f,0 ≤ q.last f ∧ q.last f ≤ 100000000) {k:Nat} {p:Pk} (hp:ps[k]? = some p) :
  Calls Tryz.prog 208 #[.pointer (some ⟨g,0,none⟩),.int .i64 (k:Int)] w fun e w'=>e=.returned (.tuple #[]) ∧ Az (Bf B W0 g gt gm ps.length (.slice pa ps.length pcap) (.slice qa ws.length qcap)) w w' D ((BD ps ws).come q k):=by
 have HH:Hid (Bf B W0 g gt gm ps.length (.slice pa ps.length pcap) (.slice qa ws.length qcap) w D q):=h
 have HB:Hid (B ≤ w.heap.size):=h.le
 obtain ⟨rv,hA,hD⟩:=h.parts
 have hkl:=Ad hp
 have hf8:=QO E.ok k
 have hok:=Bb (E.ok.each _ p hp).1
 have hfew:=E.ok.few
 have hpf:p.flow=((Ae ps k:Nat):Int):=by rw [ES hp];omega
 have hlw:AO w pa ps:=E.pk.bel E.pB h.env
 have hnw:AV w qa ws:=ZQ E.nu E.qB h.env
 obtain ⟨x,hx,-⟩:=Ai ws (Ae ps k) (by rw [E.ws.len];exact hf8)
 have hwt:=E.ws.each _ x hx
 have h12:=Zy hwt
 have hinc:D8 ps ws k=p.size * (12 / x):=by unfold D8;rw [Df hp,IY hx]
 have hincr:=I7 E.ws.ok E.ok k
 have hdiv:=Yt hwt (show 0 ≤ p.size by omega)
 rw [← hinc] at hdiv
 obtain ⟨pb,off,rfl,hplt,hc⟩:=hlw.place (by omega)
 obtain ⟨qb,qo,rfl,hqlt,hqc⟩:=hnw.place (by rw [E.ws.len];omega)
 have hw8:=E.ws.len
 have hcome:(BD ps ws).come q k=⟨q.q ++ [k],Au q.tag k (max q.v (q.last (Ae ps k))+D8 ps ws k),q.v,Au q.last (Ae ps k) (max q.v (q.last (Ae ps k))+D8 ps ws k)⟩:=rfl
 rw [hcome]
 have hlf:=hl (Ae ps k)
 obtain ⟨f,hf⟩:∃ f,Ae ps k=f:=⟨_,rfl⟩
 obtain ⟨I,hI⟩:∃ I,D8 ps ws k=I:=⟨_,rfl⟩
 obtain ⟨z,hz⟩:∃ z,p.size=z:=⟨_,rfl⟩
 obtain ⟨tk,htk⟩:∃ tk,p.tick=tk:=⟨_,rfl⟩
 obtain ⟨la,hla⟩:∃ la,q.last f=la:=⟨_,rfl⟩
 obtain ⟨cv,hcv⟩:∃ cv,q.v=cv:=⟨_,rfl⟩
 obtain ⟨n,hnl⟩:∃ n,ps.length=n:=⟨_,rfl⟩
 have d0:=(hc k p hp).1
 have d1:=(hc k p hp).2.1
 have d2:=(hc k p hp).2.2
 rw [hf] at hpf hx hf8 hlf ⊢
 rw [hpf] at d0
 rw [hz] at d1 hdiv hok
 rw [htk] at d2
 rw [hI] at hdiv hincr ⊢
 rw [hla] at hlf ⊢
 rw [hcv] at hv ⊢
 have dq:=hqc f x hx
 have hbW:Below w.heap.size w (w.alloc (.cells #[.int .i64 (f:Int),.int .i64 z,.int .i64 tk] 58)):=(Below.refl _ _).alloc (Nat.le_refl _) _
 have hAW:=hA.later hbW
 obtain ⟨W,hW⟩:∃ W,w.alloc (.cells #[.int .i64 (f:Int),.int .i64 z,.int .i64 tk] 58)=W:=⟨_,rfl⟩
 rw [hW] at hAW hbW
 have b0:W.cell? ⟨w.heap.size,0,none⟩=some (.int .i64 (f:Int)):=by rw [← hW];simp
 have b1:W.cell? ⟨w.heap.size,1,none⟩=some (.int .i64 z):=by rw [← hW];simp
 have a0:=hA.cells.c0
 have a1:=hAW.cells.c1
 have a2:=hAW.cells.c2
 have a3:=hAW.cells.c3
 have a4:=hAW.cells.c4
 rw [hcv] at a4
 rw [hnl] at a0 a2
 rw [hw8] at a1
 have eq:W.cell? ⟨qb,qo+f,none⟩=some (.int .i64 x):=cell_later hbW dq
 have hkey:keyOf Tryz.prog 3 (.int .i64 (f:Int))=some (.int .i64 (f:Int)):=Go.Maps.keyOf_int_mk Tryz.underlying3 (WalkArith.wf_i64 (by omega))
 have hlook:∀ m,(Instr.lookup 274 (.map (some gm)) (.int .i64 (f:Int)) false).run Tryz.prog (W.drewN m)=.ok (.int .i64 la) (W.drewN m):=fun m=>by
  have:=(hAW.later (below_drewN (Below.refl _ _) m)).tells.look Tryz.keyed Tryz.underMap Tryz.underlying3 (Tryz.zeroInt _) hkey
  rw [hla] at this
  exact this
 have HA:Hid (BB B g gt gm ps.length (.slice (some ⟨pb,off,none⟩) ps.length pcap) (.slice (some ⟨qb,qo,none⟩) ws.length qcap) W rv q ∧ (∀ k,D k ↔ D7 g gt gm rv k) ∧ Below w.heap.size w W):=⟨hAW,hD,hbW⟩
 have v1:IntKind.i64.wrap (z * 12)=z * 12:=IntWalk.i64_in _ (by omega)
 have hf8i:(f:Int) < 8:=by omega
 have hx1:1 ≤ x:=hwt.1
 have hx0:¬ x=0:=by omega
 have hx2:(x == 0)=false:=by simpa using hx0
 have v3:IntKind.i64.wrap I=I:=IntWalk.i64_in _ (by omega)
 obtain ⟨T,hT⟩:∃ T,max cv la+I=T:=⟨_,rfl⟩
 have v2:IntKind.i64.wrap (max cv la+I)=T:=by rw [← hT];exact IntWalk.i64_in _ (by omega)
 have HT:Hid (0 ≤ T ∧ T ≤ 200000000):=⟨by omega,by omega⟩
 rw [hT]
 have HW:Hid (w.alloc (.cells #[.int .i64 (f:Int),.int .i64 z,.int .i64 tk] 58)=W):=hW
 rw [hnl] at hkl hfew
 have HN:Hid (ps.length=n ∧ q.v=cv ∧ q.last f=la):=⟨hnl,hcv,hla⟩
 clear h hlw hnw hc hqc hp hx hinc hcome hA hAW hD hf hI hz htk hla hcv hnl hl hW hpf E
 go_enter Tryz.func208,Tryz.ntmps208
 go_wp2_with fail
 rw [HW.out]
 go_quiet (fail)
 obtain ⟨V,hV⟩:∃ V,W.drewN nq=V:=⟨_,rfl⟩
 rw [hV]
 have hbV:Below W.heap.size W V:=by rw [← hV];exact below_drewN (Below.refl _ _) _
 have hAV:=HA.out.1.later hbV
 have a2':=hAV.cells.c2
 rw [HN.out.1] at a2'
 have hkn:k < ps.length:=by rw [HN.out.1];exact hkl
 have ck:=hAV.given.cell k hkn
 have fk:=hAV.given.frozen k
 have hA2:=hAV.setTag hkn T
 have a3':=hA2.cells.c3
 have b0':(V.setCell ⟨gt,k,none⟩ (.int .i64 T)).cell? ⟨w.heap.size,0,none⟩=some (.int .i64 (f:Int)):=by
  rw [World.cell?_setCell_other _ _ _ _ (fun e=>by
   have e':gt=w.heap.size:=congrArg Addr.block e
   have:=(HH.out.foot gt (((HA.out.2.1 gt).2 (.inr (.inl rfl))))).2
   omega)]
  exact cell_later hbV b0
 have HV:Hid (BB B g gt gm ps.length (.slice (some ⟨pb,off,none⟩) ps.length pcap) (.slice (some ⟨qb,qo,none⟩) ws.length qcap) (V.setCell ⟨gt,k,none⟩ (.int .i64 T)) rv { q with tag:=Au q.tag k T } ∧ Below W.heap.size W V):=⟨hA2,hbV⟩
 have hwf:(Lit.int .i64 T).wf=true:=WalkArith.wf_i64 (by have:=HT.out;omega)
 have hA2d:=hA2.later (below_drewN (Below.refl _ _) 1)
 obtain ⟨W3,hupd,ht3,hg3⟩:=hA2d.tells.store Tryz.keyed Tryz.underMap Tryz.underlying3 hf8 hkey hwf
 have h3:=hA2d.setLast hg3 ht3
 have a5:=h3.1.cells.c5
 have f5:=h3.1.cells.free 5
 have HV3:Hid (BB B g gt gm ps.length (.slice (some ⟨pb,off,none⟩) ps.length pcap) (.slice (some ⟨qb,qo,none⟩) ws.length qcap) W3 rv { q with tag:=Au q.tag k T,last:=Au q.last f T } ∧ But (fun k=>k=gm) ((V.setCell ⟨gt,k,none⟩ (.int .i64 T)).drewN 1) W3):=h3
 obtain ⟨V2,hV2⟩:∃ V2,V.setCell ⟨gt,k,none⟩ (.int .i64 T)=V2:=⟨_,rfl⟩
 have HV2:Hid (V.setCell ⟨gt,k,none⟩ (.int .i64 T)=V2):=hV2
 have hupd':(Instr.mapUpdate 274 (.map (some gm)) (.int .i64 (f:Int)) (.int .i64 T)).run Tryz.prog V2.drew=.ok () W3:=by rw [← hV2];exact hupd
 rw [hV2] at a3' b0'
 clear hV hbV hAV hA2 a0 a1 a2 a3 a4 d0 d1 d2 dq eq b0 b1 hlook v1 v2 v3 hkn hdiv hincr hupd h3 hA2d ht3 hg3
 go_wp2_with fail
 clear hV2
 go_region
 have H3:=HV3.out.1
 have hb0:Below W3.heap.size W3 (W3.alloc (.cells #[.int .i64 (k:Int)] 3)):=(Below.refl _ _).alloc (Nat.le_refl _) _
 have HA4:Hid (BB B g gt gm ps.length (.slice (some ⟨pb,off,none⟩) ps.length pcap) (.slice (some ⟨qb,qo,none⟩) ws.length qcap) (W3.alloc (.cells #[.int .i64 (k:Int)] 3)) rv { q with tag:=Au q.tag k T,last:=Au q.last f T }):=H3.later hb0
 have HRow:Hid ((W3.alloc (.cells #[.int .i64 (k:Int)] 3)).ownsRow B 3 1 rv q.q.length (ints (Am q.q))):=HA4.out.row
 have HNew:Hid (∀ j u,(ints [(k:Int)])[j]? = some u → (W3.alloc (.cells #[.int .i64 (k:Int)] 3)).cell? (Addr.add ⟨W3.heap.size,0,none⟩ j)=some u):=by
  intro j u hu
  cases j with
  | zero=>simp [ints] at hu;subst hu;simp [Addr.add]
  | succ j=>simp [ints] at hu
 have HBs:Hid (B ≤ (W3.alloc (.cells #[.int .i64 (k:Int)] 3)).heap.size):=by
  have:=(HA4.out.foot g (.inl rfl))
  show B ≤ _
  omega
 obtain ⟨i0,hi,hz0,hz1,hz2⟩:=info_parts Tryz.infoInt
 clear H3 hb0
 go_wp2_with (at_builtin;go_must (refine wpList_append_lies _ rfl _ _ 32 rfl B 3 i0 (.int .i64 0) 1 8 Tryz.underlying32 hi hz0 hz1 hz2 rfl (by decide) rv q.q.length (ints (Am q.q)) rfl HRow.out ⟨W3.heap.size,0,none⟩ 1 1 (ints [(k:Int)]) rfl rfl HNew.out (GZ _) (by decide) (by unfold maxLen;omega) (by omega) HBs.out _ rfl ?_;intro g5 cap5 w5 ho5 hg5 hat5 hlt5;have hbut:But (fun k=>rv.ownBlock=some k) (W3.alloc (.cells #[.int .i64 (k:Int)] 3)) w5:=⟨hg5.os,hg5.tape,hg5.output,hg5.size,fun k hk hn=>hg5.block k hk (fun e=>hn e.symm)⟩;have hc5:=HA4.out.cells.but hbut (fun e=>HA4.out.rapart.1 e);have c5:=hc5.c5;have f5:=hc5.free 5;have H5:Hid (w5.ownsRow B 3 1 (.slice (some ⟨g5,0,none⟩) (q.q.length+1) cap5) (q.q.length+1) (ints (Am q.q) ++ ints [(k:Int)]) ∧ But (fun k=>rv.ownBlock=some k) (W3.alloc (.cells #[.int .i64 (k:Int)] 3)) w5 ∧ (rv.ownBlock=some g5 ∨ g5=(W3.alloc (.cells #[.int .i64 (k:Int)] 3)).heap.size)):=⟨ho5,hbut,hat5⟩;clear ho5 hg5 hat5 hlt5 hbut hc5))
 go_end0
 have hnew5:∀ j,(Value.slice (some ⟨g5,0,none⟩) (q.q.length+1) cap5).ownBlock=some j → rv.ownBlock=some j ∨ (W3.alloc (.cells #[.int .i64 (k:Int)] 3)).heap.size ≤ j:=fun j hj=>by
  have e:g5=j:=Option.some.inj hj
  rcases H5.out.2.2 with h | h
  · exact .inl (by rw [← e];exact h)
  · exact .inr (by rw [← e,h];exact Nat.le_refl _)
 have hrow5:w5.ownsRow B 3 1 (.slice (some ⟨g5,0,none⟩) (q.q.length+1) cap5) (q.q ++ [k]).length (ints (Am (q.q ++ [k]))):=by
  rw [Fz,List.length_append]
  exact H5.out.1
 have hfin:=HA4.out.setR (r':=q.q ++ [k]) H5.out.2.1 hrow5 hnew5
 have hDf:=HA.out.2.1
 have hg_:D g:=(hDf g).2 (.inl rfl)
 have hgt_:D gt:=(hDf gt).2 (.inr (.inl rfl))
 have hgm_:D gm:=(hDf gm).2 (.inr (.inr (.inl rfl)))
 have e1:But D w V:=(But.ofBelow HA.out.2.2).trans (.ofBelow HV.out.2)
 have e2:But D V V2:=by rw [← HV2.out];exact (R5 V gt k _).mono fun j hj=>by rw [hj];exact hgt_
 have e3:But D V2 W3:=by
  have:=HV3.out.2
  rw [HV2.out] at this
  exact (But.ofBelow (below_drewN (Below.refl _ _) 1)).trans (this.mono fun j hj=>by rw [hj];exact hgm_)
 have e4:But D W3 (w5.setCell ⟨g,5,none⟩ (.slice (some ⟨g5,0,none⟩) (q.q.length+1) cap5)):=((But.ofBelow ((Below.refl _ _).alloc (Nat.le_refl _) _)).trans (H5.out.2.1.mono fun j hj=>(hDf j).2 (.inr (.inr (.inr hj))))).trans ((R5 _ _ _ _).mono fun j hj=>by rw [hj];exact hg_)
 have hall:=((e1.trans e2).trans e3).trans e4
 refine ⟨rfl,HH.out.leaves hDf hall (by rw [HN.out.2.1] at hfin;exact hfin) (fun j hj=>?_)⟩
 rcases hnew5 j hj with h | h
 · exact .inl h
 ·
  exact .inr (by
   have:=((e1.trans e2).trans e3).size
   simp at h
   omega)
end
end Go.Proofs.YtipdclphpkgceaaGreatDoor
