/- Own facts, put together: no statement of its own. -/
import Derived.Test.YtipdclphpkgceaaGreatDoorA11
import Derived.Test.YtipdclphpkgceaaGreatDoorA07
import Derived.Test.YtipdclphpkgceaaGreatDoorA05
import Derived.Test.YtipdclphpkgceaaGreatDoorA02
import Derived.Deep.RegionHeldLaw
import Derived.Deep.AppendLies
import Derived.Deep.LoopGhost
import Derived.Test.YtipdclphpkgceaaGreatDoorA10
import Derived.Test.YtipdclphpkgceaaGreatDoorA04
import Derived.Maps.OwnOps
import Derived.Maps.Views
import Derived.Maps.OwnSet
import Derived.Test.YtipdclphpkgceaaGreatDoorA01
import Derived.Test.YtipdclphpkgceaaGreatDoorA03
import Derived.Test.YtipdclphpkgceaaGreatDoorA08
import Derived.Deep.Cut
import Derived.Laws.StructEq
import Derived.BigQuiet
import Derived.Test.YtipdclphpkgceaaGreatDoorA06
import Derived.Test.YtipdclphpkgceaaGreatDoorA09
import Derived.Deep.DeepCutAuto
import Derived.Deep.RegionLaw
set_option maxHeartbeats 1000000
set_option maxRecDepth 100000

namespace Go.Proofs.YtipdclphpkgceaaGreatDoor
open Go.RowKit
theorem AO.at_lt {w:World} {a:Option Addr} {ps:List Pk} (h:AO w a ps):∀ ad,a=some ad → 0 < ps.length → ad.block < w.heap.size:=by
 intro ad e h0
 obtain ⟨b,off,rfl,hlt,-⟩:=h.place h0
 cases e
 exact hlt
theorem ZL (B g:Nat):Gc (Dt B g) B:=⟨fun _ _ _ h=>h.foot,fun _ _ _ _ _ h hb hs _=>h.but hb hs⟩
theorem SF (a:Option Addr) (cap:Nat) (ps:List Pk) (per:Int) (g:Nat) (w:World) (hl:AO w a ps) (ho:Aj ps) (h1:1 ≤ per) (h2:per ≤ 1000) (ha:∀ ad,a=some ad → 0 < ps.length → ad.block < g) (h0:Dt g g w (fun k=>k=g) []) :
  Calls Tryz.prog 169 #[.slice a ps.length cap,.int .i64 per,.iface 266 (Kh g)] w fun e w'=>∃ v,e=.returned v ∧ Ig w' w.heap.size v (BH per ps ps.length) ∧ Below g w w':=by
 have hlaw:=YH (per:=per) (by omega) ho
 have hgw:g ≤ w.heap.size:=Nat.le_of_lt (h0.foot g rfl).2
 refine (NU Hf (Dt g g) per ps [] g _ _ _ (ZL g g) hlaw ho h1 h2 ?_ ?_ ?_ a cap w hl hgw ha _ h0).mono ?_
 ·
  intro w D s p hr hp hh
  have hc:=hr.count hlaw
  have hn:=hr.next_le
  have:=ho.few
  exact Q6 g g D s.q s.next w hh (by have:Hf.rest s.q=s.q.length:=rfl;omega)
 ·
  intro w D s hr h0 hh
  have hc:=hr.count hlaw
  have hn:=hr.next_le
  have:=ho.few
  have hlen:s.q.length ≤ 1000:=by have:Hf.rest s.q=s.q.length:=rfl;omega
  have h0':0 < s.q.length:=h0
  obtain ⟨k,q,hq⟩:∃ k q,s.q=k :: q:=by
   cases h:s.q with
   | nil=>rw [h] at h0';simp at h0'
   | cons k q=>exact ⟨k,q,rfl⟩
  rw [hq] at hh hlen ⊢
  exact Qq g g D q k w hh (by simp at hlen;omega)
 ·
  intro w D s hr hh
  rw [JZ _ (fun _=>rfl)]
  exact PR g g D s.q w hh
 ·
  rintro e w' ⟨s,v,rfl,hr,hn,hrest,hown,hb⟩
  exact ⟨v,rfl,by rw [← Ya (by omega) ho hr hn hrest];exact hown,hb⟩
theorem UG (a:Option Addr) (cap:Nat) (ps:List Pk) (per:Int) (w:World) (hl:AO w a ps) (ho:Aj ps) (h1:1 ≤ per) (h2:per ≤ 1000) :
  Calls Tryz.prog 143 #[.slice a ps.length cap,.int .i64 per] w fun e w'=>∃ v,e=.returned (.tuple #[v,.nilIface]) ∧ Ig w' w.heap.size v (BH per ps ps.length) ∧ Below w.heap.size w w':=by
 have HL:Hid (AO w a ps ∧ Aj ps):=⟨hl,ho⟩
 have HC:Hid (Calls Tryz.prog 168 #[.slice a ps.length cap,.int .i64 per] w fun e w'=>e=.returned .nilIface ∧ Below w.heap.size w w'):=Cn a cap ps per w hl ho h1 h2
 clear hl ho
 go_enter Tryz.func143,Tryz.ntmps143
 go_wp2_with fail
 refine HC.out.mono ?_
 rintro e w1 ⟨rfl,hb⟩
 have HB1:Hid (Below w.heap.size w w1):=hb
 clear hb
 go_wp2_with fail
 refine (Sd w1).mono ?_
 rintro e w2 ⟨rfl,hh,hb⟩
 have HB2:Hid (Below w1.heap.size w1 w2):=hb
 have HH:Hid (Dt w1.heap.size w1.heap.size w2 (fun k=>k=w1.heap.size) []):=hh
 have HLP:Hid (AO w2 a ps):=(HL.out.1.below HB1.out).below hb
 have HAt:Hid (∀ ad,a=some ad → 0 < ps.length → ad.block < w1.heap.size):=(HL.out.1.below HB1.out).at_lt
 clear hb hh
 go_wp2_with fail
 refine (SF a cap ps per w1.heap.size w2 HLP.out HL.out.2 h1 h2 HAt.out HH.out).mono ?_
 rintro e w3 ⟨v,rfl,hown,hb⟩
 have HO:Hid (Ig w3 w.heap.size v (BH per ps ps.length) ∧ Below w.heap.size w w3):=⟨CR hown (Nat.le_trans HB1.out.size HB2.out.size),HB1.out.trans ((HB2.out.mono HB1.out.size).trans (hb.mono HB1.out.size))⟩
 clear hown hb
 go_wp2_with fail
 go_ret2
 exact ⟨v,rfl,HO.out⟩
theorem R3 {R:TypeId → Value → World → Prop} (a:Option Addr) (n cap:Nat) (per:Int) (w:World) (h:Calls Tryz.prog 168 #[.slice a n cap,.int .i64 per] w fun e w'=>∃ ty v,e=.returned (.iface ty v) ∧ R ty v w') :
  Calls Tryz.prog 143 #[.slice a n cap,.int .i64 per] w fun e w'=>∃ ty v,e=.returned (.tuple #[.slice none 0 0,.iface ty v]) ∧ R ty v w':=by
 have HC:Hid (Calls Tryz.prog 168 #[.slice a n cap,.int .i64 per] w fun e w'=>∃ ty v,e=.returned (.iface ty v) ∧ R ty v w'):=h
 clear h
 go_enter Tryz.func143,Tryz.ntmps143
 go_wp2_with fail
 refine HC.out.mono ?_
 rintro e w1 ⟨ty,v,rfl,hR⟩
 have HR:Hid (R ty v w1):=hR
 clear hR
 go_wp2_with fail
 go_ret2
 exact ⟨ty,v,rfl,HR.out⟩
def Dn (ps:List Pk) (per c p:Int):Prop:=
 (DY ps c p ∧ 0 < c) ∨ (Aj ps ∧ (per < 1 ∨ 1000 < per) ∧ c=2 ∧ p = -1) ∨ (Aj ps ∧ 1 ≤ per ∧ per ≤ 1000 ∧ c=0 ∧ p = -1)
theorem ER (a:Option Addr) (cap:Nat) (ps:List Pk) (per c p:Int) (w:World) (ad:Nat → Addr) (he:AP w ad) (hl:AO w a ps) (hcap:ps.length ≤ cap) (hm:cap ≤ maxLen) (h:Dn ps per c p) (hc:0 < c) :
  Calls Tryz.prog 168 #[.slice a ps.length cap,.int .i64 per] w fun e w'=>∃ ty v,e=.returned (.iface ty v) ∧ (AR w' (.iface ty v) c p ∧ Below w.heap.size w w'):=by
 rcases h with ⟨h,h0⟩ | ⟨ho,hp,rfl,rfl⟩ | ⟨ho,h1,h2,rfl,rfl⟩
 ·
  refine Ot (R:=fun ty v w'=>AR w' (.iface ty v) c p ∧ Below w.heap.size w w') a ps.length cap per w ((K7 a cap ps w ad he hl hcap hm c p h).mono ?_)
  rintro e w' ⟨E,rfl,hE,hb⟩
  obtain ⟨ty,v,rfl⟩:=hE.some_ (by omega)
  exact ⟨ty,v,rfl,hE,hb⟩
 ·
  refine (OV a cap ps per w ad he.bo hl ho hp).mono ?_
  rintro e w' ⟨rfl,hb⟩
  exact ⟨_,_,rfl,AY (he.below hb) 1 (by decide),hb⟩
 · omega
theorem Vh (a:Option Addr) (cap:Nat) (ps:List Pk) (per c p:Int) (w:World) (ad:Nat → Addr) (he:AP w ad) (hl:AO w a ps) (hcap:ps.length ≤ cap) (hm:cap ≤ maxLen) (h:Dn ps per c p) (hc:0 < c) :
  Calls Tryz.prog 143 #[.slice a ps.length cap,.int .i64 per] w fun e w'=>∃ ty v,e=.returned (.tuple #[.slice none 0 0,.iface ty v]) ∧ (AR w' (.iface ty v) c p ∧ Below w.heap.size w w'):=
 R3 (R:=fun ty v w'=>AR w' (.iface ty v) c p ∧ Below w.heap.size w w') a ps.length cap per w (ER a cap ps per c p w ad he hl hcap hm h hc)
theorem VO {ps:List Pk} {k:Nat} {p:Pk} (ho:Aj ps) (hp:ps[k]? = some p):∃ m:Nat,m < 8 ∧ p.flow=(m:Int) ∧ Ae ps k=m:=by
 obtain ⟨h1,h2,-⟩:=Bb (ho.each _ p hp).1
 exact ⟨p.flow.toNat,by omega,by omega,ES hp⟩
theorem VW {ns:List Int} (h:ns.length=8) {m:Nat} (hm:m < 8):∃ x,ns[m]? = some x ∧ ns.getD m 0=x:=by
 obtain ⟨x,hx,-⟩:=Ai ns m (by omega)
 exact ⟨x,hx,by simp [List.getD,hx]⟩
theorem ZU (ps:List Pk) (ns:List Int) (gp gr:Nat) (pa:Option Addr) (pcap:Nat) (na:Option Addr) (ncap:Nat) (w:World) (k:Nat) (hcp:w.cell? ⟨gp,0,none⟩=some (.slice pa ps.length pcap)) (hcr:w.cell? ⟨gr,0,none⟩=some (.slice na ns.length ncap)) (hp:AO w pa ps) (hn:AV w na ns) (ho:Aj ps) (h8:ns.length=8) (hk:k < ps.length) :
  Calls Tryz.prog 172 #[.int .i64 (k:Int),.pointer (some ⟨gr,0,none⟩),.pointer (some ⟨gp,0,none⟩)] w fun e w'=>e=.returned (.int .i64 (EB ps ns k)) ∧ ∃ m,w'=w.drewN m:=by
 obtain ⟨p,hpk,-⟩:=Ai ps k hk
 obtain ⟨m,hm,hf,hfo⟩:=VO ho hpk
 obtain ⟨x,hx,hxd⟩:=VW h8 hm
 obtain ⟨b,off,rfl,-,hc⟩:=hp.place (by omega)
 obtain ⟨b2,off2,rfl,-,hc2⟩:=hn.place (by omega)
 have c1:w.cell? ⟨b,off+k * 3,none⟩=some (.int .i64 (m:Int)):=by rw [← hf];exact (hc k p hpk).1
 have c2:=hc2 m x hx
 have hE:EB ps ns k=x:=by rw [EB,hfo];exact hxd
 have hfew:=ho.few
 obtain ⟨n,hnn⟩:∃ n,ps.length=n:=⟨_,rfl⟩
 rw [hnn] at hcp hk hfew
 rw [h8] at hcr
 rw [hE]
 clear hp hn hc hc2 hpk hx ho h8 hE hxd hnn hfo hf
 go_enter Tryz.func172,Tryz.ntmps172
 go_wp2_with fail
 go_quiet (fail)
 go_wp2
 go_ret
 exact ⟨rfl,_,rfl⟩
theorem aH (ps:List Pk) (ns:List Int) (gp gr:Nat) (pa:Option Addr) (pcap:Nat) (na:Option Addr) (ncap:Nat) (w:World) (k:Nat) (hcp:w.cell? ⟨gp,0,none⟩=some (.slice pa ps.length pcap)) (hcr:w.cell? ⟨gr,0,none⟩=some (.slice na ns.length ncap)) (hp:AO w pa ps) (hn:AV w na ns) (ho:Aj ps) (h8:E5 0 1099511627776 ns) (hk:k < ps.length) :
  Calls Tryz.prog 174 #[.int .i64 (k:Int),.pointer (some ⟨gp,0,none⟩),.pointer (some ⟨gr,0,none⟩)] w fun e w'=>e=.returned (.int .i64 (Ay ps k+EB ps ns k)) ∧ ∃ m,w'=w.drewN m:=by
 obtain ⟨p,hpk,-⟩:=Ai ps k hk
 obtain ⟨m,hm,hf,hfo⟩:=VO ho hpk
 obtain ⟨x,hx,hxd⟩:=VW h8.len hm
 obtain ⟨b,off,rfl,-,hc⟩:=hp.place (by omega)
 obtain ⟨b2,off2,rfl,-,hc2⟩:=hn.place (by have:=h8.len;omega)
 have c1:w.cell? ⟨b,off+k * 3,none⟩=some (.int .i64 (m:Int)):=by rw [← hf];exact (hc k p hpk).1
 obtain ⟨t,ht⟩:∃ t,p.tick=t:=⟨_,rfl⟩
 have c3:w.cell? ⟨b,off+k * 3+2,none⟩=some (.int .i64 t):=by rw [← ht];exact (hc k p hpk).2.2
 have c2:=hc2 m x hx
 obtain ⟨t0,t1⟩:=(show 0 ≤ t ∧ t ≤ 1099511627776 by rw [← ht];have:=Bb (ho.each _ p hpk).1;omega)
 obtain ⟨x0,x1⟩:=h8.each m x hx
 have hE:Ay ps k+EB ps ns k=t+x:=by rw [EB,hfo,hxd,AJ hpk,ht]
 have hfew:=ho.few
 have hlen:=h8.len
 obtain ⟨n,hnn⟩:∃ n,ps.length=n:=⟨_,rfl⟩
 rw [hnn] at hcp hk hfew
 rw [hlen] at hcr
 rw [hE]
 have hw:IntKind.i64.wrap (t+x)=t+x:=IntWalk.i64_in _ (by omega)
 clear hp hn hc hc2 hpk hx ho h8 hE hxd hnn hfo hf hlen ht
 go_enter Tryz.func174,Tryz.ntmps174
 go_wp2_with fail
 go_quiet (fail)
 go_wp2
 go_ret
 exact ⟨rfl,_,rfl⟩
theorem Qg {w:World} {B:Nat} {v:Value} {zs:List Int} (h:w.ownsRow B 3 1 v zs.length (ints zs)):∃ a cap,v=.slice a zs.length cap ∧ zs.length ≤ cap ∧ cap ≤ maxLen ∧ AV w a zs ∧ (a=none → zs=[] ∧ cap=0):=by
 have hh:=h
 obtain ⟨h1,⟨rfl,h0⟩ | ⟨g,cap,cur,rfl,hB,hg,hn,hm,hc,ht⟩⟩:=h
 ·
  have e:zs=[]:=List.length_eq_zero_iff.1 h0
  exact ⟨none,0,by rw [h0],by omega,by simp [maxLen],.inl e,fun _=>⟨e,rfl⟩⟩
 ·
  refine ⟨_,cap,rfl,hn,hm,.inr ⟨g,0,rfl,lt_of_block hg,fun i x hx=>?_⟩,fun e=>by cases e⟩
  rw [Nat.zero_add,hh.cellAt i (by have:=(List.getElem?_eq_some_iff.1 hx).1;omega)]
  exact G9 hx
structure QN (w:World) (g n next:Nat):Prop where
 cell:∀ i,i < n → w.cell? ⟨g,i,none⟩=some (.bool (decide (i < next)))
 frozen:∀ i,w.frozen? ⟨g,i,none⟩=false
 lt:g < w.heap.size
structure Qp (w:World) (g:Nat) (cr:Nat → Int):Prop where
 cell:∀ f,f < 8 → w.cell? ⟨g,f,none⟩=some (.int .i64 (cr f))
 frozen:∀ i,w.frozen? ⟨g,i,none⟩=false
 lt:g < w.heap.size
theorem QN.of_block {w w':World} {g n k:Nat} (h:QN w g n k) (hb:w'.heap[g]? = w.heap[g]?) (hs:w.heap.size ≤ w'.heap.size):QN w' g n k:=
 ⟨fun i hi=>(World.cell?_of_block (a:=⟨g,i,none⟩) hb).trans (h.cell i hi),fun i=>(World.frozen?_of_block (a:=⟨g,i,none⟩) hb).trans (h.frozen i),Nat.lt_of_lt_of_le h.lt hs⟩
theorem Qp.of_block {w w':World} {g:Nat} {cr:Nat → Int} (h:Qp w g cr) (hb:w'.heap[g]? = w.heap[g]?) (hs:w.heap.size ≤ w'.heap.size):Qp w' g cr:=
 ⟨fun i hi=>(World.cell?_of_block (a:=⟨g,i,none⟩) hb).trans (h.cell i hi),fun i=>(World.frozen?_of_block (a:=⟨g,i,none⟩) hb).trans (h.frozen i),Nat.lt_of_lt_of_le h.lt hs⟩
structure O4 (w wr:World) (gd gc gk n:Nat) (v:Value) (out:List Sn) (next:Nat) (cr:Nat → Int) (rv:Value) (F:Nat → Prop) (row:List Nat):Prop where
 own:Ig wr w.heap.size v out
 done:QB wr gd n out
 came:QN wr gc n next
 cred:Qp wr gk cr
 row:Bc wr w.heap.size rv F row
 ne:gd ≠ gc ∧ gd ≠ gk ∧ gc ≠ gk
 vne:v.ownBlock ≠ some gd ∧ v.ownBlock ≠ some gc ∧ v.ownBlock ≠ some gk
 fne:¬ F gd ∧ ¬ F gc ∧ ¬ F gk ∧ ∀ k,F k → v.ownBlock ≠ some k
 new:w.heap.size ≤ gd ∧ w.heap.size ≤ gc ∧ w.heap.size ≤ gk
 below:Below w.heap.size w wr
section
variable {w wr wr':World} {gd gc gk n:Nat} {v:Value} {out:List Sn} {next:Nat} {cr:Nat → Int} {rv:Value} {F:Nat → Prop} {row:List Nat}
theorem O4.later (h:O4 w wr gd gc gk n v out next cr rv F row) (hb:Below wr.heap.size wr wr'):O4 w wr' gd gc gk n v out next cr rv F row:=
 ⟨Av h.own (fun g _ hg=>hb.block g hg),h.done.of_block (hb.block gd h.done.lt) hb.size,h.came.of_block (hb.block gc h.came.lt) hb.size,h.cred.of_block (hb.block gk h.cred.lt) hb.size,h.row.but (S:=fun _=>False) (.ofBelow hb) (fun _ _ h=>h),h.ne,h.vne,h.fne,h.new,h.below.trans (hb.mono h.below.size)⟩
theorem O4.alloc (h:O4 w wr gd gc gk n v out next cr rv F row) (o:Obj):O4 w (wr.alloc o) gd gc gk n v out next cr rv F row:=h.later ((Below.refl _ _).alloc (Nat.le_refl _) _)
end
end Go.Proofs.YtipdclphpkgceaaGreatDoor

namespace Go.Proofs.YtipdclphpkgceaaGreatDoor
open Go.Maps (Keyed)
open Go.WideElems (Fit)
def JN:Lit → Bool
 | .int .i64 x=>!(decide (0 ≤ x) && decide (x < 8))
 | _=>true
def TI:Lit → Nat
 | .int _ x=>x.toNat
 | _=>0
theorem XO {y:Lit} (h:JN y=false):∃ x:Nat,x < 8 ∧ y=.int .i64 (x:Int):=by
 cases y with
 | int q x=>
  cases q <;> simp only [JN] at h <;> try cases h
  have h1:0 ≤ x ∧ x < 8:=by simpa using h
  exact ⟨x.toNat,by omega,by rw [Int.toNat_of_nonneg h1.1]⟩
 | _=>cases h
theorem U3 {x:Nat} (h:x < 8):JN (.int .i64 (x:Int))=false:=by simp [JN];omega
theorem KT:∀ (n:Nat) (l:List Nat),l.Nodup → (∀ x,x ∈ l → x < n) → l.length ≤ n
 | 0,[],_,_=>Nat.le_refl _
 | 0,a :: l,_,h=>absurd (h a (List.mem_cons_self ..)) (Nat.not_lt_zero _)
 | n+1,l,hn,h=>by
  by_cases hm:n ∈ l
  ·
   have:=KT n (l.erase n) (hn.erase n) (fun x hx=>by
    have h1:=hn.mem_erase_iff.1 hx
    have:=h x h1.2
    omega)
   rw [List.length_erase_of_mem hm] at this
   omega
  ·
   have:=KT n l hn (fun x hx=>by
    have h1:=h x hx
    have:x ≠ n:=fun e=>hm (by rw [← e];exact hx)
    omega)
   omega
theorem Ym {H:Type} {es:List (Lit × DataW H)} (h1:es.Pairwise fun p q=>p.1 ≠ q.1) (h2:es.any (fun p=>JN p.1)=false):es.length ≤ 8:=by
 have h3:∀ p,p ∈ es → ∃ x:Nat,x < 8 ∧ p.1=.int .i64 (x:Int):=fun p hp=>XO (by simpa using List.any_eq_false.1 h2 p hp)
 have hn:(es.map fun p=>TI p.1).Nodup:=by
  refine List.pairwise_map.2 (List.pairwise_iff_getElem.2 fun i j hi hj hij e=>List.pairwise_iff_getElem.1 h1 i j hi hj hij ?_)
  obtain ⟨x,-,hx⟩:=h3 _ (List.getElem_mem hi)
  obtain ⟨y,-,hy⟩:=h3 _ (List.getElem_mem hj)
  rw [hx,hy] at e ⊢
  have:x=y:=by simpa [TI] using e
  rw [this]
 have:=KT 8 _ hn (fun a ha=>by
  obtain ⟨p,hp,rfl⟩:=List.mem_map.1 ha
  obtain ⟨x,hx,e⟩:=h3 p hp
  rw [e]
  simpa [TI] using hx)
 simpa using this
def Fq (P:Program) (k e:TypeId) (w:World) (b:Nat) (f:Nat → Int):Prop:=
 ∃ es:List (Lit × DataW Unit),w.ownsMap P k (plainElem P e) b 8 (.map es) ∧ es.any (fun p=>JN p.1)=false ∧ ∀ x:Nat,(DataW.map es).atKey (.int .i64 (x:Int)) (.lit (.int .i64 0))=.lit (.int .i64 (f x))
section
variable {P:Program} {k e t:TypeId} {w w':World} {b:Nat} {f:Nat → Int}
theorem TR (w:World) (P:Program) (k e:TypeId):Fq P k e (w.alloc (.map #[] 0)) w.heap.size fun _=>0:=
 ⟨[],(World.ownsMap_made w P k _).mono (Nat.zero_le _),rfl,fun _=>rfl⟩
theorem Fq.lt (h:Fq P k e w b f):b < w.heap.size:=by
 obtain ⟨D,h1,-,-⟩:=h
 exact h1.lt
theorem Fq.but {S:Nat → Prop} (h:Fq P k e w b f) (hb:But S w w') (hs:¬ S b):Fq P k e w' b f:=by
 have hlt:=h.lt
 obtain ⟨D,⟨es,clock,g1,g2,g3,g4⟩,h2,h3⟩:=h
 exact ⟨D,⟨es,clock,(hb.block b hlt hs).trans g1,g2,g3,g4⟩,h2,h3⟩
theorem Fq.look (h:Fq P k e w b f) (K:Keyed P k) (ht:P.underlying t=some (.map k e)) (he:P.underlying e=some (.int .i64)) (hz:(zeroValue e).run P w=.ok (.int .i64 0) w) {x:Nat} (hkey:keyOf P k (.int .i64 (x:Int))=some (.int .i64 (x:Int))) :
  (Instr.lookup t (.map (some b)) (.int .i64 (x:Int)) false).run P w=.ok (.int .i64 (f x)) w:=by
 obtain ⟨es,h1,h2,h3⟩:=h
 obtain ⟨c,hrun,hat,-⟩:=h1.lookup_int K ht he hz hkey
 rw [h3 x] at hat
 injection hat with hat
 injection hat with _ hat
 rw [hrun,hat]
theorem Fq.store (h:Fq P k e w b f) (K:Keyed P k) (ht:P.underlying t=some (.map k e)) (he:P.underlying e=some (.int .i64)) {x:Nat} (hx8:x < 8) (hkey:keyOf P k (.int .i64 (x:Int))=some (.int .i64 (x:Int))) {v:Int} (hv:(Lit.int .i64 v).wf=true) :
  ∃ w',(Instr.mapUpdate t (.map (some b)) (.int .i64 (x:Int)) (.int .i64 v)).run P w=.ok () w' ∧ Fq P k e w' b (Au f x v) ∧ w.grownBy w' (some b):=by
 obtain ⟨es,h1,h2,h3⟩:=h
 obtain ⟨w',hrun,g1,g2⟩:=h1.update K ht (by decide) hkey (plainElem_int he hv)
 have e1:(DataW.map es).put (.int .i64 (x:Int)) (.lit (.int .i64 v))=.map (DataW.insert (.int .i64 (x:Int),.lit (.int .i64 v)) (es.filter fun p=>!p.1.sameKey (.int .i64 (x:Int)))):=rfl
 have hk:(DataW.insert (.int .i64 (x:Int),.lit (.int .i64 v)) (es.filter fun p=>!p.1.sameKey (.int .i64 (x:Int)))).any (fun p=>JN p.1)=false:=by
  rw [Maps.any_insert,U3 hx8,Bool.false_or]
  exact List.any_eq_false.2 fun p hp=>List.any_eq_false.1 h2 p (List.mem_filter.1 hp).1
 have ht2:=g1.tidy K
 rw [e1] at g1 ht2
 refine ⟨w',hrun,⟨_,?_,hk,fun y=>?_⟩,g2⟩
 ·
  obtain ⟨es',he',hp⟩:=ht2
  injection he' with he'
  rw [← he'] at hp
  have hl:=Ym hp hk
  obtain ⟨ms,clock,k1,k2,k3,k4⟩:=g1
  refine ⟨ms,clock,k1,k2,?_,k4⟩
  injection k4 with k4
  rw [k4,length_sorted] at hl
  simpa using hl
 ·
  rw [← e1]
  by_cases hy:y=x
  ·
   subst hy
   rw [Aq]
   exact Maps.atKey_put_same (k:=.int .i64 (y:Int)) ⟨es,rfl⟩ trivial _ _
  ·
   rw [Al _ _ hy,Maps.atKey_put_other (fun e=>hy (by injection e with _ e;omega))]
   exact h3 y
theorem Fq.cleared (h:Fq P k e w b f) (ht:P.underlying t=some (.map k e)) (ty:TypeId) :
  ∃ w',(Builtin.clear_ #[t] ty #[.map (some b)]).run P w=.ok (.tuple #[]) w' ∧ Fq P k e w' b (fun _=>0) ∧ w.grownBy w' (some b):=by
 obtain ⟨D,⟨es,clock,g1,g2,g3,g4⟩,h2,h3⟩:=h
 refine ⟨ChangeMaps.setBlock w b (.map #[] clock),?_,⟨[],⟨#[],clock,ChangeMaps.heap_setBlock_same g1 _,⟨by simp,MapKept.stamped_empty _,by simp⟩,Nat.zero_le _,rfl⟩,rfl,fun _=>rfl⟩,⟨rfl,rfl,rfl,by simp [ChangeMaps.setBlock],fun i _ hi=>ChangeMaps.heap_setBlock_other g1 _ (fun e=>hi (by rw [e]))⟩⟩
 simp [Builtin.clear_,run_underlying ht,MapKept.run_getObj_map g1,MapKept.run_setObj_map _ g1,Result.andThen,ChangeMaps.setBlock]
end
end Go.Proofs.YtipdclphpkgceaaGreatDoor

namespace Go.Proofs.YtipdclphpkgceaaGreatDoor
structure Rb where
 burst:Int
 rate:Int
 has:Int
 tick:Int
 last:Int
end Go.Proofs.YtipdclphpkgceaaGreatDoor

namespace Go.Proofs.YtipdclphpkgceaaGreatDoor
open Go.RowKit
structure Qh (w:World) (g:Nat) (m:Rb):Prop where
 c0:w.cell? ⟨g,0,none⟩=some (.int .i64 m.burst)
 c1:w.cell? ⟨g,1,none⟩=some (.int .i64 m.rate)
 c2:w.cell? ⟨g,2,none⟩=some (.int .i64 m.has)
 c3:w.cell? ⟨g,3,none⟩=some (.int .i64 m.tick)
 c4:w.cell? ⟨g,4,none⟩=some (.int .i64 m.last)
 f2:w.frozen? ⟨g,2,none⟩=false
 f3:w.frozen? ⟨g,3,none⟩=false
 f4:w.frozen? ⟨g,4,none⟩=false
theorem Qh.lt {w:World} {g:Nat} {m:Rb} (h:Qh w g m):g < w.heap.size:=Ck h.c0
theorem Qh.but {S:Nat → Prop} {w w':World} {g:Nat} {m:Rb} (h:Qh w g m) (hb:But S w w') (hs:¬ S g):Qh w' g m:=
 have l:=h.lt
 ⟨by rw [hb.cell (p:=⟨g,0,none⟩) l hs];exact h.c0,by rw [hb.cell (p:=⟨g,1,none⟩) l hs];exact h.c1,by rw [hb.cell (p:=⟨g,2,none⟩) l hs];exact h.c2,by rw [hb.cell (p:=⟨g,3,none⟩) l hs];exact h.c3,by rw [hb.cell (p:=⟨g,4,none⟩) l hs];exact h.c4,
  by rw [hb.frozen (p:=⟨g,2,none⟩) l hs];exact h.f2,by rw [hb.frozen (p:=⟨g,3,none⟩) l hs];exact h.f3,by rw [hb.frozen (p:=⟨g,4,none⟩) l hs];exact h.f4⟩
theorem Qh.below {w w':World} {g:Nat} {m:Rb} (h:Qh w g m) (hb:Below w.heap.size w w'):Qh w' g m:=h.but (S:=fun _=>False) (.ofBelow hb) id
theorem Eo {S:Nat → Prop} {w w':World} {base:Nat} {e:TypeId} {size:Nat} {v:Value} {n:Nat} {xs:List Value} (h:w.ownsRow base e size v n xs) (hb:But S w w') (hs:∀ k,v.ownBlock=some k → ¬ S k):w'.ownsRow base e size v n xs:=by
 have hlt:=World.ownsRow.lt h
 obtain ⟨h1,h2 | ⟨g,cap,cur,rfl,hB,hg,r⟩⟩:=h
 · exact ⟨h1,.inl h2⟩
 · exact ⟨h1,.inr ⟨g,cap,cur,rfl,hB,by rw [hb.block g (hlt g rfl).2 (hs g rfl)];exact hg,r⟩⟩
def ptrs (hs:List Nat):List Value:=hs.map fun h=>.pointer (some ⟨h,0,none⟩)
structure Xg (w wr:World) (v:Value) (hs:List Nat) (ms:List Rb):Prop where
 len:hs.length=ms.length
 own:wr.ownsRow w.heap.size 130 1 v hs.length (ptrs hs)
 rb:∀ (i:Nat) h m,hs[i]? = some h → ms[i]? = some m → Qh wr h m
 new:∀ h,h ∈ hs → w.heap.size ≤ h ∧ v.ownBlock ≠ some h
 one:∀ (i j:Nat) h,hs[i]? = some h → hs[j]? = some h → i=j
theorem Xg.but {S:Nat → Prop} {w wr w':World} {v:Value} {hs:List Nat} {ms:List Rb} (h:Xg w wr v hs ms) (hb:But S wr w') (hv:∀ k,v.ownBlock=some k → ¬ S k) (hh:∀ q,q ∈ hs → ¬ S q):Xg w w' v hs ms:=
 ⟨h.len,Eo h.own hb hv,fun i q m hi hm=>(h.rb i q m hi hm).but hb (hh q (List.mem_of_getElem? hi)),h.new,h.one⟩
theorem Xg.below {w wr w':World} {v:Value} {hs:List Nat} {ms:List Rb} (h:Xg w wr v hs ms) (hb:Below wr.heap.size wr w'):Xg w w' v hs ms:=
 h.but (S:=fun _=>False) (.ofBelow hb) (fun _ _=>id) (fun _ _=>id)
structure Ps (w:World) (C:Nat) (x y z:Int):Prop where
 c0:w.cell? ⟨C,0,none⟩=some (.int .i64 x)
 c1:w.cell? ⟨C,1,none⟩=some (.int .i64 y)
 c2:w.cell? ⟨C,2,none⟩=some (.int .i64 z)
 f2:w.frozen? ⟨C,2,none⟩=false
theorem Ps.but {S:Nat → Prop} {w w':World} {C:Nat} {x y z:Int} (h:Ps w C x y z) (hb:But S w w') (hs:¬ S C):Ps w' C x y z:=
 have l:=Ck h.c0
 ⟨by rw [hb.cell (p:=⟨C,0,none⟩) l hs];exact h.c0,by rw [hb.cell (p:=⟨C,1,none⟩) l hs];exact h.c1,by rw [hb.cell (p:=⟨C,2,none⟩) l hs];exact h.c2,by rw [hb.frozen (p:=⟨C,2,none⟩) l hs];exact h.f2⟩
theorem Ps.below {w w':World} {C:Nat} {x y z:Int} (h:Ps w C x y z) (hb:Below w.heap.size w w'):Ps w' C x y z:=h.but (S:=fun _=>False) (.ofBelow hb) id
theorem Sw (a:Option Addr) (cap:Nat) (ls:List (Int × Int)) (w:World) (ad:Nat → Addr) (he:AP w ad) (hl:AL w a ls) (hcap:ls.length ≤ cap) (hm:cap ≤ maxLen) (c p:Int) (h:CW ls c p) :
  Calls Tryz.prog 89 #[.slice a ls.length cap] w fun e w'=>∃ E,e=.returned E ∧ AR w' E c p ∧ Below w.heap.size w w':=by
 rcases h with ⟨h,rfl,rfl⟩ | ⟨h1,h6,j,hj,h2,h3,rfl,rfl⟩ | ⟨h,rfl,rfl⟩
 ·
  refine (Lr a ls.length cap w _ he.c2 (Nat.le_trans hcap hm) h).mono ?_
  rintro e w' ⟨rfl,rfl⟩
  exact ⟨_,rfl,AY he 2 (by decide),Below.refl _ _⟩
 ·
  refine (Pz a cap ls w (ad 1) he.c1 hl h1 h6 j hj h2 h3).mono ?_
  rintro e w' ⟨hb,B,rfl,hB1,hB2,hc0,hc1⟩
  exact ⟨_,rfl,⟨FN (he.below hb) 1 (by decide) j B hc0 hc1,fun h=>by omega,fun _=>⟨_,_,rfl⟩⟩,hb⟩
 ·
  refine (EE a cap ls w hl h).mono ?_
  rintro e w' ⟨rfl,hb⟩
  exact ⟨_,rfl,CG _,hb⟩
theorem Yw (a:Option Addr) (cap:Nat) (ls:List (Int × Int)) (t:Int) (w:World) (ad:Nat → Addr) (he:AP w ad) (hl:AL w a ls) (hcap:ls.length ≤ cap) (hm:cap ≤ maxLen) (c p:Int) (h:CW ls c p) (hc:c ≠ 0) :
  Calls Tryz.prog 106 #[.slice a ls.length cap,.int .i64 t] w fun e w'=>∃ ty v,e=.returned (.tuple #[.int .i64 0,.iface ty v]) ∧ AR w' (.iface ty v) c p ∧ Below w.heap.size w w':=by
 refine au (R:=fun ty v w'=>AR w' (.iface ty v) c p ∧ Below w.heap.size w w') a ls.length cap t w ((Sw a cap ls w ad he hl hcap hm c p h).mono ?_)
 rintro e w' ⟨E,rfl,hE,hb⟩
 obtain ⟨ty,v,rfl⟩:=hE.some_ hc
 exact ⟨ty,v,rfl,hE,hb⟩
theorem AP.four {w:World} {ad:Nat → Addr} (h:AP w ad):Gt w ad:=⟨h.c1,h.c2,h.c3,h.c4⟩
structure Ac where
 kind:ByteArray
 tick:Int
 size:Int
def Yr (w:World) (a:Option Addr) (q:List Ac):Prop:=
 q=[] ∨ ∃ b off,a=some ⟨b,off,none⟩ ∧ b < w.heap.size ∧ ∀ (i:Nat) p,q[i]? = some p → w.cell? ⟨b,off+i * 3,none⟩=some (.string p.kind) ∧ w.cell? ⟨b,off+i * 3+1,none⟩=some (.int .i64 p.tick) ∧ w.cell? ⟨b,off+i * 3+2,none⟩=some (.int .i64 p.size)
theorem Yr.below {w w':World} {a:Option Addr} {q:List Ac} (h:Yr w a q) (hb:Below w.heap.size w w'):Yr w' a q:=by
 rcases h with rfl | ⟨b,off,rfl,hlt,hc⟩
 · exact .inl rfl
 ·
  refine .inr ⟨b,off,rfl,Nat.lt_of_lt_of_le hlt hb.size,fun i p hi=>?_⟩
  have:=hc i p hi
  exact ⟨cell_later hb this.1,cell_later hb this.2.1,cell_later hb this.2.2⟩
theorem WE {ls:List (Int × Int)} {ps:List Pk} {j j':Nat} {q q':Pk} {s s':Sh} (h1:ps[j]? = some q) (h2:shape ls (ps.take j)=some s) (h3:Cz s q=none) (h1':ps[j']? = some q') (h2':shape ls (ps.take j')=some s') (h3':Cz s' q'=none):j=j':=by
 have key:∀ (a b:Nat) (p:Pk) (u v:Sh),a < b → ps[a]? = some p → shape ls (ps.take a)=some u → Cz u p=none → shape ls (ps.take b)=some v → False:=fun a b p u v hab e1 e2 e3 e4=>by
  have:=Lh (ls:=ls) (ps:=ps.take b) (j:=a) (p:=p) (s:=u) (by rw [List.getElem?_take_of_lt hab];exact e1) (by rw [List.take_take,Nat.min_eq_left (by omega)];exact e2) e3
  rw [this] at e4;cases e4
 rcases Nat.lt_trichotomy j j' with h | h | h
 · exact (key j j' q s s' h h1 h2 h3 h2').elim
 · exact h
 · exact (key j' j q' s' s h h1' h2' h3' h2).elim
end Go.Proofs.YtipdclphpkgceaaGreatDoor

namespace Go.Proofs.YtipdclphpkgceaaGreatDoor
section
variable {cs:Nat → List (Int × Int)} {ps:List Pk}
theorem Be.one (ho:Aj ps) {i j:Nat} (h:Be cs ps i) (k:Be cs ps j) (hf:Ae ps i=Ae ps j):i=j:=by
 obtain ⟨p,s,h1,h2,h3,h4⟩:=h
 obtain ⟨q,t,k1,k2,k3,k4⟩:=k
 have hi:=Ad h1
 have hj:=Ad k1
 have ai:=Nr ho hi (Nat.le_refl _)
 have aj:=Nr ho hj (Nat.le_refl _)
 rw [← hf] at k2 k3 aj
 have hown:=DJ ho (Ae ps i) ps.length (Nat.le_refl _)
 have gi:=(hown.2 _ _ ai).2.2.2
 have gj:=(hown.2 _ _ aj).2.2.2
 have e:=WE (gi.trans h1) h3 h4 (gj.trans k1) k3 k4
 rw [e,aj] at ai
 exact (Option.some.inj ai).symm
theorem Xu (ho:Aj ps) {f:Nat} (hc:cs f ≠ []) {r i:Nat} {p:Pk} {s:Sh} (hr:(A7 ps f ps.length)[r]? = some i) (h1:(Cj ps f ps.length)[r]? = some p) (h2:shape (cs f) ((Cj ps f ps.length).take r)=some s) (h3:Cz s p=none):Be cs ps i ∧ Ae ps i=f:=by
 obtain ⟨g1,g2,g3,g4⟩:=(DJ ho f ps.length (Nat.le_refl _)).2 r i hr
 exact ⟨⟨p,s,g4.symm.trans h1,by rw [g2];exact hc,by rw [g2,g3];exact h2,h3⟩,g2⟩
theorem K5 (ho:Aj ps) {f:Nat} {out:List Pk} (hs:CY cs ps f=some out) {j:Nat} (hj:Ae ps j=f):¬ Be cs ps j:=by
 rintro ⟨p,s,h1,h2,h3,h4⟩
 rw [hj] at h2 h3
 unfold CY at hs
 rw [if_neg h2] at hs
 have hjl:=Ad h1
 have aj:=Nr ho hjl (Nat.le_refl _)
 rw [hj] at aj
 have gj:=((DJ ho f ps.length (Nat.le_refl _)).2 _ _ aj).2.2.2
 rw [Lh (gj.trans h1) h3 h4] at hs
 cases hs
def BA (cs:Nat → List (Int × Int)) (ps:List Pk) (f:Nat) (z:Int) (a:Nat → Int):Prop:=
 (z = -1 ∧ ∀ g,g < f → ∃ out,CY cs ps g=some out ∧ ∀ (r i:Nat),(A7 ps g ps.length)[r]? = some i → a i=Ay out r) ∨
  (∃ i:Nat,z=i ∧ Be cs ps i ∧ Ae ps i < f ∧ ∀ j,Be cs ps j → Ae ps j < f → i ≤ j)
theorem MZ (a:Nat → Int):BA cs ps 0 (-1) a:=.inl ⟨rfl,fun _ h=>absurd h (Nat.not_lt_zero _)⟩
theorem BA.range {f:Nat} {z:Int} {a:Nat → Int} (h:BA cs ps f z a):z = -1 ∨ ∃ i:Nat,z=i ∧ i < ps.length:=by
 rcases h with ⟨h,-⟩ | ⟨i,h,⟨p,s,h1,-⟩,-⟩
 · exact .inl h
 · exact .inr ⟨i,h,Ad h1⟩
theorem BA.shaped (ho:Aj ps) {f:Nat} {z:Int} {a a':Nat → Int} {out:List Pk} (h:BA cs ps f z a) (hs:CY cs ps f=some out) (h1:∀ (r i:Nat),(A7 ps f ps.length)[r]? = some i → a' i=Ay out r) (h2:∀ i,i ∉ A7 ps f ps.length → a' i=a i):BA cs ps (f+1) z a':=by
 rcases h with ⟨rfl,h⟩ | ⟨i,rfl,hi,hf,hall⟩
 ·
  refine .inl ⟨rfl,fun g hg=>?_⟩
  rcases Nat.lt_or_ge g f with h' | h'
  ·
   obtain ⟨o,e1,e2⟩:=h g h'
   refine ⟨o,e1,fun r i hr=>?_⟩
   rw [h2 i ?_]
   · exact e2 r i hr
   ·
    intro hm
    have m1:=Jm.1 (List.mem_of_getElem? hr)
    have m2:=Jm.1 hm
    omega
  ·
   obtain rfl:g=f:=by omega
   exact ⟨out,hs,h1⟩
 ·
  refine .inr ⟨i,rfl,hi,by omega,fun j hj hjf=>?_⟩
  rcases Nat.lt_or_ge (Ae ps j) f with h' | h'
  · exact hall j hj h'
  · exact absurd hj (K5 ho hs (by omega))
theorem BA.stuck (ho:Aj ps) {f:Nat} {z:Int} {a a':Nat → Int} {n:Nat} (h:BA cs ps f z a) (hn:Be cs ps n) (hf:Ae ps n=f):BA cs ps (f+1) (if z < 0 ∨ (n:Int) < z then (n:Int) else z) a':=by
 have self:∀ j,Be cs ps j → Ae ps j < f+1 → Ae ps j < f ∨ j=n:=fun j hj hjf=>by
  rcases Nat.lt_or_ge (Ae ps j) f with h' | h'
  · exact .inl h'
  · exact .inr (hj.one ho hn (by omega))
 rcases h with ⟨rfl,h⟩ | ⟨i,rfl,hi,hif,hall⟩
 ·
  rw [if_pos (.inl (by omega))]
  refine .inr ⟨n,rfl,hn,by omega,fun j hj hjf=>?_⟩
  rcases self j hj hjf with h' | h'
  ·
   obtain ⟨out,e1,-⟩:=h _ h'
   exact absurd hj (K5 ho e1 rfl)
  · omega
 ·
  by_cases hlt:n < i
  ·
   rw [if_pos (.inr (by omega))]
   refine .inr ⟨n,rfl,hn,by omega,fun j hj hjf=>?_⟩
   rcases self j hj hjf with h' | h'
   ·
    have:=hall j hj h'
    omega
   · omega
  ·
   rw [if_neg (by omega)]
   refine .inr ⟨i,rfl,hi,by omega,fun j hj hjf=>?_⟩
   rcases self j hj hjf with h' | h'
   · exact hall j hj h'
   · omega
end
end Go.Proofs.YtipdclphpkgceaaGreatDoor

namespace Go.Proofs.YtipdclphpkgceaaGreatDoor
open Go.RowKit
def Fx (S:List (Int × Int) → List (Int × Int) → Int → List (Int × Int) → Prop) (cs:List (List (Int × Int))):Nat → List (Int × Int) → Prop
 | 0,_=>False
 | 1,L=>L=Af cs 0
 | k+2,L=>∃ M,Fx S cs (k+1) M ∧ Af cs (k+1) ≠ [] ∧ S M (Af cs (k+1)) 0 L
theorem MF {S:List (Int × Int) → List (Int × Int) → Int → List (Int × Int) → Prop} {cs:List (List (Int × Int))} {k:Nat} {M L:List (Int × Int)} (h:Fx S cs k M) (h1:Af cs k ≠ []) (h2:S M (Af cs k) 0 L):Fx S cs (k+1) L:=by
 cases k with
 | zero=>exact h.elim
 | succ k=>exact ⟨M,h,h1,h2⟩
def EA (S:List (Int × Int) → List (Int × Int) → Int → List (Int × Int) → Prop) (cs:List (List (Int × Int))) (L:List (Int × Int)):Prop:=Af cs 0 ≠ [] ∧ ∃ k,1 ≤ k ∧ k ≤ 8 ∧ Fx S cs k L ∧ (k=8 ∨ Af cs k=[])
def GN (S:List (Int × Int) → List (Int × Int) → Int → List (Int × Int) → Prop) (cs:List (List (Int × Int))):Prop:=Af cs 0=[] ∨ (Af cs 0 ≠ [] ∧ ∃ k M code L,1 ≤ k ∧ k < 8 ∧ Fx S cs k M ∧ Af cs k ≠ [] ∧ S M (Af cs k) code L ∧ code ≠ 0)
structure Jc (S:List (Int × Int) → List (Int × Int) → Int → List (Int × Int) → Prop):Prop where
 ok:∀ la lb L,Ag la → Ag lb → S la lb 0 L → Ag L
 num:∀ la lb c L,S la lb c L → 0 ≤ c ∧ c ≤ 9
 one:∀ la lb c L c' L',Ag la → Ag lb → S la lb c L → S la lb c' L' → c=c' ∧ L=L'
theorem GY {S:List (Int × Int) → List (Int × Int) → Int → List (Int × Int) → Prop} (hS:Jc S) {cs:List (List (Int × Int))} (hc:Cv (Af cs)) (h0:Af cs 0 ≠ []):∀ k L,k ≤ 8 → Fx S cs k L → Ag L
 | 0,L,_,h=>h.elim
 | 1,L,_,h=>by
  have h:L=Af cs 0:=h
  rcases hc 0 (by decide) with e | e
  · exact absurd e h0
  · rw [h];exact e
 | k+2,L,hk,⟨M,h1,h2,h3⟩=>by
  rcases hc (k+1) (by omega) with e | e
  · exact absurd e h2
  · exact hS.ok M _ L (GY hS hc h0 (k+1) M (by omega) h1) e h3
theorem KM {S:List (Int × Int) → List (Int × Int) → Int → List (Int × Int) → Prop} (hS:Jc S) {cs:List (List (Int × Int))} (hc:Cv (Af cs)) (h0:Af cs 0 ≠ []):∀ k L L',k ≤ 8 → Fx S cs k L → Fx S cs k L' → L=L'
 | 0,L,L',_,h,_=>h.elim
 | 1,L,L',_,h,h'=>by
  have h:L=Af cs 0:=h
  have h':L'=Af cs 0:=h'
  rw [h,h']
 | k+2,L,L',hk,⟨M,h1,h2,h3⟩,⟨M',g1,g2,g3⟩=>by
  obtain rfl:=KM hS hc h0 (k+1) M M' (by omega) h1 g1
  rcases hc (k+1) (by omega) with e | e
  · exact absurd e h2
  · exact (hS.one M _ 0 L 0 L' (GY hS hc h0 (k+1) M (by omega) h1) e h3 g3).2
theorem Ht {S:List (Int × Int) → List (Int × Int) → Int → List (Int × Int) → Prop} {cs:List (List (Int × Int))}:∀ k L,Fx S cs k L → ∀ j,1 ≤ j → j < k → Af cs j ≠ []
 | 0,L,h,_,_,_=>h.elim
 | 1,L,_,j,h1,h2=>by omega
 | k+2,L,⟨M,h1,h2,h3⟩,j,g1,g2=>by
  by_cases e:j=k+1
  · rw [e];exact h2
  · exact Ht (k+1) M h1 j g1 (by omega)
theorem Ob {S:List (Int × Int) → List (Int × Int) → Int → List (Int × Int) → Prop} {cs:List (List (Int × Int))}:∀ k L,Fx S cs k L → ∀ j,1 ≤ j → j ≤ k → ∃ M,Fx S cs j M
 | 0,L,h,_,_,_=>h.elim
 | 1,L,h,j,h1,h2=>by
  obtain rfl:j=1:=by omega
  exact ⟨L,h⟩
 | k+2,L,h,j,g1,g2=>by
  by_cases e:j=k+2
  · subst e;exact ⟨L,h⟩
  ·
   obtain ⟨M,h1,-,-⟩:=h
   exact Ob (k+1) M h1 j g1 (by omega)
theorem Ve {S:List (Int × Int) → List (Int × Int) → Int → List (Int × Int) → Prop} {cs:List (List (Int × Int))} {k:Nat} {L:List (Int × Int)} (h:Fx S cs (k+1) L) (hk:1 ≤ k):∃ M,Fx S cs k M ∧ S M (Af cs k) 0 L:=by
 cases k with
 | zero=>omega
 | succ k=>
  obtain ⟨M,h1,-,h3⟩:=h
  exact ⟨M,h1,h3⟩
theorem EA.one {S:List (Int × Int) → List (Int × Int) → Int → List (Int × Int) → Prop} (hS:Jc S) {cs:List (List (Int × Int))} (hc:Cv (Af cs)) {L L':List (Int × Int)} (h:EA S cs L) (h':EA S cs L'):L=L':=by
 obtain ⟨h0,k,k1,k8,hk,he⟩:=h
 obtain ⟨-,j,j1,j8,hj,hf⟩:=h'
 have e:k=j:=by
  rcases Nat.lt_trichotomy k j with h | h | h
  ·
   rcases he with e | e
   · omega
   · exact absurd e (Ht j L' hj k k1 h)
  · exact h
  ·
   rcases hf with e | e
   · omega
   · exact absurd e (Ht k L hk j j1 h)
 subst e
 exact KM hS hc h0 k L L' k8 hk hj
theorem EA.no {S:List (Int × Int) → List (Int × Int) → Int → List (Int × Int) → Prop} (hS:Jc S) {cs:List (List (Int × Int))} (hc:Cv (Af cs)) {L:List (Int × Int)} (h:EA S cs L):¬ GN S cs:=by
 obtain ⟨h0,k,k1,k8,hk,he⟩:=h
 rintro (h | ⟨-,j,M,code,N,j1,j8,hj,hne,hs,hcode⟩)
 · exact h0 h
 ·
  have hjk:j < k:=by
   rcases Nat.lt_trichotomy k j with h | h | h
   ·
    rcases he with e | e
    · omega
    · exact absurd e (Ht j M hj k k1 h)
   ·
    subst h
    rcases he with e | e
    · omega
    · exact absurd e hne
   · exact h
  obtain ⟨N',hN⟩:=Ob k L hk (j+1) (by omega) (by omega)
  obtain ⟨M',hM,hs'⟩:=Ve hN j1
  obtain rfl:=KM hS hc h0 j M M' (by omega) hj hM
  rcases hc j j8 with e | e
  · exact hne e
  · exact hcode (hS.one M _ code N 0 N' (GY hS hc h0 j M (by omega) hj) e hs hs').1
end Go.Proofs.YtipdclphpkgceaaGreatDoor
