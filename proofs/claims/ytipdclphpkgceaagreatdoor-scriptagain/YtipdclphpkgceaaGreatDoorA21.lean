/- Own facts, put together: no statement of its own. -/
import Derived.Deep.LoopGhost
import Derived.Test.YtipdclphpkgceaaGreatDoorA20
import Derived.Test.YtipdclphpkgceaaGreatDoorA01
import Derived.Test.YtipdclphpkgceaaGreatDoorA02
import Derived.Laws.EntriesVeiled
import Derived.BigRegion
import Derived.Test.YtipdclphpkgceaaGreatDoorA10
import Derived.Test.YtipdclphpkgceaaGreatDoorA07
import Derived.Test.YtipdclphpkgceaaGreatDoorA16
import Derived.Test.YtipdclphpkgceaaGreatDoorA06
import Derived.Test.YtipdclphpkgceaaGreatDoorA12
set_option maxHeartbeats 4000000
set_option maxRecDepth 100000

namespace Go.Proofs.YtipdclphpkgceaaGreatDoor
open Go.RowKit
def Mg (ps:List Pk) (x:Sn):Int:=x.fin - Ay ps x.num.toNat
structure IC (w:World) (D n:Nat) (ps:List Pk) (l:List Sn) (k:Nat):Prop where
 cell:∀ (i:Nat) x,i < k → l[i]? = some x → w.cell? ⟨D,i,none⟩=some (.int .i64 (Mg ps x))
 room:∀ i,i < n → ∃ u,w.cell? ⟨D,i,none⟩=some u
 frozen:∀ i,w.frozen? ⟨D,i,none⟩=false
 lt:D < w.heap.size
theorem Zh (w:World) (n:Nat) (t:TypeId) (ps:List Pk) (l:List Sn):IC (w.alloc (.cells (madeCells #[.int .i64 0] n) t)) w.heap.size n ps l 0:=by
 refine ⟨fun i x h=>by omega,fun i hi=>⟨.int .i64 0,?_⟩,fun i=>World.frozen?_alloc_new w _ _ i,by simp⟩
 rw [World.cell?_alloc_at _ _ _ _ rfl]
 exact Km _ _ _ hi
theorem IC.later {w w':World} {D n:Nat} {ps:List Pk} {l:List Sn} {k:Nat} (h:IC w D n ps l k) (hb:Below w.heap.size w w'):IC w' D n ps l k:=
 ⟨fun i x hi hx=>cell_later hb (h.cell i x hi hx),fun i hi=>by obtain ⟨u,hu⟩:=h.room i hi;exact ⟨u,cell_later hb hu⟩,fun i=>by rw [hb.frozen (p:=⟨D,i,none⟩) h.lt];exact h.frozen i,Nat.lt_of_lt_of_le h.lt hb.size⟩
theorem IC.put {w:World} {D n:Nat} {ps:List Pk} {l:List Sn} {k:Nat} (h:IC w D n ps l k) (hk:k < n) (x:Sn) (hx:l[k]? = some x):IC (w.setCell ⟨D,k,none⟩ (.int .i64 (Mg ps x))) D n ps l (k+1):=by
 have hs:(w.cell? ⟨D,k,none⟩).isSome=true:=by obtain ⟨u,hu⟩:=h.room k hk;rw [hu];rfl
 refine ⟨fun i y hi hy=>?_,fun i hi=>?_,fun i=>by rw [World.frozen?_setCell];exact h.frozen i,by simp [World.setCell];exact h.lt⟩
 ·
  by_cases e:k=i
  ·
   subst e
   obtain rfl:=Option.some.inj (hx.symm.trans hy)
   exact World.cell?_setCell_same' _ _ _ hs
  ·
   rw [World.cell?_setCell_other _ _ _ _ (by intro e';cases e';exact e rfl)]
   exact h.cell i y (by omega) hy
 ·
  by_cases e:k=i
  ·
   subst e
   exact ⟨_,World.cell?_setCell_same' _ _ _ hs⟩
  ·
   rw [World.cell?_setCell_other _ _ _ _ (by intro e';cases e';exact e rfl)]
   exact h.room i hi
def Pg (ps:List Pk) (l:List Sn) (ad:Nat → Addr) (w:World) (e:Ending) (w':World):Prop:=
 Below w.heap.size w w' ∧ ((∃ D,e=.returned (.tuple #[.slice (some ⟨D,0,none⟩) l.length l.length,.nilIface]) ∧ IC w' D l.length ps l l.length ∧ ∀ (i:Nat) x,l[i]? = some x → named ps.length x=true) ∨
  (∃ (j:Nat) (x:Sn) (F:Nat),l[j]? = some x ∧ (∀ (i:Nat) y,i < j → l[i]? = some y → named ps.length y=true) ∧ named ps.length x=false ∧ e=.returned (.tuple #[.slice none 0 0,.iface 75 (.pointer (some ⟨F,0,none⟩))]) ∧ w'.cell? ⟨F,0,none⟩=some (.int .i64 j) ∧ w'.cell? ⟨F,1,none⟩=some (.iface 312 (.pointer (some (ad 3))))))
theorem U1 (pa:Option Addr) (pcap:Nat) (ps:List Pk) (a:Option Addr) (cap:Nat) (l:List Sn) (w:World) (ad:Nat → Addr) (he:w.cell? ⟨3,0,none⟩=some (.iface 312 (.pointer (some (ad 3))))) (hp:AO w pa ps) (hl:Gu w a l) (hn:l.length ≤ 300) (hm:ps.length ≤ 300) (ht:Rf l)
  (htp:∀ (i:Nat) p,ps[i]? = some p → -1125899906842624 ≤ p.tick ∧ p.tick ≤ 1125899906842624) :
  Calls Tryz.prog 84 #[.slice pa ps.length pcap,.slice a l.length cap] w fun e w'=>Pg ps l ad w e w':=by
 have HP:Hid (AO w pa ps ∧ (∀ (i:Nat) p,ps[i]? = some p → -1125899906842624 ≤ p.tick ∧ p.tick ≤ 1125899906842624)):=⟨hp,htp⟩
 have HL:Hid (Gu w a l ∧ Rf l):=⟨hl,ht⟩
 have HE:Hid (w.cell? ⟨3,0,none⟩=some (.iface 312 (.pointer (some (ad 3))))):=he
 clear hp htp hl ht he
 obtain ⟨n,hnn⟩:∃ n,l.length=n:=⟨_,rfl⟩
 obtain ⟨m,hmm⟩:∃ m,ps.length=m:=⟨_,rfl⟩
 have HN:Hid (l.length=n ∧ ps.length=m):=⟨hnn,hmm⟩
 rw [hnn] at hn ⊢
 rw [hmm] at hm ⊢
 clear hnn hmm
 have hmk:∀ w':World,(Instr.makeSlice 32 (.int .i64 n) (.int .i64 n)).run Tryz.prog w'=.ok (.slice (some ⟨w'.heap.size,0,none⟩) n n) (w'.alloc (.cells (madeCells #[.int .i64 0] n) 3)):=fun w'=>by
  obtain ⟨i0,hi,hz0,hz1,hz2⟩:=info_parts Tryz.infoInt
  have:=run_make (P:=Tryz.prog) w' 32 3 i0 (.int .i64 0) Tryz.underlying32 hi hz0 .i64 .i64 n n (by omega) (by omega) (by rw [hz2];omega) (by omega)
  simpa [hz1,Value.cells] using this
 have HS0:Hid (IC (w.alloc (.cells (madeCells #[.int .i64 0] n) 3)) w.heap.size n ps l 0 ∧ Below w.heap.size w (w.alloc (.cells (madeCells #[.int .i64 0] n) 3))):=⟨Zh w n _ ps l,(Below.refl _ _).alloc (Nat.le_refl _) _⟩
 go_enter Tryz.func84,Tryz.ntmps84
 go_wp2_with fail
 obtain ⟨D,hD⟩:∃ D,w.heap.size=D:=⟨_,rfl⟩
 have HD:Hid (w.heap.size=D):=hD
 rw [hD]
 clear hD hmk
 go_loopg [14] n (fun gk i wr=>∃ k:Nat,gk+k=n ∧ i=.int .i64 k ∧ (∀ (i:Nat) x,i < k → l[i]? = some x → named m x=true) ∧ IC wr D n ps l k ∧ Below w.heap.size w wr)
 case atStart=>exact ⟨0,by omega,rfl,fun i x h=>by omega,by have:=HS0.out.1;rwa [HD.out] at this,HS0.out.2⟩
 case round=>
  obtain ⟨k,hgk,rfl,hok,hdel,hb⟩:=hrel
  have HB:Hid (Below w.heap.size w wr ∧ (∀ (i:Nat) x,i < k → l[i]? = some x → named m x=true) ∧ IC wr D n ps l k):=⟨hb,hok,hdel⟩
  by_cases hkn:k < n
  ·
   obtain ⟨x,hx,-⟩:=Ai l k (by rw [HN.out.1];exact hkn)
   obtain ⟨b,off,rfl,-,hc⟩:=HL.out.1.place (by rw [HN.out.1];omega)
   have c1:wr.cell? ⟨b,off+k * 3,none⟩=some (.int .i64 x.num):=cell_later hb (hc k _ hx).1
   have c2:wr.cell? ⟨b,off+k * 3+1,none⟩=some (.int .i64 x.beg):=cell_later hb (hc k _ hx).2.1
   have c3:wr.cell? ⟨b,off+k * 3+2,none⟩=some (.int .i64 x.fin):=cell_later hb (hc k _ hx).2.2
   obtain ⟨-,-,t3,t4⟩:=XR (HL.out.2 k x hx)
   have HX:Hid (l[k]? = some x):=hx
   clear hc hx hok hdel
   cases ht:named m x with
   | true=>
    obtain ⟨s1,s2⟩:=Vd ht
    have s1':¬ x.num < 0:=by omega
    have s2':¬ (m:Int) ≤ x.num:=by omega
    obtain ⟨q,hq⟩:∃ q:Nat,x.num=q:=⟨x.num.toNat,by omega⟩
    have hqm:q < m:=by omega
    obtain ⟨p,hp,-⟩:=Ai ps q (by rw [HN.out.2];exact hqm)
    obtain ⟨b2,o2,rfl,-,hc2⟩:=HP.out.1.place (by rw [HN.out.2];omega)
    obtain ⟨t1,t2⟩:=HP.out.2 q p hp
    have HDl:Hid (Mg ps x=x.fin - p.tick):=by
     show _=_
     unfold Mg
     rw [hq,Int.toNat_natCast,AJ hp]
    have HT:Hid (named m x=true):=ht
    rw [hq] at c1
    have d1:(wr.alloc (.cells #[.int .i64 q,.int .i64 x.beg,.int .i64 x.fin] 69)).cell? ⟨b2,o2+q * 3+2,none⟩=some (.int .i64 p.tick):=cell_later ((Below.refl _ _).alloc (Nat.le_refl _) _) (cell_later hb (hc2 q _ hp).2.2)
    obtain ⟨u0,hu0⟩:=HB.out.2.2.room k hkn
    have d2:(wr.alloc (.cells #[.int .i64 q,.int .i64 x.beg,.int .i64 x.fin] 69)).cell? ⟨D,k,none⟩=some u0:=cell_later ((Below.refl _ _).alloc (Nat.le_refl _) _) hu0
    have d3:(wr.alloc (.cells #[.int .i64 q,.int .i64 x.beg,.int .i64 x.fin] 69)).frozen? ⟨D,k,none⟩=false:=by
     rw [((Below.refl _ _).alloc (Nat.le_refl _) _:Below wr.heap.size wr _).frozen (p:=⟨D,k,none⟩) HB.out.2.2.lt]
     exact HB.out.2.2.frozen k
    have hw:IntKind.i64.wrap (x.fin - p.tick)=x.fin - p.tick:=IntWalk.i64_in _ (by omega)
    clear hc2 hp ht s1 s2 hu0 hq hb
    generalize x.beg=y at *
    generalize p.tick=tk at *
    go_wp2_with fail
    have HEnd:Hid (IC ((wr.alloc (.cells #[.int .i64 q,.int .i64 y,.int .i64 x.fin] 69)).setCell ⟨D,k,none⟩ (.int .i64 (x.fin - tk))).drew D n ps l (k+1) ∧ Below w.heap.size w ((wr.alloc (.cells #[.int .i64 q,.int .i64 y,.int .i64 x.fin] 69)).setCell ⟨D,k,none⟩ (.int .i64 (x.fin - tk))).drew):=by
     have h1:=(HB.out.2.2.later ((Below.refl _ _).alloc (Nat.le_refl _) (.cells #[.int .i64 q,.int .i64 y,.int .i64 x.fin] 69))).put hkn x HX.out
     rw [HDl.out] at h1
     exact ⟨h1.later (below_drewN (Below.refl _ _) 1),below_drewN ((HB.out.1.alloc HB.out.1.size _).setCell (by rw [HD.out];exact Nat.le_refl D) _) 1⟩
    go_region
    go_wp2_with fail
    go_roundg (gk - 1)
    case measure=>omega
    case rel=>
     refine ⟨k+1,by omega,by go_num,fun i z hi hz=>?_,HEnd.out.1,HEnd.out.2⟩
     rcases Nat.lt_or_ge i k with h | h
     · exact HB.out.2.1 i z h hz
     ·
      obtain rfl:i=k:=by omega
      obtain rfl:=Option.some.inj (HX.out.symm.trans hz)
      exact HT.out
   | false=>
    have HEw:=cell_later HB.out.1 HE.out
    have HEa:Hid (wr.cell? ⟨3,0,none⟩=some (.iface 312 (.pointer (some (ad 3))))):=HEw
    have hE1:(wr.alloc (.cells #[.int .i64 x.num,.int .i64 x.beg,.int .i64 x.fin] 69)).cell? ⟨3,0,none⟩=some (.iface 312 (.pointer (some (ad 3)))):=cell_later ((Below.refl _ _).alloc (Nat.le_refl _) _) HEw
    have hcases:=Ry ht
    have HT:Hid (named m x=false):=ht
    clear ht HEw hb
    have HEnd:Hid (Pg ps l ad w (.returned (.tuple #[.slice none 0 0,.iface 75 (.pointer (some ⟨wr.heap.size+1,0,none⟩))])) ((wr.alloc (.cells #[.int .i64 x.num,.int .i64 x.beg,.int .i64 x.fin] 69)).alloc (.cells #[.int .i64 k,.iface 312 (.pointer (some (ad 3)))] 79)).drew):=by
     have hs:(wr.alloc (.cells #[.int .i64 x.num,.int .i64 x.beg,.int .i64 x.fin] 69)).heap.size=wr.heap.size+1:=by simp
     refine ⟨below_drewN ((HB.out.1.alloc HB.out.1.size _).alloc (by rw [hs];exact Nat.le_succ_of_le HB.out.1.size) _) 1,.inr ⟨k,x,wr.heap.size+1,HX.out,?_,?_,rfl,?_,?_⟩⟩
     ·
      intro i y hi hy
      rw [HN.out.2]
      exact HB.out.2.1 i y hi hy
     · rw [HN.out.2];exact HT.out
     · rw [World.cell?_drew,World.cell?_alloc_at _ _ _ _ hs.symm];rfl
     · rw [World.cell?_drew,World.cell?_alloc_at _ _ _ _ hs.symm];rfl
    rcases hcases with s1 | ⟨s1,s2⟩
    ·
     go_wp2_with fail
     go_region
     go_wp2_with fail
     go_ret2
     exact HEnd.out
    ·
     go_wp2_with fail
     go_region
     go_wp2_with fail
     go_ret2
     exact HEnd.out
  ·
   clear hok hdel hb
   go_wp2_with fail
   go_ret2
   refine ⟨HB.out.1,.inl ⟨D,by rw [HN.out.1];rfl,?_,fun i x hx=>?_⟩⟩
   ·
    obtain rfl:k=n:=by omega
    rw [HN.out.1];exact HB.out.2.2
   ·
    rw [HN.out.2]
    exact HB.out.2.1 i x (by have:=Ad hx;have:=HN.out.1;omega) hx
end Go.Proofs.YtipdclphpkgceaaGreatDoor

namespace Go.Proofs.YtipdclphpkgceaaGreatDoor
section
variable {per:Int} {ps:List Pk} {l:List Sn}
theorem XG (ho:Aj ps) (j:Nat):0 ≤ Ay ps j ∧ Ay ps j ≤ 1099511627776:=by
 unfold Ay
 cases e:ps[j]? with
 | none=>simp only;omega
 | some p=>
  have:=Bb (ho.each _ p e).1
  simp only
  omega
theorem Conv.range (ho:Aj ps) (hper:1 ≤ per ∧ per ≤ 1000) (h:Conv per ps l):∀ (k:Nat) x,l[k]? = some x → 0 ≤ x.beg ∧ x.beg ≤ x.fin ∧ x.fin ≤ 1099511627776+1500000 * ((k:Int)+1)
 | k,x,hx=>by
  obtain ⟨t,b,h1,h2,-,e⟩:=h k x hx
  have hl:CK (l.take k) ≤ 1099511627776+1500000 * (k:Int) ∧ 0 ≤ CK (l.take k):=by
   cases k with
   | zero=>exact ⟨by rw [List.take_zero,Li];omega,by rw [List.take_zero,Li];omega⟩
   | succ k=>
    have hkl:k < l.length:=by have:=Ad hx;omega
    have e2:l[k]? = some l[k]:=List.getElem?_eq_getElem hkl
    have:=Conv.range ho hper h k l[k] e2
    rw [PX e2]
    omega
  have ht:0 ≤ t ∧ t ≤ 1099511627776+1500000 * (k:Int):=by
   rcases h1 with ⟨rfl,-⟩ | ⟨-,j,-,rfl,-⟩
   · omega
   · have:=XG ho j;omega
  have hb:0 ≤ per * bytesOf ps b ∧ per * bytesOf ps b ≤ 1500000:=by
   have e2:ps[b]? = some (ps[b]'h2.1):=List.getElem?_eq_getElem h2.1
   have:=Bb (ho.each _ _ e2).1
   rw [Gp e2]
   have a1:0 ≤ per * (ps[b]'h2.1).size:=Int.mul_nonneg (by omega) (by omega)
   have a2:per * (ps[b]'h2.1).size ≤ 1000 * 1500:=Int.mul_le_mul (by omega) (by omega) (by omega) (by omega)
   omega
  rw [e]
  simp only
  omega
end
end Go.Proofs.YtipdclphpkgceaaGreatDoor

namespace Go.Proofs.YtipdclphpkgceaaGreatDoor
open Go.RowKit
theorem XI {per:Int} {ps:List Pk} {l:List Sn} (ho:Aj ps) (h1:1 ≤ per) (h2:per ≤ 1000) (hc:Conv per ps l) (hl:l.length=ps.length):Rf l:=fun i x hx=>by
 have h:=hc.range ho ⟨h1,h2⟩ i x hx
 have hi:=Ad hx
 have hf:=ho.few
 have:1500000 * ((i:Int)+1) ≤ 1500000 * 301:=by omega
 exact decide_eq_true (by omega)
theorem MU {per:Int} {ps:List Pk} {l:List Sn} (hc:Conv per ps l):∀ (i:Nat) x,l[i]? = some x → named ps.length x=true:=fun i x hx=>by
 obtain ⟨t,b,-,hu,-,rfl⟩:=hc i x hx
 have:=hu.1
 exact decide_eq_true ⟨by show (0:Int) ≤ (b:Int);omega,by show (b:Int) < ps.length;omega⟩
theorem Vz (a:Option Addr) (cap:Nat) (ps:List Pk) (per:Int) (b:Option Addr) (bcap:Nat) (l:List Sn) (w:World) (ad:Nat → Addr) (he:AP w ad) (hp:AO w a ps) (hl:Gu w b l) (ho:Aj ps) (h1:1 ≤ per) (h2:per ≤ 1000) (hc:Conv per ps l) (hll:l.length=ps.length) :
  Calls Tryz.prog 84 #[.slice a ps.length cap,.slice b l.length bcap] w fun e w'=>∃ D,e=.returned (.tuple #[.slice (some ⟨D,0,none⟩) l.length l.length,.nilIface]) ∧ (∀ (i:Nat) x,l[i]? = some x → w'.cell? ⟨D,i,none⟩=some (.int .i64 (x.fin - Ay ps x.num.toNat))) ∧ Below w.heap.size w w':=by
 refine (U1 a cap ps b bcap l w ad he.c3 hp hl (by rw [hll];exact ho.few) ho.few (XI ho h1 h2 hc hll) (fun i q hq=>by have:=Bb (ho.each i q hq).1;omega)).mono ?_
 rintro e w' ⟨hb,⟨D,rfl,hD,-⟩ | ⟨j,x,F,hj,-,hno,-⟩⟩
 · exact ⟨D,rfl,fun i x hx=>hD.cell i x (Ad hx) hx,hb⟩
 ·
  rw [MU hc j x hj] at hno
  cases hno
end Go.Proofs.YtipdclphpkgceaaGreatDoor

namespace Go.Proofs.YtipdclphpkgceaaGreatDoor
open Go.Lib
def GQ:List UInt8 → List UInt8 × List UInt8 × Bool
 | []=>([],[],false)
 | b :: l=>if b=32 then ([],l,true) else (b :: (GQ l).1,(GQ l).2.1,(GQ l).2.2)
def C8:List UInt8 → List (List UInt8)
 | []=>[[]]
 | b :: l=>if b=32 then [] :: C8 l else match C8 l with | []=>[[b]] | x :: r=>(b :: x) :: r
theorem LJ (l:List UInt8):∃ x r,C8 l=x :: r:=by
 cases l with
 | nil=>exact ⟨_,_,rfl⟩
 | cons b l=>
  unfold C8
  split
  · exact ⟨_,_,rfl⟩
  ·
   cases C8 l with
   | nil=>exact ⟨_,_,rfl⟩
   | cons x r=>exact ⟨_,_,rfl⟩
theorem Gl:∀ s:List UInt8,(index s [32] = -1 ∧ GQ s=(s,[],false) ∧ C8 s=[s]) ∨ ∃ i:Nat,index s [32]=i ∧ i < s.length ∧ GQ s=(s.take i,s.drop (i+1),true) ∧ C8 s=s.take i :: C8 (s.drop (i+1))
 | []=>.inl ⟨rfl,rfl,rfl⟩
 | b :: l=>by
  by_cases hb:b=32
  ·
   subst hb
   refine .inr ⟨0,?_,by simp,by simp [GQ],by simp [C8]⟩
   unfold index
   rw [if_pos (by rfl)]
   rfl
  ·
   have hp:¬ [32].isPrefixOf (b :: l)=true:=by
    simp [List.isPrefixOf]
    exact fun h=>hb h.symm
   rcases Gl l with ⟨h1,h2,h3⟩ | ⟨i,h1,h2,h3,h4⟩
   ·
    refine .inl ⟨?_,?_,?_⟩
    ·
     unfold index
     rw [if_neg hp,h1]
     rfl
    · simp [GQ,hb,h2]
    · simp [C8,hb,h3]
   ·
    refine .inr ⟨i+1,?_,by simp;omega,?_,?_⟩
    ·
     unfold index
     rw [if_neg hp,h1,if_neg (by simp)]
     simp
    · simp [GQ,hb,h3]
    · simp [C8,hb,h4]
theorem E8 (s:List UInt8):cut s [32]=GQ s:=by
 unfold cut
 rcases Gl s with ⟨h1,h2,-⟩ | ⟨i,h1,h2,h3,-⟩
 · rw [h1,if_neg (by decide),h2]
 ·
  rw [h1,if_pos (by omega),h3]
  simp
theorem Kg:∀ (fuel:Nat) (s:List UInt8),s.length < fuel → splitK [32] 0 (countFrom [32] fuel s) s=C8 s
 | 0,s,h=>by omega
 | fuel+1,s,h=>by
  rcases Gl s with ⟨h1,-,h3⟩ | ⟨i,h1,h2,-,h4⟩
  ·
   unfold countFrom
   rw [h1,if_pos (by rfl),h3]
   rfl
  ·
   unfold countFrom
   rw [h1,if_neg (by simp),Nat.add_comm 1]
   unfold splitK
   rw [h1,if_neg (by simp),h4]
   simp only [Int.toNat_natCast,Nat.add_zero,List.length_cons,List.length_nil,Nat.zero_add]
   rw [Kg fuel (s.drop (i+1)) (by rw [List.length_drop];omega)]
theorem Gq (s:List UInt8):split s [32]=C8 s:=Kg (s.length+1) s (by omega)
theorem Od:∀ s:List UInt8,1 ≤ (C8 s).length ∧ (C8 s).length ≤ s.length+1
 | []=>by simp [C8]
 | b :: l=>by
  obtain ⟨h1,h2⟩:=Od l
  obtain ⟨x,r,e⟩:=LJ l
  unfold C8
  split
  · simp;omega
  ·
   rw [e] at h2 ⊢
   simp at h2 ⊢
   omega
theorem KG:∀ (s:List UInt8),∀ x ∈ C8 s,x.length ≤ s.length
 | [],x,h=>by simp [C8] at h;simp [h]
 | b :: l,x,h=>by
  have ih:=KG l
  obtain ⟨y,r,e⟩:=LJ l
  unfold C8 at h
  split at h
  ·
   rcases List.mem_cons.1 h with rfl | h
   · simp
   · have:=ih x h;simp;omega
  ·
   rw [e] at h ih
   simp only [List.mem_cons] at h
   rcases h with rfl | h
   · have:=ih y (by simp);simp;omega
   · have:=ih x (by simp [h]);simp;omega
theorem TG (s:List UInt8):(GQ s).1.length ≤ s.length ∧ (GQ s).2.1.length ≤ s.length:=by
 rcases Gl s with ⟨-,h,-⟩ | ⟨i,-,-,h,-⟩
 · rw [h];simp
 · rw [h];simp [List.length_take,List.length_drop];omega
end Go.Proofs.YtipdclphpkgceaaGreatDoor
