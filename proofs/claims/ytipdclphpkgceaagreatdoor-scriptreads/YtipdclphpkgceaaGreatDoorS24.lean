/- Own facts, put together: no statement of its own. -/
import Derived.Test.YtipdclphpkgceaaGreatDoorS23
import Derived.Shelf.Slices.Delete
import Derived.Deep.LoopGhost
import Derived.Test.YtipdclphpkgceaaGreatDoorS11
import Derived.Test.YtipdclphpkgceaaGreatDoorS09
import Derived.Test.YtipdclphpkgceaaGreatDoorS04
import Derived.Test.YtipdclphpkgceaaGreatDoorS01
import Derived.Test.YtipdclphpkgceaaGreatDoorS12
import Derived.Test.YtipdclphpkgceaaGreatDoorS07
set_option maxHeartbeats 1000000
set_option maxRecDepth 100000

namespace Go.Proofs.YtipdclphpkgceaaGreatDoor
open Go.RowKit Go.Extern.Stop Go.Stop Go.Extern
theorem Tryz.errMethE (v:Value) (w:World):(Go.method 442 312 v "Error").run Tryz.prog w=.ok (287,v) w:=by kernel_rfl
theorem Tryz.errMethF (v:Value) (w:World):(Go.method 442 75 v "Error").run Tryz.prog w=.ok (266,v) w:=by kernel_rfl
theorem errString_text (a:Addr) (s:ByteArray) (w:World) (h:w.cell? a=some (.string s)) :
  Calls Tryz.prog 287 #[.pointer (some a)] w fun e w'=>e=.returned (.string s) ∧ w'=w:=by
 obtain ⟨b,o,sp⟩:=a
 have hsp:sp=none:=by simpa using World.cell?_spot h
 subst hsp
 go_enter Tryz.func287,Tryz.ntmps287
 go_wp2
 go_ret
 exact ⟨rfl,rfl⟩
theorem fault_text (pb:Nat) (a:Addr) (s:ByteArray) (w:World) (h1:w.cell? ⟨pb,1,none⟩=some (.iface 312 (.pointer (some a)))) (h:w.cell? a=some (.string s)) :
  Calls Tryz.prog 266 #[.pointer (some ⟨pb,0,none⟩)] w fun e w'=>e=.returned (.string s) ∧ w'=w:=by
 have hm:=Tryz.errMethE
 have HC:Hid (Calls Tryz.prog 287 #[.pointer (some a)] w fun e w'=>e=.returned (.string s) ∧ w'=w):=errString_text a s w h
 clear h
 go_enter Tryz.func266,Tryz.ntmps266
 go_wp2_with fail
 refine HC.out.mono ?_
 rintro e w1 ⟨rfl,rfl⟩
 go_wp2_with fail
 go_ret
 exact ⟨rfl,rfl⟩
def known (c:Int):Prop:=(1 ≤ c ∧ c ≤ 5) ∨ c=9
theorem errIs_text {w:World} {E:Value} {c p:Int} (h:ErrIs w E c p) (hc:known c) :
  (∃ a,E=.iface 312 (.pointer (some a)) ∧ w.cell? a=some (strW (errText c))) ∨
  (∃ pb a,E=.iface 75 (.pointer (some ⟨pb,0,none⟩)) ∧ w.cell? ⟨pb,1,none⟩=some (.iface 312 (.pointer (some a))) ∧ w.cell? a=some (strW (errText c))):=by
 have c0:c ≠ 0:=by rcases hc with h | h <;> omega
 rcases h.code with ⟨-,hn,-⟩ | ⟨ad,he,k,hk,hck,hE⟩
 · exact absurd hn c0
 ·
  subst hck
  obtain ⟨s,h1,h2⟩:=he.txt k (by unfold six;rcases hc with h | h <;> omega)
  have e:Value.string s=strW (errText ((k:Int)+1)):=by
   show _=Value.string ⟨_⟩
   rw [← h2]
  rw [e] at h1
  rcases hE with ⟨rfl,-⟩ | ⟨pb,rfl,-,h3⟩
  · exact .inl ⟨_,rfl,h1⟩
  · exact .inr ⟨pb,_,rfl,h3,h1⟩
theorem sayDone_nil (w:World):Calls Tryz.prog 42 #[.nilIface] w fun e w'=>e=.returned (.tuple #[strW okText,.nilIface]) ∧ w'=w:=by
 go_enter Tryz.func42,Tryz.ntmps42
 go_wp2
 go_ret2
 exact ⟨rfl,rfl⟩
theorem sayDone_err (ty:TypeId) (v:Value) (w:World):Calls Tryz.prog 42 #[.iface ty v] w fun e w'=>e=.returned (.tuple #[strW [],.iface ty v]) ∧ w'=w:=by
 go_enter Tryz.func42,Tryz.ntmps42
 go_wp2
 go_ret2
 exact ⟨rfl,rfl⟩
theorem sayNumber_nil (n:Int) (w:World) (hi:ItoaOk w) (h0 : -9223372036854775808 ≤ n) (h1:n ≤ 9223372036854775807):Calls Tryz.prog 45 #[.int .i64 n,.nilIface] w fun e w'=>e=.returned (.tuple #[strW (Go.Lib.itoa n),.nilIface]) ∧ Below w.heap.size w w':=by
 have HC:Hid (Calls Tryz.prog 79 #[.int .i64 n] w fun e w'=>e=.returned (.string ⟨(Go.Lib.itoa n).toArray⟩) ∧ Below w.heap.size w w'):=hi w (Below.refl _ _) n h0 h1
 clear hi
 go_enter Tryz.func45,Tryz.ntmps45
 go_wp2_with fail
 refine HC.out.mono ?_
 rintro e w1 ⟨rfl,hb⟩
 have HB:Hid (Below w.heap.size w w1):=hb
 clear hb
 go_wp2_with fail
 go_ret2
 exact ⟨rfl,HB.out⟩
theorem sayNumber_err (n:Int) (ty:TypeId) (v:Value) (w:World):Calls Tryz.prog 45 #[.int .i64 n,.iface ty v] w fun e w'=>e=.returned (.tuple #[strW [],.iface ty v]) ∧ w'=w:=by
 go_enter Tryz.func45,Tryz.ntmps45
 go_wp2
 go_ret2
 exact ⟨rfl,rfl⟩
end Go.Proofs.YtipdclphpkgceaaGreatDoor

namespace Go.Proofs.YtipdclphpkgceaaGreatDoor
open Go.RowKit
def delRen:Go.Shelf.Ren where
 f:=fun _=>221
 t:=fun k=>match k with | 0=>0 | 3=>3 | 4=>4 | _=>32
 g:=fun k=>k
theorem delLays:Go.Proofs.Lays2.n23 Tryz.prog delRen where
 mixed:=by kernel_rfl
 f23:=by kernel_rfl
 t0:=by kernel_rfl
 a0:=fun w=>by kernel_rfl
 z0:=fun w=>by kernel_rfl
 v0:=fun w=>by kernel_rfl
 t3:=by kernel_rfl
 a3:=fun w=>by kernel_rfl
 z3:=fun w=>by kernel_rfl
 v3:=fun w=>by kernel_rfl
 t4:=by kernel_rfl
 a4:=fun w=>by kernel_rfl
 z4:=fun w=>by kernel_rfl
 v4:=fun w=>by kernel_rfl
 t22:=by kernel_rfl
 a22:=fun w=>by kernel_rfl
 z22:=fun w=>by kernel_rfl
 v22:=fun w=>by kernel_rfl
 i3:=by kernel_rfl
theorem delete_one (B g cap i:Nat) (zs:List Int) (w:World) (h:w.ownsRow B 3 1 (.slice (some ⟨g,0,none⟩) zs.length cap) zs.length (ints zs)) (hi:i < zs.length) (hcap:zs.length ≤ cap) (hm:cap ≤ maxLen) :
  Calls Tryz.prog 221 #[.slice (some ⟨g,0,none⟩) zs.length cap,.int .i64 (i:Int),.int .i64 ((i:Int)+1)] w fun e w'=>e=.returned (.slice (some ⟨g,0,none⟩) (zs.length - 1) cap) ∧ w'.ownsRow B 3 1 (.slice (some ⟨g,0,none⟩) (zs.length - 1) cap) (zs.length - 1) (ints (zs.eraseIdx i)) ∧ But (fun k=>k=g) w w':=by
 have hd:=Any.slices_Delete_int delLays g 0 cap i (i+1) zs w (holds_of_own h) hcap (by unfold maxLen at hm;omega) (by omega) (by omega)
 refine hd.mono ?_
 rintro e w' ⟨rfl,q,rfl⟩
 exact ⟨by rw [show i+1 - i=1 by omega],own_deleted h i q hi⟩
def asInts (q:List Nat):List Int:=q.map fun (k:Nat)=>(k:Int)
theorem asInts_length (q:List Nat):(asInts q).length=q.length:=by simp [asInts]
theorem asInts_get {q:List Nat} {j k:Nat} (h:q[j]? = some k):(asInts q)[j]? = some (k:Int):=by simp [asInts,h]
theorem asInts_snoc (q:List Nat) (k:Nat):ints (asInts (q ++ [k]))=ints (asInts q) ++ [.int .i64 (k:Int)]:=by simp [asInts,ints]
theorem asInts_more (L:List Nat) (i:Nat):asInts (L ++ [i])=asInts L ++ [(i:Int)]:=by simp [asInts]
theorem asInts_erase (q:List Nat) (i:Nat):(asInts q).eraseIdx i=asInts (q.eraseIdx i):=by
 simp only [asInts,List.eraseIdx_eq_take_drop_succ,List.map_append,List.map_take,List.map_drop]
structure HeldR (B:Nat) (W0:World) (g gm:Nat) (mv:Value) (w:World) (D:Nat → Prop) (q:List Nat):Prop where
 env:Below B W0 w
 row:∃ v,w.heap[g]? = some (.cells #[v] 32 (0,0)) ∧ w.ownsRow B 3 1 v q.length (ints (asInts q)) ∧ v.ownBlock ≠ some g ∧ v.ownBlock ≠ some gm ∧ (∀ k,D k ↔ k=g ∨ k=gm ∨ v.ownBlock=some k)
 mea:w.heap[gm]? = some (.cells #[mv] 171 (0,0))
 apart:g ≠ gm ∧ B ≤ g ∧ B ≤ gm
section
variable {B:Nat} {W0:World} {g gm:Nat} {mv:Value} {w w':World} {D:Nat → Prop} {q:List Nat}
theorem HeldR.foot (h:HeldR B W0 g gm mv w D q):∀ k,D k → B ≤ k ∧ k < w.heap.size:=by
 obtain ⟨v,h1,h2,-,-,h5⟩:=h.row
 intro k hk
 rcases (h5 k).1 hk with rfl | rfl | hk
 · exact ⟨h.apart.2.1,lt_of_block h1⟩
 · exact ⟨h.apart.2.2,lt_of_block h.mea⟩
 · exact ownsRow_lt h2 hk
theorem HeldR.but {S:Nat → Prop} (h:HeldR B W0 g gm mv w D q) (hb:But S w w') (hs:∀ k,D k → ¬ S k) (hB:∀ k,S k → B ≤ k):HeldR B W0 g gm mv w' D q:=by
 obtain ⟨v,h1,h2,h3,h4,h5⟩:=h.row
 have hsz:B ≤ w.heap.size:=Nat.le_trans h.apart.2.1 (Nat.le_of_lt (lt_of_block h1))
 exact ⟨h.env.trans (hb.below hsz hB),⟨v,(hb.block g (lt_of_block h1) (hs g ((h5 g).2 (.inl rfl)))).trans h1,ownsRow_of_block h2 (fun k hv hk=>hb.block k hk (hs k ((h5 k).2 (.inr (.inr hv))))),h3,h4,h5⟩,(hb.block gm (lt_of_block h.mea) (hs gm ((h5 gm).2 (.inr (.inl rfl))))).trans h.mea,h.apart⟩
theorem HeldR.later (h:HeldR B W0 g gm mv w D q) (hb:Below w.heap.size w w'):HeldR B W0 g gm mv w' D q:=
 h.but (S:=fun _=>False) (.ofBelow hb) (fun _ _ h=>h) (fun _ h=>h.elim)
theorem HeldR.alloc (h:HeldR B W0 g gm mv w D q) (o:Obj):HeldR B W0 g gm mv (w.alloc o) D q:=h.later ((Below.refl _ _).alloc (Nat.le_refl _) _)
theorem HeldR.stored {v v':Value} {w1 w2:World} {q':List Nat} (h:HeldR B W0 g gm mv w D q) (hv:w.heap[g]? = some (.cells #[v] 32 (0,0))) (hb1:Below w.heap.size w w1) (hbut:But (fun k=>v.ownBlock=some k) w1 w2)
  (hown:w2.ownsRow B 3 1 v' q'.length (ints (asInts q'))) (hnew:∀ k,v'.ownBlock=some k → v.ownBlock=some k ∨ w1.heap.size ≤ k) :
  QueLeft (HeldR B W0 g gm mv) w (w2.setCell ⟨g,0,none⟩ v') D q':=by
 obtain ⟨u,h1,h2,h3,h4,h5⟩:=h.row
 have e:u=v:=by
  rw [hv] at h1
  injection h1 with h1
  injection h1 with h1
  simp at h1
  exact h1.symm
 subst e
 have hgl:=lt_of_block h1
 have hml:=lt_of_block h.mea
 have hsz:B ≤ w.heap.size:=Nat.le_trans h.apart.2.1 (Nat.le_of_lt hgl)
 have hs1:=hb1.size
 have hg2:w2.heap[g]? = some (.cells #[u] 32 (0,0)):=(hbut.block g (by omega) h3).trans ((hb1.block g hgl).trans h1)
 have hm2:w2.heap[gm]? = some (.cells #[mv] 171 (0,0)):=(hbut.block gm (by omega) h4).trans ((hb1.block gm hml).trans h.mea)
 have hb2:But (fun k=>k=g) w2 (w2.setCell ⟨g,0,none⟩ v'):=But.setCell (S:=fun k=>k=g) (But.refl _ w2) (p:=⟨g,0,none⟩) rfl v'
 have hvg:v'.ownBlock ≠ some g:=fun e=>by
  rcases hnew g e with h' | h'
  · exact h3 h'
  · omega
 have hvm:v'.ownBlock ≠ some gm:=fun e=>by
  rcases hnew gm e with h' | h'
  · exact h4 h'
  · omega
 have hall:But D w (w2.setCell ⟨g,0,none⟩ v'):=((But.ofBelow hb1).trans (hbut.mono fun k hk=>(h5 k).2 (.inr (.inr hk)))).trans (hb2.mono fun k hk=>(h5 k).2 (.inl hk))
 refine ⟨fun k=>k=g ∨ k=gm ∨ v'.ownBlock=some k,⟨h.env.trans (hall.below hsz fun k hk=>(h.foot k hk).1),⟨v',one_setCell hg2,ownsRow_of_block hown (fun k hv' hk=>hb2.block k hk (fun e=>hvg (by rw [← e];exact hv'))),hvg,hvm,fun k=>Iff.rfl⟩,(hb2.block gm (lt_of_block hm2) (fun e=>h.apart.1 e.symm)).trans hm2,h.apart⟩,hall,fun k hk=>?_⟩
 rcases hk with rfl | rfl | hk
 · exact .inl ((h5 _).2 (.inl rfl))
 · exact .inl ((h5 _).2 (.inr (.inl rfl)))
 ·
  rcases hnew k hk with h' | h'
  · exact .inl ((h5 k).2 (.inr (.inr h')))
  · exact .inr (by omega)
theorem HeldR.same (h:HeldR B W0 g gm mv w D q) (hb:Below w.heap.size w w'):QueLeft (HeldR B W0 g gm mv) w w' D q:=⟨D,h.later hb,.ofBelow hb,fun _ hk=>.inl hk⟩
theorem QueLeft.after {σ:Type} {Held:World → (Nat → Prop) → σ → Prop} {w w1 w':World} {D:Nat → Prop} {q:σ} (hb:Below w.heap.size w w1) (h:QueLeft Held w1 w' D q):QueLeft Held w w' D q:=by
 obtain ⟨D',h1,h2,h3⟩:=h
 refine ⟨D',h1,(But.ofBelow hb).trans h2,fun k hk=>?_⟩
 rcases h3 k hk with h | h
 · exact .inl h
 · exact .inr (Nat.le_trans hb.size h)
end
theorem rankMem (B:Nat) (W0:World) (g gm:Nat) (mv:Value):QueMem (HeldR B W0 g gm mv) B:=⟨fun _ _ _ h=>h.foot,fun _ _ _ _ _ h hb hs hB=>h.but hb hs hB⟩
theorem rankCome (B:Nat) (W0:World) (g gm:Nat) (mv:Value) (D:Nat → Prop) (q:List Nat) (k:Nat) (w:World) (h:HeldR B W0 g gm mv w D q) (hn:q.length ≤ 1000) :
  Calls Tryz.prog 200 #[.int .i64 (k:Int),.pointer (some ⟨g,0,none⟩)] w fun e w'=>e=.returned (.tuple #[]) ∧ QueLeft (HeldR B W0 g gm mv) w w' D (q ++ [k]):=by
 obtain ⟨i0,hi,hz0,hz1,hz2⟩:=info_parts Tryz.infoInt
 have HH:Hid (HeldR B W0 g gm mv w D q):=h
 obtain ⟨v,h1,h2,h3,h4,h5⟩:=h.row
 have hgl:=lt_of_block h1
 have c0:=cell_of_one h1
 have H1:Hid (w.heap[g]? = some (.cells #[v] 32 (0,0)) ∧ v.ownBlock ≠ some g ∧ B ≤ w.heap.size):=⟨h1,h3,Nat.le_trans h.apart.2.1 (Nat.le_of_lt hgl)⟩
 have hb0:Below w.heap.size w (w.alloc (.cells #[.int .i64 (k:Int)] 3)):=(Below.refl _ _).alloc (Nat.le_refl _) _
 have H2:Hid ((w.alloc (.cells #[.int .i64 (k:Int)] 3)).ownsRow B 3 1 v q.length (ints (asInts q))):=ownsRow_of_block h2 (fun g' _ hg'=>hb0.block g' hg')
 have HNew:Hid (∀ j u,(ints [(k:Int)])[j]? = some u → (w.alloc (.cells #[.int .i64 (k:Int)] 3)).cell? (Addr.add ⟨w.heap.size,0,none⟩ j)=some u):=by
  intro j u hu
  cases j with
  | zero=>simp [ints] at hu;subst hu;simp [Addr.add]
  | succ j=>simp [ints] at hu
 have HBs:Hid (B ≤ (w.alloc (.cells #[.int .i64 (k:Int)] 3)).heap.size):=Nat.le_trans H1.out.2.2 hb0.size
 clear h1 h2 h3 h4 h5 h hb0
 go_enter Tryz.func200,Tryz.ntmps200
 go_wp2_with (at_builtin;go_must (refine wpList_append_lies _ rfl _ _ 32 rfl B 3 i0 (.int .i64 0) 1 8 Tryz.underlying32 hi hz0 hz1 hz2 rfl (by decide) v q.length (ints (asInts q)) rfl H2.out ⟨w.heap.size,0,none⟩ 1 1 (ints [(k:Int)]) rfl rfl HNew.out (ints_one _) (by decide) (by unfold maxLen;omega) (by omega) HBs.out _ rfl ?_;intro g5 cap5 w5 ho5 hg5 hat5 hlt5;have hbut:But (fun k=>v.ownBlock=some k) (w.alloc (.cells #[.int .i64 (k:Int)] 3)) w5:=⟨hg5.os,hg5.tape,hg5.output,hg5.size,fun k hk hn=>hg5.block k hk (fun e=>hn e.symm)⟩;have hgb:w5.heap[g]? = some (.cells #[v] 32 (0,0)):=(hbut.block g (by simp;omega) H1.out.2.1).trans ((Below.heap_alloc w _ g hgl).trans H1.out.1);have c5:=cell_of_one hgb;have f5:=free_of_one hgb;have H5:Hid (w5.ownsRow B 3 1 (.slice (some ⟨g5,0,none⟩) (q.length+1) cap5) (q.length+1) (ints (asInts q) ++ ints [(k:Int)]) ∧ But (fun k=>v.ownBlock=some k) (w.alloc (.cells #[.int .i64 (k:Int)] 3)) w5 ∧ (v.ownBlock=some g5 ∨ g5=(w.alloc (.cells #[.int .i64 (k:Int)] 3)).heap.size)):=⟨ho5,hbut,hat5⟩;clear ho5 hg5 hat5 hlt5 hbut hgb))
 go_end0
 refine ⟨rfl,HH.out.stored H1.out.1 ((Below.refl _ _).alloc (Nat.le_refl _) _) H5.out.2.1 ?_ ?_⟩
 ·
  rw [asInts_snoc,List.length_append]
  exact H5.out.1
 ·
  intro j hj
  have e:g5=j:=Option.some.inj hj
  rcases H5.out.2.2 with h | h
  · exact .inl (by rw [← e];exact h)
  · exact .inr (by rw [← e,h];exact Nat.le_refl _)
structure GateLies (w:World) (ca:Option Addr) (ccap:Nat) (cs:List (List (Int × Int))) (na:Option Addr) (ncap:Nat) (ns:List Int):Prop where
 curves:LiesC w ca cs
 cfit:cs.length ≤ ccap
 cmax:ccap ≤ maxLen
 nums:LiesN w na ns
 nfit:ns.length ≤ ncap
 nmax:ncap ≤ maxLen
 nnone:na=none → ns=[] ∧ ncap=0
 slim:Slim cs ns
theorem GateLies.below {w w':World} {ca:Option Addr} {ccap:Nat} {cs:List (List (Int × Int))} {na:Option Addr} {ncap:Nat} {ns:List Int} (h:GateLies w ca ccap cs na ncap ns) (hb:Below w.heap.size w w'):GateLies w' ca ccap cs na ncap ns:=⟨h.curves.below hb,h.cfit,h.cmax,h.nums.below hb,h.nfit,h.nmax,h.nnone,h.slim⟩
structure PksLie (w:World) (pa:Option Addr) (pcap:Nat) (ps:List Pk):Prop where
 pks:LiesP w pa ps
 cap:ps.length ≤ pcap
 max:pcap ≤ maxLen
 none_:pa=none → ps=[] ∧ pcap=0
theorem PksLie.below {w w':World} {pa:Option Addr} {pcap:Nat} {ps:List Pk} (h:PksLie w pa pcap ps) (hb:Below w.heap.size w w'):PksLie w' pa pcap ps:=⟨h.pks.below hb,h.cap,h.max,h.none_⟩
structure SntLie (w:World) (la:Option Addr) (lcap:Nat) (l:List Sn):Prop where
 sent:LiesS w la l
 cap:l.length ≤ lcap
 max:lcap ≤ maxLen
 none_:la=none → l=[] ∧ lcap=0
theorem SntLie.below {w w':World} {la:Option Addr} {lcap:Nat} {l:List Sn} (h:SntLie w la lcap l) (hb:Below w.heap.size w w'):SntLie w' la lcap l:=⟨h.sent.below hb,h.cap,h.max,h.none_⟩
def GateBad (c p:Int) (w:World) (e:Ending) (w':World):Prop:=∃ qa qcap la lcap E,e=.returned (.tuple #[.slice qa 0 qcap,.slice la 0 lcap,E]) ∧ ErrIs w' E c p ∧ Below w.heap.size w w'
def GateGood (cs:List (List (Int × Int))) (k:Nat) (per:Int) (ns:List Int) (ps:List Pk) (w:World) (e:Ending) (w':World):Prop:=∃ qa qcap la lcap qs l,e=.returned (.tuple #[.slice qa qs.length qcap,.slice la l.length lcap,.nilIface]) ∧ PksLie w' qa qcap qs ∧ SntLie w' la lcap l ∧ GateRun (curveFl cs) k per ns ps qs l ∧ Below w.heap.size w w'
structure GateWalks:Prop where
 check:∀ (ca:Option Addr) (ccap:Nat) (cs:List (List (Int × Int))) (kb:ByteArray) (per:Int) (na:Option Addr) (ncap:Nat) (ns:List Int) (w:World) (ad:Nat → Addr) (c p:Int),Errs9 w ad → GateLies w ca ccap cs na ncap ns → GateIs cs (kindOf kb.toList) per ns c p →
  Calls Tryz.prog 82 #[.agg #[.slice ca cs.length ccap,.string kb,.int .i64 per,.slice na ns.length ncap]] w fun e w'=>∃ E,e=.returned E ∧ ErrIs w' E c p ∧ Below w.heap.size w w'
 bad:∀ (ca:Option Addr) (ccap:Nat) (cs:List (List (Int × Int))) (kb:ByteArray) (per:Int) (na:Option Addr) (ncap:Nat) (ns:List Int) (pa:Option Addr) (pcap:Nat) (ps:List Pk) (w:World) (ad:Nat → Addr) (c p:Int),Errs9 w ad → GateLies w ca ccap cs na ncap ns → PksLie w pa pcap ps → RunIs cs (kindOf kb.toList) per ns ps c p → 0 < c →
  Calls Tryz.prog 81 #[.agg #[.slice ca cs.length ccap,.string kb,.int .i64 per,.slice na ns.length ncap],.slice pa ps.length pcap] w fun e w'=>GateBad c p w e w'
 good:∀ (ca:Option Addr) (ccap:Nat) (cs:List (List (Int × Int))) (kb:ByteArray) (per:Int) (na:Option Addr) (ncap:Nat) (ns:List Int) (pa:Option Addr) (pcap:Nat) (ps:List Pk) (w:World) (ad:Nat → Addr),Errs9 w ad → GateLies w ca ccap cs na ncap ns → PksLie w pa pcap ps → GateOk cs (kindOf kb.toList) per ns → OkPks ps → (∀ i,¬ NeverAt (curveFl cs) ps i) →
  Calls Tryz.prog 81 #[.agg #[.slice ca cs.length ccap,.string kb,.int .i64 per,.slice na ns.length ncap],.slice pa ps.length pcap] w fun e w'=>GateGood cs (kindOf kb.toList) per ns ps w e w'
def bare8:List (List (Int × Int)):=List.replicate 8 []
theorem curveFl_bare:curveFl bare8=fun _=>[]:=by
 funext f
 cases h:bare8[f]? with
 | none=>simp [curveFl,List.getD,h]
 | some ls=>
  rw [curveFl_get h]
  exact List.eq_of_mem_replicate (List.mem_of_getElem? h)
theorem never_bare (ps:List Pk) (i:Nat):¬ NeverAt (curveFl bare8) ps i:=by
 rw [curveFl_bare]
 rintro ⟨p,s,-,h,-⟩
 exact h rfl
theorem run_bare {k:Nat} {per:Int} {ns:List Int} {ps qs:List Pk} {l:List Sn} (ho:OkPks ps) (h:GateRun (curveFl bare8) k per ns ps qs l):qs=ps ∧ LinkSends k per ps ns l:=by
 obtain ⟨a,L,h1,h2,rfl,h3⟩:=h
 rw [curveFl_bare] at h1
 obtain ⟨g1,g2,g3⟩:=open_gate ho
 have e:=(gate_one ho h1 g1 h2 g2).trans g3
 rw [e] at h3
 exact ⟨e,h3⟩
theorem make_curves (w':World):(Instr.makeSlice 49 (.int .i64 8) (.int .i64 8)).run Tryz.prog w'=.ok (.slice (some ⟨w'.heap.size,0,none⟩) 8 8) (w'.alloc (.cells (madeCells #[.slice none 0 0] 8) 62)):=by
 obtain ⟨i0,hi,hz0,hz1,hz2⟩:=info_parts Tryz.infoLines
 have:=run_make (P:=Tryz.prog) w' 49 62 i0 (.slice none 0 0) Tryz.underlying49 hi hz0 .i64 .i64 8 8 (by omega) (by omega) (by rw [hz2];omega) (by omega)
 simpa [hz1,Value.cells] using this
structure GateRaw (w:World) (ca:Option Addr) (ccap:Nat) (cs:List (List (Int × Int))) (na:Option Addr) (ncap:Nat) (ns:List Int):Prop where
 curves:LiesC w ca cs
 cfit:cs.length ≤ ccap
 cmax:ccap ≤ maxLen
 nums:LiesN w na ns
 nfit:ns.length ≤ ncap
 nmax:ncap ≤ maxLen
 nnone:na=none → ns=[] ∧ ncap=0
theorem GateRaw.below {w w':World} {ca:Option Addr} {ccap:Nat} {cs:List (List (Int × Int))} {na:Option Addr} {ncap:Nat} {ns:List Int} (h:GateRaw w ca ccap cs na ncap ns) (hb:Below w.heap.size w w'):GateRaw w' ca ccap cs na ncap ns:=⟨h.curves.below hb,h.cfit,h.cmax,h.nums.below hb,h.nfit,h.nmax,h.nnone⟩
def srvInt:Option Nat → Int
 | some f=>f
 | none=>-1
structure TurnCells (w:World) (g:Nat) (pv qv:Value) (vq:Nat → Value) (cr:Nat → Int) (rv:Value) (sv:Int) (n:Nat):Prop where
 c0:w.cell? ⟨g,0,none⟩=some pv
 c1:w.cell? ⟨g,1,none⟩=some qv
 cq:∀ f,f < 8 → w.cell? ⟨g,2+f,none⟩=some (vq f)
 cc:∀ f,f < 8 → w.cell? ⟨g,10+f,none⟩=some (.int .i64 (cr f))
 cr_:w.cell? ⟨g,18,none⟩=some rv
 cs:w.cell? ⟨g,19,none⟩=some (.int .i64 sv)
 cn:w.cell? ⟨g,20,none⟩=some (.int .i64 (n:Int))
 free:∀ i,w.frozen? ⟨g,i,none⟩=false
section
variable {w w':World} {g:Nat} {pv qv:Value} {vq:Nat → Value} {cr:Nat → Int} {rv:Value} {sv:Int} {n:Nat}
theorem TurnCells.lt (h:TurnCells w g pv qv vq cr rv sv n):g < w.heap.size:=cell_lt h.c0
theorem TurnCells.but {S:Nat → Prop} (h:TurnCells w g pv qv vq cr rv sv n) (hb:But S w w') (hs:¬ S g):TurnCells w' g pv qv vq cr rv sv n:=by
 have e:∀ i,w'.cell? ⟨g,i,none⟩=w.cell? ⟨g,i,none⟩:=fun i=>hb.cell (p:=⟨g,i,none⟩) h.lt hs
 exact ⟨by rw [e];exact h.c0,by rw [e];exact h.c1,fun f hf=>by rw [e];exact h.cq f hf,fun f hf=>by rw [e];exact h.cc f hf,by rw [e];exact h.cr_,by rw [e];exact h.cs,by rw [e];exact h.cn,fun i=>by rw [hb.frozen (p:=⟨g,i,none⟩) h.lt hs];exact h.free i⟩
theorem far (w:World) (g i j:Nat) (v:Value) (h:i ≠ j):(w.setCell ⟨g,i,none⟩ v).cell? ⟨g,j,none⟩=w.cell? ⟨g,j,none⟩:=
 World.cell?_setCell_other _ _ _ _ (fun e=>h (by injection e))
theorem TurnCells.setQ (h:TurnCells w g pv qv vq cr rv sv n) {f:Nat} (hf:f < 8) (v:Value):TurnCells (w.setCell ⟨g,2+f,none⟩ v) g pv qv (put1 vq f v) cr rv sv n:=by
 refine ⟨by rw [far _ _ _ _ _ (by omega)];exact h.c0,by rw [far _ _ _ _ _ (by omega)];exact h.c1,fun j hj=>?_,fun j hj=>by rw [far _ _ _ _ _ (by omega)];exact h.cc j hj,by rw [far _ _ _ _ _ (by omega)];exact h.cr_,by rw [far _ _ _ _ _ (by omega)];exact h.cs,by rw [far _ _ _ _ _ (by omega)];exact h.cn,fun i=>by rw [World.frozen?_setCell];exact h.free i⟩
 by_cases e:j=f
 ·
  subst e
  rw [put1_same]
  exact World.cell?_setCell_same _ _ _ (h.cq j hj)
 ·
  rw [put1_other _ _ e,far _ _ _ _ _ (by omega)]
  exact h.cq j hj
theorem TurnCells.setC (h:TurnCells w g pv qv vq cr rv sv n) {f:Nat} (hf:f < 8) (x:Int):TurnCells (w.setCell ⟨g,10+f,none⟩ (.int .i64 x)) g pv qv vq (put1 cr f x) rv sv n:=by
 refine ⟨by rw [far _ _ _ _ _ (by omega)];exact h.c0,by rw [far _ _ _ _ _ (by omega)];exact h.c1,fun j hj=>by rw [far _ _ _ _ _ (by omega)];exact h.cq j hj,fun j hj=>?_,by rw [far _ _ _ _ _ (by omega)];exact h.cr_,by rw [far _ _ _ _ _ (by omega)];exact h.cs,by rw [far _ _ _ _ _ (by omega)];exact h.cn,fun i=>by rw [World.frozen?_setCell];exact h.free i⟩
 by_cases e:j=f
 ·
  subst e
  rw [put1_same]
  exact World.cell?_setCell_same _ _ _ (h.cc j hj)
 ·
  rw [put1_other _ _ e,far _ _ _ _ _ (by omega)]
  exact h.cc j hj
theorem TurnCells.setR (h:TurnCells w g pv qv vq cr rv sv n) (v:Value):TurnCells (w.setCell ⟨g,18,none⟩ v) g pv qv vq cr v sv n:=
 ⟨by rw [far _ _ _ _ _ (by omega)];exact h.c0,by rw [far _ _ _ _ _ (by omega)];exact h.c1,fun j hj=>by rw [far _ _ _ _ _ (by omega)];exact h.cq j hj,fun j hj=>by rw [far _ _ _ _ _ (by omega)];exact h.cc j hj,World.cell?_setCell_same _ _ _ h.cr_,by rw [far _ _ _ _ _ (by omega)];exact h.cs,by rw [far _ _ _ _ _ (by omega)];exact h.cn,fun i=>by rw [World.frozen?_setCell];exact h.free i⟩
theorem TurnCells.setS (h:TurnCells w g pv qv vq cr rv sv n) (x:Int):TurnCells (w.setCell ⟨g,19,none⟩ (.int .i64 x)) g pv qv vq cr rv x n:=
 ⟨by rw [far _ _ _ _ _ (by omega)];exact h.c0,by rw [far _ _ _ _ _ (by omega)];exact h.c1,fun j hj=>by rw [far _ _ _ _ _ (by omega)];exact h.cq j hj,fun j hj=>by rw [far _ _ _ _ _ (by omega)];exact h.cc j hj,by rw [far _ _ _ _ _ (by omega)];exact h.cr_,World.cell?_setCell_same _ _ _ h.cs,by rw [far _ _ _ _ _ (by omega)];exact h.cn,fun i=>by rw [World.frozen?_setCell];exact h.free i⟩
theorem TurnCells.setN (h:TurnCells w g pv qv vq cr rv sv n) (x:Nat):TurnCells (w.setCell ⟨g,20,none⟩ (.int .i64 (x:Int))) g pv qv vq cr rv sv x:=
 ⟨by rw [far _ _ _ _ _ (by omega)];exact h.c0,by rw [far _ _ _ _ _ (by omega)];exact h.c1,fun j hj=>by rw [far _ _ _ _ _ (by omega)];exact h.cq j hj,fun j hj=>by rw [far _ _ _ _ _ (by omega)];exact h.cc j hj,by rw [far _ _ _ _ _ (by omega)];exact h.cr_,by rw [far _ _ _ _ _ (by omega)];exact h.cs,World.cell?_setCell_same _ _ _ h.cn,fun i=>by rw [World.frozen?_setCell];exact h.free i⟩
end
def turnFoot (g:Nat) (F:Nat → Nat → Prop) (rv:Value) (k:Nat):Prop:=k=g ∨ (∃ f,f < 8 ∧ F f k) ∨ rv.ownBlock=some k
structure TurnsAt (B g:Nat) (pv qv:Value) (w:World) (vq:Nat → Value) (F:Nat → Nat → Prop) (rv:Value) (d:Drr) (n:Nat):Prop where
 cells:TurnCells w g pv qv vq d.cr rv (srvInt d.srv) n
 queue:∀ f,f < 8 → Slides w B (vq f) (F f) (d.qs f)
 row:w.ownsRow B 3 1 rv d.row.length (ints (asInts d.row))
 apart:∀ f,f < 8 → ¬ F f g ∧ (∀ k,F f k → rv.ownBlock ≠ some k) ∧ ∀ f' k,f' < 8 → F f k → F f' k → f=f'
 rowg:rv.ownBlock ≠ some g
 le:B ≤ g
section
variable {B g:Nat} {pv qv:Value} {w w':World} {vq:Nat → Value} {F:Nat → Nat → Prop} {rv:Value} {d:Drr} {n:Nat}
theorem TurnsAt.foot (h:TurnsAt B g pv qv w vq F rv d n):∀ k,turnFoot g F rv k → B ≤ k ∧ k < w.heap.size:=by
 rintro k (rfl | ⟨f,hf,hk⟩ | hk)
 · exact ⟨h.le,h.cells.lt⟩
 · exact (h.queue f hf).foot k hk
 · exact ownsRow_lt h.row hk
theorem TurnsAt.but {S:Nat → Prop} (h:TurnsAt B g pv qv w vq F rv d n) (hb:But S w w') (hs:∀ k,turnFoot g F rv k → ¬ S k):TurnsAt B g pv qv w' vq F rv d n:=
 ⟨h.cells.but hb (hs g (.inl rfl)),fun f hf=>(h.queue f hf).but hb (fun k hk=>hs k (.inr (.inl ⟨f,hf,hk⟩))),ownsRow_of_block h.row (fun k hv hk=>hb.block k hk (hs k (.inr (.inr hv)))),h.apart,h.rowg,h.le⟩
theorem TurnsAt.later (h:TurnsAt B g pv qv w vq F rv d n) (hb:Below w.heap.size w w'):TurnsAt B g pv qv w' vq F rv d n:=h.but (S:=fun _=>False) (.ofBelow hb) (fun _ _ h=>h)
theorem butG (w:World) (g i:Nat) (v:Value):But (fun k=>k=g) w (w.setCell ⟨g,i,none⟩ v):=But.setCell (S:=fun k=>k=g) (But.refl _ w) (p:=⟨g,i,none⟩) rfl v
theorem TurnsAt.apartG (h:TurnsAt B g pv qv w vq F rv d n) (i:Nat) (v:Value):(∀ f,f < 8 → Slides (w.setCell ⟨g,i,none⟩ v) B (vq f) (F f) (d.qs f)) ∧ (w.setCell ⟨g,i,none⟩ v).ownsRow B 3 1 rv d.row.length (ints (asInts d.row)):=
 ⟨fun f hf=>(h.queue f hf).but (butG w g i v) (fun k hk e=>(h.apart f hf).1 (by rw [← e];exact hk)),ownsRow_of_block h.row (fun k hv hk=>(butG w g i v).block k hk (fun e=>h.rowg (by rw [← e];exact hv)))⟩
theorem TurnsAt.setC (h:TurnsAt B g pv qv w vq F rv d n) {f:Nat} (hf:f < 8) (x:Int):TurnsAt B g pv qv (w.setCell ⟨g,10+f,none⟩ (.int .i64 x)) vq F rv { d with cr:=put1 d.cr f x } n:=
 ⟨h.cells.setC hf x,(h.apartG _ _).1,(h.apartG _ _).2,h.apart,h.rowg,h.le⟩
theorem TurnsAt.setS (h:TurnsAt B g pv qv w vq F rv d n) {x:Int} (s:Option Nat) (hs:srvInt s=x):TurnsAt B g pv qv (w.setCell ⟨g,19,none⟩ (.int .i64 x)) vq F rv { d with srv:=s } n:=
 ⟨by rw [← hs];exact h.cells.setS _,(h.apartG _ _).1,(h.apartG _ _).2,h.apart,h.rowg,h.le⟩
theorem TurnsAt.setN (h:TurnsAt B g pv qv w vq F rv d n) {x:Int} (m:Nat) (hx:(m:Int)=x):TurnsAt B g pv qv (w.setCell ⟨g,20,none⟩ (.int .i64 x)) vq F rv d m:=
 ⟨by rw [← hx];exact h.cells.setN m,(h.apartG _ _).1,(h.apartG _ _).2,h.apart,h.rowg,h.le⟩
theorem TurnsAt.setR (h:TurnsAt B g pv qv w vq F rv d n) {w2:World} {v':Value} {r':List Nat} (hbut:But (fun k=>rv.ownBlock=some k) w w2) (hown:w2.ownsRow B 3 1 v' r'.length (ints (asInts r'))) (hnew:∀ k,v'.ownBlock=some k → rv.ownBlock=some k ∨ w.heap.size ≤ k) :
  TurnsAt B g pv qv (w2.setCell ⟨g,18,none⟩ v') vq F v' { d with row:=r' } n:=by
 have hg:v'.ownBlock ≠ some g:=fun e=>by
  rcases hnew g e with h' | h'
  · exact h.rowg h'
  · have:=h.cells.lt;omega
 refine ⟨(h.cells.but hbut (fun e=>h.rowg e)).setR v',fun f hf=>?_,?_,fun f hf=>⟨(h.apart f hf).1,fun k hk e=>?_,(h.apart f hf).2.2⟩,hg,h.le⟩
 · exact ((h.queue f hf).but hbut (fun k hk e=>(h.apart f hf).2.1 k hk e)).but (butG w2 g 18 v') (fun k hk e=>(h.apart f hf).1 (by rw [← e];exact hk))
 · exact ownsRow_of_block hown (fun k hv hk=>(butG w2 g 18 v').block k hk (fun e=>hg (by rw [← e];exact hv)))
 ·
  rcases hnew k e with h' | h'
  · exact (h.apart f hf).2.1 k hk h'
  · have:=((h.queue f hf).foot k hk).2;omega
theorem TurnsAt.setQ (h:TurnsAt B g pv qv w vq F rv d n) {f:Nat} (hf:f < 8) {w2:World} {v':Value} {F':Nat → Prop} {q':List Nat} (hbut:But (F f) w w2) (hsl:Slides w2 B v' F' q') (hnew:∀ k,F' k → F f k ∨ w.heap.size ≤ k) :
  TurnsAt B g pv qv (w2.setCell ⟨g,2+f,none⟩ v') (put1 vq f v') (put1 F f F') rv { d with qs:=put1 d.qs f q' } n:=by
 have hFg:¬ F' g:=fun e=>by
  rcases hnew g e with h' | h'
  · exact (h.apart f hf).1 h'
  · have:=h.cells.lt;omega
 have hG:=butG w2 g (2+f) v'
 refine ⟨(h.cells.but hbut (h.apart f hf).1).setQ hf v',fun j hj=>?_,?_,fun j hj=>?_,h.rowg,h.le⟩
 ·
  by_cases e:j=f
  ·
   subst e
   show Slides _ B (put1 vq j v' j) (put1 F j F' j) (put1 d.qs j q' j)
   rw [put1_same,put1_same,put1_same]
   exact hsl.but hG (fun k hk e=>hFg (by rw [← e];exact hk))
  ·
   show Slides _ B (put1 vq f v' j) (put1 F f F' j) (put1 d.qs f q' j)
   rw [put1_other _ _ e,put1_other _ _ e,put1_other _ _ e]
   exact ((h.queue j hj).but hbut (fun k hk hk'=>e ((h.apart j hj).2.2 f k hf hk hk'))).but hG (fun k hk e'=>(h.apart j hj).1 (by rw [← e'];exact hk))
 · refine ownsRow_of_block (ownsRow_of_block h.row (fun k hv hk=>hbut.block k hk (fun hF=>(h.apart f hf).2.1 k hF hv))) (fun k hv hk=>hG.block k hk (fun e=>h.rowg (by rw [← e];exact hv)))
 ·
  have key:∀ i,i < 8 → ∀ k,put1 F f F' i k → (i=f ∧ F' k) ∨ (i ≠ f ∧ F i k):=fun i _ k hk=>by
   by_cases e:i=f
   · subst e;rw [put1_same] at hk;exact .inl ⟨rfl,hk⟩
   · rw [put1_other _ _ e] at hk;exact .inr ⟨e,hk⟩
  have hold:∀ k,F' k → ∀ i,i < 8 → i ≠ f → F i k → False:=fun k hk i hi hne hik=>by
   rcases hnew k hk with h' | h'
   · exact hne ((h.apart i hi).2.2 f k hf hik h')
   · have:=((h.queue i hi).foot k hik).2;omega
  refine ⟨fun hk=>?_,fun k hk e=>?_,fun j' k hj' hk hk'=>?_⟩
  ·
   rcases key j hj g hk with ⟨-,hk⟩ | ⟨-,hk⟩
   · exact hFg hk
   · exact (h.apart j hj).1 hk
  ·
   rcases key j hj k hk with ⟨-,hk⟩ | ⟨-,hk⟩
   ·
    rcases hnew k hk with h' | h'
    · exact (h.apart f hf).2.1 k h' e
    · have:=(ownsRow_lt h.row e).2;omega
   · exact (h.apart j hj).2.1 k hk e
  ·
   rcases key j hj k hk with ⟨e1,hk⟩ | ⟨e1,hk⟩
   ·
    rcases key j' hj' k hk' with ⟨e2,hk'⟩ | ⟨e2,hk'⟩
    · rw [e1,e2]
    · exact (hold k hk j' hj' e2 hk').elim
   ·
    rcases key j' hj' k hk' with ⟨e2,hk'⟩ | ⟨e2,hk'⟩
    · exact (hold k hk' j hj e1 hk).elim
    · exact (h.apart j hj).2.2 j' k hj' hk hk'
end
structure HeldT (B:Nat) (W0:World) (g:Nat) (pv qv:Value) (w:World) (D:Nat → Prop) (q:TQ):Prop where
 env:Below B W0 w
 parts:∃ vq F rv,TurnsAt B g pv qv w vq F rv q.d q.n ∧ ∀ k,D k ↔ turnFoot g F rv k
section
variable {B:Nat} {W0:World} {g:Nat} {pv qv:Value} {w w':World} {D:Nat → Prop} {q:TQ}
theorem HeldT.foot (h:HeldT B W0 g pv qv w D q):∀ k,D k → B ≤ k ∧ k < w.heap.size:=by
 obtain ⟨vq,F,rv,h1,h2⟩:=h.parts
 exact fun k hk=>h1.foot k ((h2 k).1 hk)
theorem HeldT.le (h:HeldT B W0 g pv qv w D q):B ≤ w.heap.size:=by
 obtain ⟨vq,F,rv,h1,h2⟩:=h.parts
 have:=h1.cells.lt
 have:=h1.le
 omega
theorem HeldT.but {S:Nat → Prop} (h:HeldT B W0 g pv qv w D q) (hb:But S w w') (hs:∀ k,D k → ¬ S k) (hB:∀ k,S k → B ≤ k):HeldT B W0 g pv qv w' D q:=by
 obtain ⟨vq,F,rv,h1,h2⟩:=h.parts
 exact ⟨h.env.trans (hb.below h.le hB),vq,F,rv,h1.but hb (fun k hk=>hs k ((h2 k).2 hk)),h2⟩
theorem HeldT.later (h:HeldT B W0 g pv qv w D q) (hb:Below w.heap.size w w'):HeldT B W0 g pv qv w' D q:=h.but (S:=fun _=>False) (.ofBelow hb) (fun _ _ h=>h) (fun _ h=>h.elim)
theorem HeldT.alloc (h:HeldT B W0 g pv qv w D q) (o:Obj):HeldT B W0 g pv qv (w.alloc o) D q:=h.later ((Below.refl _ _).alloc (Nat.le_refl _) _)
theorem turnsMem (B:Nat) (W0:World) (g:Nat) (pv qv:Value):QueMem (HeldT B W0 g pv qv) B:=⟨fun _ _ _ h=>h.foot,fun _ _ _ _ _ h hb hs hB=>h.but hb hs hB⟩
theorem HeldT.same (h:HeldT B W0 g pv qv w D q) (hb:Below w.heap.size w w'):QueLeft (HeldT B W0 g pv qv) w w' D q:=⟨D,h.later hb,.ofBelow hb,fun _ hk=>.inl hk⟩
theorem HeldT.leaves {vq':Nat → Value} {F F':Nat → Nat → Prop} {rv rv':Value} {q':TQ} (h:HeldT B W0 g pv qv w D q) (hD:∀ k,D k ↔ turnFoot g F rv k) (hbut:But D w w') (hat:TurnsAt B g pv qv w' vq' F' rv' q'.d q'.n) (hnew:∀ k,turnFoot g F' rv' k → turnFoot g F rv k ∨ w.heap.size ≤ k):QueLeft (HeldT B W0 g pv qv) w w' D q':=
 ⟨turnFoot g F' rv',⟨h.env.trans (hbut.below h.le fun k hk=>(h.foot k hk).1),vq',F',rv',hat,fun _=>Iff.rfl⟩,hbut,fun k hk=>by
  rcases hnew k hk with h' | h'
  · exact .inl ((hD k).2 h')
  · exact .inr h'⟩
end
end Go.Proofs.YtipdclphpkgceaaGreatDoor
