/- Own facts, put together: no statement of its own. -/
import Derived.Shelf.Slices.Delete
import Derived.Deep.LoopGhost
import Derived.Test.YtipdclphpkgceaaGreatDoorA09
import Derived.Test.YtipdclphpkgceaaGreatDoorA07
import Derived.Test.YtipdclphpkgceaaGreatDoorA02
import Derived.Test.YtipdclphpkgceaaGreatDoorA01
import Derived.Deep.SlicePairs
import Derived.Deep.Slices
import Derived.Shelf.Strings.Cut
import Derived.Shelf.Strings.Split
import Derived.Shelf.Strings.OnBuilder
import Derived.Shelf.LaysM
import Derived.Shelf.Strconv.Itoa3
import Derived.Shelf.Bits.Mul64
import Derived.Shelf.Slices.Turned
import Derived.Test.YtipdclphpkgceaaGreatDoorChecked
import Derived.Test.YtipdclphpkgceaaGreatDoorA10
import Derived.Test.YtipdclphpkgceaaGreatDoorA06
import Derived.Shelf.SlSortCmp.WholeK
import Derived.Ground.SlsfProg
set_option maxHeartbeats 1000000
set_option maxRecDepth 100000

namespace Go.Proofs.YtipdclphpkgceaaGreatDoor
open Go.RowKit
def aR:Go.Shelf.Ren where
 f:=fun _=>221
 t:=fun k=>match k with | 0=>0 | 3=>3 | 4=>4 | _=>32
 g:=fun k=>k
theorem Zo:Go.Proofs.Lays2.n23 Tryz.prog aR where
 mixed:=by kernel_rfl
 f23:=by kernel_rfl
 t0:=by kernel_rfl
 a0:=fun w=>by kernel_rfl
 z0:=fun w=>by kernel_rfl
 v0:=fun w=>by kernel_rfl
 t3:=by kernel_rfl
 a3:=fun w=>by kernel_rfl
 z3:=fun w=>by kernel_rfl
 v3:=fun w=>by kernel_rfl
 t4:=by kernel_rfl
 a4:=fun w=>by kernel_rfl
 z4:=fun w=>by kernel_rfl
 v4:=fun w=>by kernel_rfl
 t22:=by kernel_rfl
 a22:=fun w=>by kernel_rfl
 z22:=fun w=>by kernel_rfl
 v22:=fun w=>by kernel_rfl
 i3:=by kernel_rfl
theorem J3 (B g cap i:Nat) (zs:List Int) (w:World) (h:w.ownsRow B 3 1 (.slice (some ⟨g,0,none⟩) zs.length cap) zs.length (ints zs)) (hi:i < zs.length) (hcap:zs.length ≤ cap) (hm:cap ≤ maxLen) :
  Calls Tryz.prog 221 #[.slice (some ⟨g,0,none⟩) zs.length cap,.int .i64 (i:Int),.int .i64 ((i:Int)+1)] w fun e w'=>e=.returned (.slice (some ⟨g,0,none⟩) (zs.length - 1) cap) ∧ w'.ownsRow B 3 1 (.slice (some ⟨g,0,none⟩) (zs.length - 1) cap) (zs.length - 1) (ints (zs.eraseIdx i)) ∧ But (fun k=>k=g) w w':=by
 have hd:=Any.slices_Delete_int Zo g 0 cap i (i+1) zs w (PU h) hcap (by unfold maxLen at hm;omega) (by omega) (by omega)
 refine hd.mono ?_
 rintro e w' ⟨rfl,q,rfl⟩
 exact ⟨by rw [show i+1 - i=1 by omega],Sy h i q hi⟩
def Am (q:List Nat):List Int:=q.map fun (k:Nat)=>(k:Int)
theorem AA (q:List Nat):(Am q).length=q.length:=by simp [Am]
theorem JL {q:List Nat} {j k:Nat} (h:q[j]? = some k):(Am q)[j]? = some (k:Int):=by simp [Am,h]
theorem Fz (q:List Nat) (k:Nat):ints (Am (q ++ [k]))=ints (Am q) ++ [.int .i64 (k:Int)]:=by simp [Am,ints]
theorem Tf (L:List Nat) (i:Nat):Am (L ++ [i])=Am L ++ [(i:Int)]:=by simp [Am]
theorem KF (q:List Nat) (i:Nat):(Am q).eraseIdx i=Am (q.eraseIdx i):=by
 simp only [Am,List.eraseIdx_eq_take_drop_succ,List.map_append,List.map_take,List.map_drop]
structure Bv (B:Nat) (W0:World) (g gm:Nat) (mv:Value) (w:World) (D:Nat → Prop) (q:List Nat):Prop where
 env:Below B W0 w
 row:∃ v,w.heap[g]? = some (.cells #[v] 32 (0,0)) ∧ w.ownsRow B 3 1 v q.length (ints (Am q)) ∧ v.ownBlock ≠ some g ∧ v.ownBlock ≠ some gm ∧ (∀ k,D k ↔ k=g ∨ k=gm ∨ v.ownBlock=some k)
 mea:w.heap[gm]? = some (.cells #[mv] 171 (0,0))
 apart:g ≠ gm ∧ B ≤ g ∧ B ≤ gm
section
variable {B:Nat} {W0:World} {g gm:Nat} {mv:Value} {w w':World} {D:Nat → Prop} {q:List Nat}
theorem Bv.foot (h:Bv B W0 g gm mv w D q):∀ k,D k → B ≤ k ∧ k < w.heap.size:=by
 obtain ⟨v,h1,h2,-,-,h5⟩:=h.row
 intro k hk
 rcases (h5 k).1 hk with rfl | rfl | hk
 · exact ⟨h.apart.2.1,lt_of_block h1⟩
 · exact ⟨h.apart.2.2,lt_of_block h.mea⟩
 · exact AX h2 hk
theorem Bv.but {S:Nat → Prop} (h:Bv B W0 g gm mv w D q) (hb:But S w w') (hs:∀ k,D k → ¬ S k) (hB:∀ k,S k → B ≤ k):Bv B W0 g gm mv w' D q:=by
 obtain ⟨v,h1,h2,h3,h4,h5⟩:=h.row
 have hsz:B ≤ w.heap.size:=Nat.le_trans h.apart.2.1 (Nat.le_of_lt (lt_of_block h1))
 exact ⟨h.env.trans (hb.below hsz hB),⟨v,(hb.block g (lt_of_block h1) (hs g ((h5 g).2 (.inl rfl)))).trans h1,Av h2 (fun k hv hk=>hb.block k hk (hs k ((h5 k).2 (.inr (.inr hv))))),h3,h4,h5⟩,(hb.block gm (lt_of_block h.mea) (hs gm ((h5 gm).2 (.inr (.inl rfl))))).trans h.mea,h.apart⟩
theorem Bv.later (h:Bv B W0 g gm mv w D q) (hb:Below w.heap.size w w'):Bv B W0 g gm mv w' D q:=
 h.but (S:=fun _=>False) (.ofBelow hb) (fun _ _ h=>h) (fun _ h=>h.elim)
theorem Bv.alloc (h:Bv B W0 g gm mv w D q) (o:Obj):Bv B W0 g gm mv (w.alloc o) D q:=h.later ((Below.refl _ _).alloc (Nat.le_refl _) _)
theorem Bv.stored {v v':Value} {w1 w2:World} {q':List Nat} (h:Bv B W0 g gm mv w D q) (hv:w.heap[g]? = some (.cells #[v] 32 (0,0))) (hb1:Below w.heap.size w w1) (hbut:But (fun k=>v.ownBlock=some k) w1 w2)
  (hown:w2.ownsRow B 3 1 v' q'.length (ints (Am q'))) (hnew:∀ k,v'.ownBlock=some k → v.ownBlock=some k ∨ w1.heap.size ≤ k) :
  Az (Bv B W0 g gm mv) w (w2.setCell ⟨g,0,none⟩ v') D q':=by
 obtain ⟨u,h1,h2,h3,h4,h5⟩:=h.row
 have e:u=v:=by
  rw [hv] at h1
  injection h1 with h1
  injection h1 with h1
  simp at h1
  exact h1.symm
 subst e
 have hgl:=lt_of_block h1
 have hml:=lt_of_block h.mea
 have hsz:B ≤ w.heap.size:=Nat.le_trans h.apart.2.1 (Nat.le_of_lt hgl)
 have hs1:=hb1.size
 have hg2:w2.heap[g]? = some (.cells #[u] 32 (0,0)):=(hbut.block g (by omega) h3).trans ((hb1.block g hgl).trans h1)
 have hm2:w2.heap[gm]? = some (.cells #[mv] 171 (0,0)):=(hbut.block gm (by omega) h4).trans ((hb1.block gm hml).trans h.mea)
 have hb2:But (fun k=>k=g) w2 (w2.setCell ⟨g,0,none⟩ v'):=But.setCell (S:=fun k=>k=g) (But.refl _ w2) (p:=⟨g,0,none⟩) rfl v'
 have hvg:v'.ownBlock ≠ some g:=fun e=>by
  rcases hnew g e with h' | h'
  · exact h3 h'
  · omega
 have hvm:v'.ownBlock ≠ some gm:=fun e=>by
  rcases hnew gm e with h' | h'
  · exact h4 h'
  · omega
 have hall:But D w (w2.setCell ⟨g,0,none⟩ v'):=((But.ofBelow hb1).trans (hbut.mono fun k hk=>(h5 k).2 (.inr (.inr hk)))).trans (hb2.mono fun k hk=>(h5 k).2 (.inl hk))
 refine ⟨fun k=>k=g ∨ k=gm ∨ v'.ownBlock=some k,⟨h.env.trans (hall.below hsz fun k hk=>(h.foot k hk).1),⟨v',one_setCell hg2,Av hown (fun k hv' hk=>hb2.block k hk (fun e=>hvg (by rw [← e];exact hv'))),hvg,hvm,fun k=>Iff.rfl⟩,(hb2.block gm (lt_of_block hm2) (fun e=>h.apart.1 e.symm)).trans hm2,h.apart⟩,hall,fun k hk=>?_⟩
 rcases hk with rfl | rfl | hk
 · exact .inl ((h5 _).2 (.inl rfl))
 · exact .inl ((h5 _).2 (.inr (.inl rfl)))
 ·
  rcases hnew k hk with h' | h'
  · exact .inl ((h5 k).2 (.inr (.inr h')))
  · exact .inr (by omega)
theorem Bv.same (h:Bv B W0 g gm mv w D q) (hb:Below w.heap.size w w'):Az (Bv B W0 g gm mv) w w' D q:=⟨D,h.later hb,.ofBelow hb,fun _ hk=>.inl hk⟩
theorem Az.after {σ:Type} {Held:World → (Nat → Prop) → σ → Prop} {w w1 w':World} {D:Nat → Prop} {q:σ} (hb:Below w.heap.size w w1) (h:Az Held w1 w' D q):Az Held w w' D q:=by
 obtain ⟨D',h1,h2,h3⟩:=h
 refine ⟨D',h1,(But.ofBelow hb).trans h2,fun k hk=>?_⟩
 rcases h3 k hk with h | h
 · exact .inl h
 · exact .inr (Nat.le_trans hb.size h)
end
theorem Zx (B:Nat) (W0:World) (g gm:Nat) (mv:Value):Gc (Bv B W0 g gm mv) B:=⟨fun _ _ _ h=>h.foot,fun _ _ _ _ _ h hb hs hB=>h.but hb hs hB⟩
theorem YT (B:Nat) (W0:World) (g gm:Nat) (mv:Value) (D:Nat → Prop) (q:List Nat) (k:Nat) (w:World) (h:Bv B W0 g gm mv w D q) (hn:q.length ≤ 1000) :
  Calls Tryz.prog 200 #[.int .i64 (k:Int),.pointer (some ⟨g,0,none⟩)] w fun e w'=>e=.returned (.tuple #[]) ∧ Az (Bv B W0 g gm mv) w w' D (q ++ [k]):=by
 obtain ⟨i0,hi,hz0,hz1,hz2⟩:=info_parts Tryz.infoInt
 have HH:Hid (Bv B W0 g gm mv w D q):=h
 obtain ⟨v,h1,h2,h3,h4,h5⟩:=h.row
 have hgl:=lt_of_block h1
 have c0:=cell_of_one h1
 have H1:Hid (w.heap[g]? = some (.cells #[v] 32 (0,0)) ∧ v.ownBlock ≠ some g ∧ B ≤ w.heap.size):=⟨h1,h3,Nat.le_trans h.apart.2.1 (Nat.le_of_lt hgl)⟩
 have hb0:Below w.heap.size w (w.alloc (.cells #[.int .i64 (k:Int)] 3)):=(Below.refl _ _).alloc (Nat.le_refl _) _
 have H2:Hid ((w.alloc (.cells #[.int .i64 (k:Int)] 3)).ownsRow B 3 1 v q.length (ints (Am q))):=Av h2 (fun g' _ hg'=>hb0.block g' hg')
 have HNew:Hid (∀ j u,(ints [(k:Int)])[j]? = some u → (w.alloc (.cells #[.int .i64 (k:Int)] 3)).cell? (Addr.add ⟨w.heap.size,0,none⟩ j)=some u):=by
  intro j u hu
  cases j with
  | zero=>simp [ints] at hu;subst hu;simp [Addr.add]
  | succ j=>simp [ints] at hu
 have HBs:Hid (B ≤ (w.alloc (.cells #[.int .i64 (k:Int)] 3)).heap.size):=Nat.le_trans H1.out.2.2 hb0.size
 clear h1 h2 h3 h4 h5 h hb0
 go_enter Tryz.func200,Tryz.ntmps200
 go_wp2_with (at_builtin;go_must (refine wpList_append_lies _ rfl _ _ 32 rfl B 3 i0 (.int .i64 0) 1 8 Tryz.underlying32 hi hz0 hz1 hz2 rfl (by decide) v q.length (ints (Am q)) rfl H2.out ⟨w.heap.size,0,none⟩ 1 1 (ints [(k:Int)]) rfl rfl HNew.out (GZ _) (by decide) (by unfold maxLen;omega) (by omega) HBs.out _ rfl ?_;intro g5 cap5 w5 ho5 hg5 hat5 hlt5;have hbut:But (fun k=>v.ownBlock=some k) (w.alloc (.cells #[.int .i64 (k:Int)] 3)) w5:=⟨hg5.os,hg5.tape,hg5.output,hg5.size,fun k hk hn=>hg5.block k hk (fun e=>hn e.symm)⟩;have hgb:w5.heap[g]? = some (.cells #[v] 32 (0,0)):=(hbut.block g (by simp;omega) H1.out.2.1).trans ((Below.heap_alloc w _ g hgl).trans H1.out.1);have c5:=cell_of_one hgb;have f5:=free_of_one hgb;have H5:Hid (w5.ownsRow B 3 1 (.slice (some ⟨g5,0,none⟩) (q.length+1) cap5) (q.length+1) (ints (Am q) ++ ints [(k:Int)]) ∧ But (fun k=>v.ownBlock=some k) (w.alloc (.cells #[.int .i64 (k:Int)] 3)) w5 ∧ (v.ownBlock=some g5 ∨ g5=(w.alloc (.cells #[.int .i64 (k:Int)] 3)).heap.size)):=⟨ho5,hbut,hat5⟩;clear ho5 hg5 hat5 hlt5 hbut hgb))
 go_end0
 refine ⟨rfl,HH.out.stored H1.out.1 ((Below.refl _ _).alloc (Nat.le_refl _) _) H5.out.2.1 ?_ ?_⟩
 ·
  rw [Fz,List.length_append]
  exact H5.out.1
 ·
  intro j hj
  have e:g5=j:=Option.some.inj hj
  rcases H5.out.2.2 with h | h
  · exact .inl (by rw [← e];exact h)
  · exact .inr (by rw [← e,h];exact Nat.le_refl _)
structure Dk (w:World) (ca:Option Addr) (ccap:Nat) (cs:List (List (Int × Int))) (na:Option Addr) (ncap:Nat) (ns:List Int):Prop where
 curves:IB w ca cs
 cfit:cs.length ≤ ccap
 cmax:ccap ≤ maxLen
 nums:AV w na ns
 nfit:ns.length ≤ ncap
 nmax:ncap ≤ maxLen
 nnone:na=none → ns=[] ∧ ncap=0
 slim:ay cs ns
theorem Dk.below {w w':World} {ca:Option Addr} {ccap:Nat} {cs:List (List (Int × Int))} {na:Option Addr} {ncap:Nat} {ns:List Int} (h:Dk w ca ccap cs na ncap ns) (hb:Below w.heap.size w w'):Dk w' ca ccap cs na ncap ns:=⟨h.curves.below hb,h.cfit,h.cmax,h.nums.below hb,h.nfit,h.nmax,h.nnone,h.slim⟩
structure CE (w:World) (pa:Option Addr) (pcap:Nat) (ps:List Pk):Prop where
 pks:AO w pa ps
 cap:ps.length ≤ pcap
 max:pcap ≤ maxLen
 none_:pa=none → ps=[] ∧ pcap=0
theorem CE.below {w w':World} {pa:Option Addr} {pcap:Nat} {ps:List Pk} (h:CE w pa pcap ps) (hb:Below w.heap.size w w'):CE w' pa pcap ps:=⟨h.pks.below hb,h.cap,h.max,h.none_⟩
structure GL (w:World) (la:Option Addr) (lcap:Nat) (l:List Sn):Prop where
 sent:Gu w la l
 cap:l.length ≤ lcap
 max:lcap ≤ maxLen
 none_:la=none → l=[] ∧ lcap=0
theorem GL.below {w w':World} {la:Option Addr} {lcap:Nat} {l:List Sn} (h:GL w la lcap l) (hb:Below w.heap.size w w'):GL w' la lcap l:=⟨h.sent.below hb,h.cap,h.max,h.none_⟩
def Hl (c p:Int) (w:World) (e:Ending) (w':World):Prop:=∃ qa qcap la lcap E,e=.returned (.tuple #[.slice qa 0 qcap,.slice la 0 lcap,E]) ∧ AR w' E c p ∧ Below w.heap.size w w'
def NI (cs:List (List (Int × Int))) (k:Nat) (per:Int) (ns:List Int) (ps:List Pk) (w:World) (e:Ending) (w':World):Prop:=∃ qa qcap la lcap qs l,e=.returned (.tuple #[.slice qa qs.length qcap,.slice la l.length lcap,.nilIface]) ∧ CE w' qa qcap qs ∧ GL w' la lcap l ∧ CV (Af cs) k per ns ps qs l ∧ Below w.heap.size w w'
structure Xb:Prop where
 check:∀ (ca:Option Addr) (ccap:Nat) (cs:List (List (Int × Int))) (kb:ByteArray) (per:Int) (na:Option Addr) (ncap:Nat) (ns:List Int) (w:World) (ad:Nat → Addr) (c p:Int),AP w ad → Dk w ca ccap cs na ncap ns → DT cs (kindOf kb.toList) per ns c p →
  Calls Tryz.prog 82 #[.agg #[.slice ca cs.length ccap,.string kb,.int .i64 per,.slice na ns.length ncap]] w fun e w'=>∃ E,e=.returned E ∧ AR w' E c p ∧ Below w.heap.size w w'
 bad:∀ (ca:Option Addr) (ccap:Nat) (cs:List (List (Int × Int))) (kb:ByteArray) (per:Int) (na:Option Addr) (ncap:Nat) (ns:List Int) (pa:Option Addr) (pcap:Nat) (ps:List Pk) (w:World) (ad:Nat → Addr) (c p:Int),AP w ad → Dk w ca ccap cs na ncap ns → CE w pa pcap ps → JG cs (kindOf kb.toList) per ns ps c p → 0 < c →
  Calls Tryz.prog 81 #[.agg #[.slice ca cs.length ccap,.string kb,.int .i64 per,.slice na ns.length ncap],.slice pa ps.length pcap] w fun e w'=>Hl c p w e w'
 good:∀ (ca:Option Addr) (ccap:Nat) (cs:List (List (Int × Int))) (kb:ByteArray) (per:Int) (na:Option Addr) (ncap:Nat) (ns:List Int) (pa:Option Addr) (pcap:Nat) (ps:List Pk) (w:World) (ad:Nat → Addr),AP w ad → Dk w ca ccap cs na ncap ns → CE w pa pcap ps → FD cs (kindOf kb.toList) per ns → Aj ps → (∀ i,¬ Be (Af cs) ps i) →
  Calls Tryz.prog 81 #[.agg #[.slice ca cs.length ccap,.string kb,.int .i64 per,.slice na ns.length ncap],.slice pa ps.length pcap] w fun e w'=>NI cs (kindOf kb.toList) per ns ps w e w'
def Jw:List (List (Int × Int)):=List.replicate 8 []
theorem Ko:Af Jw=fun _=>[]:=by
 funext f
 cases h:Jw[f]? with
 | none=>simp [Af,List.getD,h]
 | some ls=>
  rw [Cf h]
  exact List.eq_of_mem_replicate (List.mem_of_getElem? h)
theorem UK (ps:List Pk) (i:Nat):¬ Be (Af Jw) ps i:=by
 rw [Ko]
 rintro ⟨p,s,-,h,-⟩
 exact h rfl
theorem X0 {k:Nat} {per:Int} {ns:List Int} {ps qs:List Pk} {l:List Sn} (ho:Aj ps) (h:CV (Af Jw) k per ns ps qs l):qs=ps ∧ CZ k per ps ns l:=by
 obtain ⟨a,L,h1,h2,rfl,h3⟩:=h
 rw [Ko] at h1
 obtain ⟨g1,g2,g3⟩:=WO ho
 have e:=(SI ho h1 g1 h2 g2).trans g3
 rw [e] at h3
 exact ⟨e,h3⟩
theorem RH (w':World):(Instr.makeSlice 49 (.int .i64 8) (.int .i64 8)).run Tryz.prog w'=.ok (.slice (some ⟨w'.heap.size,0,none⟩) 8 8) (w'.alloc (.cells (madeCells #[.slice none 0 0] 8) 62)):=by
 obtain ⟨i0,hi,hz0,hz1,hz2⟩:=info_parts Tryz.infoLines
 have:=run_make (P:=Tryz.prog) w' 49 62 i0 (.slice none 0 0) Tryz.underlying49 hi hz0 .i64 .i64 8 8 (by omega) (by omega) (by rw [hz2];omega) (by omega)
 simpa [hz1,Value.cells] using this
structure QG (w:World) (ca:Option Addr) (ccap:Nat) (cs:List (List (Int × Int))) (na:Option Addr) (ncap:Nat) (ns:List Int):Prop where
 curves:IB w ca cs
 cfit:cs.length ≤ ccap
 cmax:ccap ≤ maxLen
 nums:AV w na ns
 nfit:ns.length ≤ ncap
 nmax:ncap ≤ maxLen
 nnone:na=none → ns=[] ∧ ncap=0
theorem QG.below {w w':World} {ca:Option Addr} {ccap:Nat} {cs:List (List (Int × Int))} {na:Option Addr} {ncap:Nat} {ns:List Int} (h:QG w ca ccap cs na ncap ns) (hb:Below w.heap.size w w'):QG w' ca ccap cs na ncap ns:=⟨h.curves.below hb,h.cfit,h.cmax,h.nums.below hb,h.nfit,h.nmax,h.nnone⟩
end Go.Proofs.YtipdclphpkgceaaGreatDoor

namespace Go.Proofs.YtipdclphpkgceaaGreatDoor
open Go.ChangeShapes Go.WideShapes Go.ChangeAt Go.RowKit Go.Deep
section
variable {H:Type} {enc:TypeId × Value → H} {W:World} {fuel:Nat} {cs:List Value} {x:DataW H × List MemPlace}
theorem Tryz.cellsInts:Tryz.prog.cellsOf 32=1:=by kernel_rfl
theorem Tryz.cellsStr1:Tryz.prog.cellsOf 9=1:=by kernel_rfl
theorem V9 (h:DataW.trod enc Tryz.prog W 0 (fun _=>true) true fuel 32 cs=some x) :
  ∃ a cap ns,cs=[.slice a ns.length cap] ∧ AV W a ns ∧ ns.length ≤ cap ∧ cap ≤ maxLen ∧ (a=none → ns=[] ∧ cap=0):=by
 rcases open_ints Tryz.underlying32 Tryz.underlying3 Tryz.cellsInt h with ⟨rfl,_⟩ | ⟨x,len0,cap0,zs,rfl,_,hl,hm,hz,_,hcell,hwz⟩
 · exact ⟨none,0,[],rfl,.inl rfl,by simp,by simp [maxLen],fun _=>⟨rfl,rfl⟩⟩
 ·
  have hz':zs.length=cap0:=by simpa using hz
  refine ⟨some x,cap0,zs.take len0,by rw [List.length_take,hz',Nat.min_eq_left hl],?_,by rw [List.length_take];omega,hm,fun e=>by cases e⟩
  by_cases h0:len0=0
  · subst h0;exact .inl (by simp)
  ·
   obtain ⟨b,off,spot⟩:=x
   have hc0:=hcell 0 (by omega)
   have hspot:spot=none:=by simpa [Addr.add] using World.cell?_spot hc0
   subst hspot
   refine .inr ⟨b,off,rfl,by simpa [Addr.add] using Ck hc0,fun i y hi=>?_⟩
   rw [List.getElem?_take] at hi
   split at hi
   ·
    next hil=>
    have:=hcell i (by omega)
    rw [Addr.add_lit,List.getD,hi] at this
    exact this
   · cases hi
end
end Go.Proofs.YtipdclphpkgceaaGreatDoor

namespace Go.Proofs
open Go.Shelf
def Tryz.lays145_ren:Go.Shelf.Ren:=⟨fun | 145=>39 | 220=>72 | 219=>97 | 217=>124 | 225=>125 | 224=>126 | 267=>127 | 266=>151 | 314=>152 | n=>n,fun | 9=>9 | 4=>4 | 59=>95 | 3=>3 | 5=>5 | 46=>200 | 146=>217 | 51=>216 | n=>n,fun | 1=>10 | n=>n⟩
theorem Tryz.lays145:Go.Proofs.Lays.n145 Tryz.prog Tryz.lays145_ren:={
 mixed:=by kernel_rfl
 f145:=Tryz.func39.trans (congrArg some (by kernel_rfl))
 f217:=Tryz.func124.trans (congrArg some (by kernel_rfl))
 f219:=Tryz.func97.trans (congrArg some (by kernel_rfl))
 f220:=Tryz.func72.trans (congrArg some (by kernel_rfl))
 f224:=Tryz.func126.trans (congrArg some (by kernel_rfl))
 f225:=Tryz.func125.trans (congrArg some (by kernel_rfl))
 f266:=Tryz.func151.trans (congrArg some (by kernel_rfl))
 f267:=Tryz.func127.trans (congrArg some (by kernel_rfl))
 f314:=Tryz.func152.trans (congrArg some (by kernel_rfl))
 t3:=Tryz.underlying3
 a3:=Tryz.isAgg3
 z3:=Tryz.sizeOf3
 v3:=Tryz.zeroValue3
 t4:=Tryz.underlying4
 a4:=Tryz.isAgg4
 z4:=Tryz.sizeOf4
 v4:=Tryz.zeroValue4
 t5:=Tryz.underlying5
 a5:=Tryz.isAgg5
 z5:=Tryz.sizeOf5
 v5:=Tryz.zeroValue5
 t9:=Tryz.underlying9
 a9:=Tryz.isAgg9
 z9:=Tryz.sizeOf9
 v9:=Tryz.zeroValue9
 t46:=Tryz.underlying200
 a46:=Tryz.isAgg200
 z46:=Tryz.sizeOf200
 v46:=Tryz.zeroValue200
 t51:=Tryz.underlying216
 a51:=Tryz.isAgg216
 z51:=Tryz.sizeOf216
 v51:=Tryz.zeroValue216
 t59:=Tryz.underlying95
 a59:=Tryz.isAgg95
 z59:=Tryz.sizeOf95
 v59:=Tryz.zeroValue95
 t146:=Tryz.underlying217
 a146:=Tryz.isAgg217
 z146:=Tryz.sizeOf217
 v146:=Tryz.zeroValue217
 g1:=by kernel_rfl }
def Tryz.lays146_ren:Go.Shelf.Ren:=⟨fun | 146=>41 | 221=>78 | 268=>107 | 138=>108 | 143=>109 | 195=>131 | 197=>132 | 218=>133 | 219=>97 | 260=>156 | 217=>124 | 225=>125 | 224=>126 | 267=>127 | 266=>151 | 314=>152 | n=>n,fun | 9=>9 | 31=>22 | 3=>3 | 4=>4 | 0=>0 | 105=>204 | 21=>21 | 5=>5 | 46=>200 | 119=>248 | 139=>251 | 138=>250 | 146=>217 | 51=>216 | n=>n,fun | 1=>10 | 3=>11 | 4=>12 | n=>n⟩
theorem Tryz.lays146:Go.Proofs.Lays.n146 Tryz.prog Tryz.lays146_ren:={
 mixed:=by kernel_rfl
 f138:=Tryz.func108.trans (congrArg some (by kernel_rfl))
 f143:=Tryz.func109.trans (congrArg some (by kernel_rfl))
 f146:=Tryz.func41.trans (congrArg some (by kernel_rfl))
 f195:=Tryz.func131.trans (congrArg some (by kernel_rfl))
 f197:=Tryz.func132.trans (congrArg some (by kernel_rfl))
 f217:=Tryz.func124.trans (congrArg some (by kernel_rfl))
 f218:=Tryz.func133.trans (congrArg some (by kernel_rfl))
 f219:=Tryz.func97.trans (congrArg some (by kernel_rfl))
 f221:=Tryz.func78.trans (congrArg some (by kernel_rfl))
 f224:=Tryz.func126.trans (congrArg some (by kernel_rfl))
 f225:=Tryz.func125.trans (congrArg some (by kernel_rfl))
 f260:=Tryz.func156.trans (congrArg some (by kernel_rfl))
 f266:=Tryz.func151.trans (congrArg some (by kernel_rfl))
 f267:=Tryz.func127.trans (congrArg some (by kernel_rfl))
 f268:=Tryz.func107.trans (congrArg some (by kernel_rfl))
 f314:=Tryz.func152.trans (congrArg some (by kernel_rfl))
 t0:=Tryz.underlying0
 a0:=Tryz.isAgg0
 z0:=Tryz.sizeOf0
 v0:=Tryz.zeroValue0
 t3:=Tryz.underlying3
 a3:=Tryz.isAgg3
 z3:=Tryz.sizeOf3
 v3:=Tryz.zeroValue3
 t4:=Tryz.underlying4
 a4:=Tryz.isAgg4
 z4:=Tryz.sizeOf4
 v4:=Tryz.zeroValue4
 t5:=Tryz.underlying5
 a5:=Tryz.isAgg5
 z5:=Tryz.sizeOf5
 v5:=Tryz.zeroValue5
 t9:=Tryz.underlying9
 a9:=Tryz.isAgg9
 z9:=Tryz.sizeOf9
 v9:=Tryz.zeroValue9
 t21:=Tryz.underlying21
 a21:=Tryz.isAgg21
 z21:=Tryz.sizeOf21
 v21:=Tryz.zeroValue21
 t31:=Tryz.underlying22
 a31:=Tryz.isAgg22
 z31:=Tryz.sizeOf22
 v31:=Tryz.zeroValue22
 t46:=Tryz.underlying200
 a46:=Tryz.isAgg200
 z46:=Tryz.sizeOf200
 v46:=Tryz.zeroValue200
 t51:=Tryz.underlying216
 a51:=Tryz.isAgg216
 z51:=Tryz.sizeOf216
 v51:=Tryz.zeroValue216
 t105:=Tryz.underlying204
 a105:=Tryz.isAgg204
 z105:=Tryz.sizeOf204
 v105:=Tryz.zeroValue204
 t119:=Tryz.underlying248
 a119:=Tryz.isAgg248
 z119:=Tryz.sizeOf248
 t138:=Tryz.underlying250
 a138:=Tryz.isAgg250
 z138:=Tryz.sizeOf250
 v138:=Tryz.zeroValue250
 t139:=Tryz.underlying251
 a139:=Tryz.isAgg251
 z139:=Tryz.sizeOf251
 v139:=Tryz.zeroValue251
 t146:=Tryz.underlying217
 a146:=Tryz.isAgg217
 z146:=Tryz.sizeOf217
 v146:=Tryz.zeroValue217
 g1:=by kernel_rfl
 g3:=by kernel_rfl
 g4:=by kernel_rfl }
def Tryz.lays156_ren:Go.Shelf.Ren:=⟨fun | 156=>80 | 165=>111 | 166=>112 | 169=>113 | 240=>135 | 241=>136 | 276=>161 | 277=>162 | n=>n,fun | 31=>22 | 9=>9 | 3=>3 | 4=>4 | 0=>0 | 20=>20 | 72=>183 | 76=>90 | 70=>181 | 37=>165 | 75=>25 | 127=>207 | 164=>106 | 5=>5 | 80=>64 | n=>n,fun | n=>n⟩
theorem Tryz.lays156:Go.Proofs.Lays.n156 Tryz.prog Tryz.lays156_ren:={
 mixed:=by kernel_rfl
 f156:=Tryz.func80.trans (congrArg some (by kernel_rfl))
 f165:=Tryz.func111.trans (congrArg some (by kernel_rfl))
 f166:=Tryz.func112.trans (congrArg some (by kernel_rfl))
 f169:=Tryz.func113.trans (congrArg some (by kernel_rfl))
 f240:=Tryz.func135.trans (congrArg some (by kernel_rfl))
 f241:=Tryz.func136.trans (congrArg some (by kernel_rfl))
 f276:=Tryz.func161.trans (congrArg some (by kernel_rfl))
 f277:=Tryz.func162.trans (congrArg some (by kernel_rfl))
 t0:=Tryz.underlying0
 a0:=Tryz.isAgg0
 z0:=Tryz.sizeOf0
 v0:=Tryz.zeroValue0
 t3:=Tryz.underlying3
 a3:=Tryz.isAgg3
 z3:=Tryz.sizeOf3
 v3:=Tryz.zeroValue3
 t4:=Tryz.underlying4
 a4:=Tryz.isAgg4
 z4:=Tryz.sizeOf4
 v4:=Tryz.zeroValue4
 t9:=Tryz.underlying9
 a9:=Tryz.isAgg9
 z9:=Tryz.sizeOf9
 v9:=Tryz.zeroValue9
 t20:=Tryz.underlying20
 a20:=Tryz.isAgg20
 z20:=Tryz.sizeOf20
 v20:=Tryz.zeroValue20
 t31:=Tryz.underlying22
 a31:=Tryz.isAgg22
 z31:=Tryz.sizeOf22
 v31:=Tryz.zeroValue22
 t37:=Tryz.underlying165
 a37:=Tryz.isAgg165
 z37:=Tryz.sizeOf165
 v37:=Tryz.zeroValue165
 t70:=Tryz.underlying181
 a70:=Tryz.isAgg181
 z70:=Tryz.sizeOf181
 v70:=Tryz.zeroValue181
 t72:=Tryz.underlying183
 a72:=Tryz.isAgg183
 z72:=Tryz.sizeOf183
 v72:=Tryz.zeroValue183
 t75:=Tryz.underlying25
 a75:=Tryz.isAgg25
 z75:=Tryz.sizeOf25
 v75:=Tryz.zeroValue25
 t76:=Tryz.underlying90
 a76:=Tryz.isAgg90
 z76:=Tryz.sizeOf90
 v76:=Tryz.zeroValue90
 t127:=Tryz.underlying207
 a127:=Tryz.isAgg207
 z127:=Tryz.sizeOf207
 v127:=Tryz.zeroValue207
 t164:=Tryz.underlying106
 a164:=Tryz.isAgg106
 z164:=Tryz.sizeOf106
 v164:=Tryz.zeroValue106 }
def Tryz.laysM171_ren:Go.Shelf.Ren:=⟨fun | 171=>79 | 243=>110 | 246=>134 | 283=>157 | 284=>158 | 285=>159 | 286=>160 | 129=>186 | 317=>185 | 318=>187 | 319=>188 | 320=>189 | 337=>215 | 338=>216 | n=>n,fun | 3=>3 | 9=>9 | 2=>2 | 4=>4 | 171=>221 | 0=>0 | 53=>222 | 37=>165 | 5=>5 | 173=>225 | 212=>253 | 51=>216 | 20=>20 | 213=>254 | 46=>200 | 232=>287 | 233=>288 | n=>n,fun | 17=>13 | 18=>14 | 19=>15 | n=>n⟩
theorem Tryz.laysM171:Go.Proofs.LaysM.n171 Tryz.prog Tryz.laysM171_ren:={
 mixed:=by kernel_rfl
 f129:=Tryz.func186.trans (congrArg some (by kernel_rfl))
 f171:=Tryz.func79.trans (congrArg some (by kernel_rfl))
 f243:=Tryz.func110.trans (congrArg some (by kernel_rfl))
 f246:=Tryz.func134.trans (congrArg some (by kernel_rfl))
 f283:=Tryz.func157.trans (congrArg some (by kernel_rfl))
 f284:=Tryz.func158.trans (congrArg some (by kernel_rfl))
 f285:=Tryz.func159.trans (congrArg some (by kernel_rfl))
 f286:=Tryz.func160.trans (congrArg some (by kernel_rfl))
 f317:=Tryz.func185.trans (congrArg some (by kernel_rfl))
 f318:=Tryz.func187.trans (congrArg some (by kernel_rfl))
 f319:=Tryz.func188.trans (congrArg some (by kernel_rfl))
 f320:=Tryz.func189.trans (congrArg some (by kernel_rfl))
 f337:=Tryz.func215.trans (congrArg some (by kernel_rfl))
 f338:=Tryz.func216.trans (congrArg some (by kernel_rfl))
 t0:=Tryz.underlying0
 a0:=Tryz.isAgg0
 z0:=Tryz.sizeOf0
 v0:=Tryz.zeroValue0
 t2:=Tryz.underlying2
 a2:=Tryz.isAgg2
 z2:=Tryz.sizeOf2
 v2:=Tryz.zeroValue2
 t3:=Tryz.underlying3
 a3:=Tryz.isAgg3
 z3:=Tryz.sizeOf3
 v3:=Tryz.zeroValue3
 t4:=Tryz.underlying4
 a4:=Tryz.isAgg4
 z4:=Tryz.sizeOf4
 v4:=Tryz.zeroValue4
 t5:=Tryz.underlying5
 a5:=Tryz.isAgg5
 z5:=Tryz.sizeOf5
 v5:=Tryz.zeroValue5
 t9:=Tryz.underlying9
 a9:=Tryz.isAgg9
 z9:=Tryz.sizeOf9
 v9:=Tryz.zeroValue9
 t20:=Tryz.underlying20
 a20:=Tryz.isAgg20
 z20:=Tryz.sizeOf20
 v20:=Tryz.zeroValue20
 t37:=Tryz.underlying165
 a37:=Tryz.isAgg165
 z37:=Tryz.sizeOf165
 v37:=Tryz.zeroValue165
 t46:=Tryz.underlying200
 a46:=Tryz.isAgg200
 z46:=Tryz.sizeOf200
 v46:=Tryz.zeroValue200
 t51:=Tryz.underlying216
 a51:=Tryz.isAgg216
 z51:=Tryz.sizeOf216
 v51:=Tryz.zeroValue216
 t53:=Tryz.underlying222
 a53:=Tryz.isAgg222
 z53:=Tryz.sizeOf222
 v53:=Tryz.zeroValue222
 t171:=Tryz.underlying221
 a171:=Tryz.isAgg221
 z171:=Tryz.sizeOf221
 v171:=Tryz.zeroValue221
 t173:=Tryz.underlying225
 a173:=Tryz.isAgg225
 z173:=Tryz.sizeOf225
 v173:=Tryz.zeroValue225
 t212:=Tryz.underlying253
 a212:=Tryz.isAgg253
 z212:=Tryz.sizeOf253
 v212:=Tryz.zeroValue253
 t213:=Tryz.underlying254
 a213:=Tryz.isAgg254
 z213:=Tryz.sizeOf254
 t232:=Tryz.underlying287
 a232:=Tryz.isAgg287
 z232:=Tryz.sizeOf287
 v232:=Tryz.zeroValue287
 t233:=Tryz.underlying288
 a233:=Tryz.isAgg288
 z233:=Tryz.sizeOf288
 v233:=Tryz.zeroValue288
 g17:=by kernel_rfl
 g18:=by kernel_rfl
 g19:=by kernel_rfl
 i0:=by kernel_rfl
 i2:=by kernel_rfl
 i3:=by kernel_rfl
 i4:=by kernel_rfl
 i5:=by kernel_rfl
 i9:=by kernel_rfl
 i20:=by kernel_rfl
 i37:=by kernel_rfl
 i46:=by kernel_rfl
 i51:=by kernel_rfl
 i53:=by kernel_rfl
 i171:=by kernel_rfl
 i173:=by kernel_rfl
 i212:=by kernel_rfl
 i232:=by kernel_rfl
 i233:=by kernel_rfl
 m17:=by kernel_rfl
 m18:=by kernel_rfl
 m19:=by kernel_rfl }
def Tryz.lays212_ren:Go.Shelf.Ren:=⟨fun | 212=>153 | 263=>183 | 264=>184 | n=>n,fun | 46=>200 | 51=>216 | 146=>217 | 53=>222 | 148=>246 | n=>n,fun | n=>n⟩
theorem Tryz.lays212:Go.Proofs.Lays.n212 Tryz.prog Tryz.lays212_ren:={
 mixed:=by kernel_rfl
 f212:=Tryz.func153.trans (congrArg some (by kernel_rfl))
 f263:=Tryz.func183.trans (congrArg some (by kernel_rfl))
 f264:=Tryz.func184.trans (congrArg some (by kernel_rfl))
 t46:=Tryz.underlying200
 a46:=Tryz.isAgg200
 z46:=Tryz.sizeOf200
 v46:=Tryz.zeroValue200
 t51:=Tryz.underlying216
 a51:=Tryz.isAgg216
 z51:=Tryz.sizeOf216
 v51:=Tryz.zeroValue216
 t53:=Tryz.underlying222
 a53:=Tryz.isAgg222
 z53:=Tryz.sizeOf222
 v53:=Tryz.zeroValue222
 t146:=Tryz.underlying217
 a146:=Tryz.isAgg217
 z146:=Tryz.sizeOf217
 v146:=Tryz.zeroValue217
 t148:=Tryz.underlying246
 a148:=Tryz.isAgg246
 z148:=Tryz.sizeOf246
 v148:=Tryz.zeroValue246 }
def Tryz.lays113_ren:Go.Shelf.Ren:=⟨fun | 113=>85 | n=>n,fun | 28=>32 | 3=>3 | 4=>4 | 9=>9 | 20=>20 | 0=>0 | n=>n,fun | n=>n⟩
theorem Tryz.lays113:Go.Proofs.Lays.n113 Tryz.prog Tryz.lays113_ren:={
 mixed:=by kernel_rfl
 f113:=Tryz.func85.trans (congrArg some (by kernel_rfl))
 t0:=Tryz.underlying0
 a0:=Tryz.isAgg0
 z0:=Tryz.sizeOf0
 v0:=Tryz.zeroValue0
 t3:=Tryz.underlying3
 a3:=Tryz.isAgg3
 z3:=Tryz.sizeOf3
 v3:=Tryz.zeroValue3
 t4:=Tryz.underlying4
 a4:=Tryz.isAgg4
 z4:=Tryz.sizeOf4
 v4:=Tryz.zeroValue4
 t9:=Tryz.underlying9
 a9:=Tryz.isAgg9
 z9:=Tryz.sizeOf9
 v9:=Tryz.zeroValue9
 t20:=Tryz.underlying20
 a20:=Tryz.isAgg20
 z20:=Tryz.sizeOf20
 v20:=Tryz.zeroValue20
 t28:=Tryz.underlying32
 a28:=Tryz.isAgg32
 z28:=Tryz.sizeOf32
 v28:=Tryz.zeroValue32 }
theorem Tryz.Builder_Extra_156:Builder.Extra Tryz.prog Tryz.lays156_ren:={
 sizeBuilder:=by kernel_rfl
 liesBuilder:=by kernel_rfl
 t5:=Tryz.underlying5
 a5:=Tryz.isAgg5
 z5:=Tryz.sizeOf5
 v5:=Tryz.zeroValue5
 infoByte:=by kernel_rfl
 cellsByte:=by kernel_rfl
 sizeByte:=by kernel_rfl
 neB5:=by decide }
end Go.Proofs

namespace Go.Proofs.YtipdclphpkgceaaGreatDoor
open Go.RowKit Go.Shelf
def M7 (w0:World):Prop:=∀ W,Below w0.heap.size w0 W → ∀ n:Int,-9223372036854775808 ≤ n → n ≤ 9223372036854775807 →
 Calls Tryz.prog 79 #[.int .i64 n] W fun e w'=>e=.returned (.string ⟨(Go.Lib.itoa n).toArray⟩) ∧ Below W.heap.size W w'
structure Env (w:World) (ad:Nat → Addr):Prop where
 errs:AP w ad
 maxl:∃ m,w.cell? ⟨10,0,none⟩=some (.int .i64 m)
 itoa:M7 w
theorem Env.below {w W:World} {ad:Nat → Addr} (h:Env w ad) (hb:Below w.heap.size w W):Env W ad:=
 ⟨h.errs.below hb,by obtain ⟨m,hm⟩:=h.maxl;exact ⟨m,cell_later hb hm⟩,fun V hV=>h.itoa V (hb.trans (hV.mono hb.size))⟩
abbrev Ah (x:List UInt8):Value:=.string ⟨x.toArray⟩
theorem aF (x:List UInt8) (w:World) (ad:Nat → Addr) (he:Env w ad) (hs:x.length ≤ 1000) :
  Calls Tryz.prog 39 #[Ah x,.string ⟨#[32]⟩] w fun e w'=>e=.returned (.tuple #[Ah (Go.Lib.cut x [32]).1,Ah (Go.Lib.cut x [32]).2.1,.bool (Go.Lib.cut x [32]).2.2]) ∧ ∃ n,w'=w.drewN n:=by
 obtain ⟨m,hm⟩:=he.maxl
 exact Any.strings_Cut Tryz.lays145 ⟨x.toArray⟩ ⟨#[32]⟩ m w (by show x.toArray.size < _;simp;omega) hm
theorem X5 (x:List UInt8) (w:World) (ad:Nat → Addr) (he:Env w ad) (hs:x.length ≤ 1000) :
  Calls Tryz.prog 41 #[Ah x,.string ⟨#[32]⟩] w fun e w'=>e=.returned (.slice (some ⟨w.heap.size,0,none⟩) (Go.Lib.split x [32]).length (Go.Lib.split x [32]).length) ∧ Bp w' (some ⟨w.heap.size,0,none⟩) (Go.Lib.split x [32]) ∧ Below w.heap.size w w':=by
 obtain ⟨m,hm⟩:=he.maxl
 refine (Any.strings_Split Tryz.lays146 (by kernel_rfl) ⟨x.toArray⟩ ⟨#[32]⟩ m w (by show x.toArray.size < _;simp;omega) hm (by decide)).mono ?_
 rintro e w' ⟨rfl,rfl⟩
 have hd:=Go.Lib.splitB_data ⟨#[32]⟩ 0 (Go.Lib.countB ⟨x.toArray⟩ ⟨#[32]⟩) ⟨x.toArray⟩
 have hl:=Go.Lib.splitB_all ⟨#[32]⟩ (by decide) 0 _ ⟨x.toArray⟩ rfl
 have e1:(Go.Lib.splitB ⟨#[32]⟩ 0 (Go.Lib.countB ⟨x.toArray⟩ ⟨#[32]⟩) ⟨x.toArray⟩).map (·.data.toList)=Go.Lib.split x [32]:=hd
 have e2:(Go.Lib.split x [32]).length=Go.Lib.countB ⟨x.toArray⟩ ⟨#[32]⟩ + 1:=by rw [← e1,List.length_map,hl]
 refine ⟨by rw [e2],.inr ⟨w.heap.size,0,rfl,by simp,fun i y hi=>?_⟩,(Below.refl _ _).alloc (Nat.le_refl _) _⟩
 rw [World.cell?_alloc_at _ _ _ _ rfl,Nat.zero_add]
 rw [← e1,List.getElem?_map] at hi
 obtain ⟨s,h1,h2⟩:=Option.map_eq_some_iff.1 hi
 rw [List.getElem?_toArray,List.getElem?_map,h1,← h2]
 rfl
theorem ZV (b o c:Nat) (xs:List (List UInt8)) (w:World) (hc:∀ (i:Nat) x,xs[i]? = some x → w.cell? ⟨b,o+i,none⟩=some (Ah x)) (hb:b < w.heap.size) (hn:xs.length ≤ 1000) (hcap:xs.length ≤ c) (hlen:(Go.Lib.join xs [32]).length ≤ 140737488355328) :
  Calls Tryz.prog 80 #[.slice (some ⟨b,o,none⟩) xs.length c,.string ⟨#[32]⟩] w fun e w'=>e=.returned (Ah (Go.Lib.join xs [32])) ∧ Below w.heap.size w w':=by
 have e:(xs.map fun x=>(⟨x.toArray⟩:ByteArray)).map (·.data.toList)=xs:=by rw [List.map_map];exact List.map_id xs
 have:=Any.strings_Join Tryz.lays156 Tryz.Builder_Extra_156 b o c (xs.map fun x=>⟨x.toArray⟩) ⟨#[32]⟩ w (fun j x hx=>by
  rw [List.getElem?_map] at hx
  obtain ⟨y,h1,h2⟩:=Option.map_eq_some_iff.1 hx
  rw [hc j y h1,← h2]) hb (by simp;omega) (by simpa using hcap) (by rw [e];exact hlen)
 rw [e,List.length_map] at this
 exact this
theorem ak (b:Nat) (zs:List Int) (w:World) (h1:0 < zs.length) (hn:zs.length ≤ 1000) (hc:∀ (i:Nat) z,zs[i]? = some z → w.cell? ⟨b,i,none⟩=some (.int .i64 z)) :
  Calls Tryz.prog 85 #[.slice (some ⟨b,0,none⟩) zs.length zs.length] w fun e w'=>e=.returned (.int .i64 (Go.Lib.maxOf zs)) ∧ w'=w:=by
 have:=Any.slices_Max_int Tryz.lays113 b 0 zs.length zs.length zs w h1 (Nat.le_refl _) (by omega) (fun j hj=>by
  rw [Nat.zero_add,hc j zs[j] (List.getElem?_eq_getElem hj)]
  simp [hj])
 rw [List.take_length] at this
 exact this
end Go.Proofs.YtipdclphpkgceaaGreatDoor

namespace Go.Proofs
open Go.Shelf
def Tryz.sortL_ren:Go.Shelf.Ren:=⟨fun | 6=>212 | 15=>227 | 14=>226 | 28=>240 | 29=>186 | 20=>232 | 21=>233 | 22=>234 | 23=>235 | 24=>236 | 25=>237 | 26=>238 | 27=>239 | 46=>243 | 47=>244 | 48=>245 | 49=>246 | 50=>247 | 57=>248 | n=>n,fun | 22=>62 | 24=>83 | 25=>279 | 3=>3 | 39=>200 | 0=>0 | 53=>216 | 55=>222 | 4=>4 | 46=>298 | 45=>297 | 50=>294 | 5=>5 | 9=>9 | 66=>304 | 70=>308 | 76=>310 | 77=>46 | n=>n,fun | n=>n⟩
theorem Tryz.sortL:Go.Proofs.SlLaysF0.n6 Tryz.prog Tryz.sortL_ren:={
 mixed:=by kernel_rfl
 f6:=⟨Tryz.f212.name,by decide,Tryz.func212.trans (congrArg some (by kernel_rfl))⟩
 f14:=⟨Tryz.f226.name,by decide,Tryz.func226.trans (congrArg some (by kernel_rfl))⟩
 f15:=Tryz.func227.trans (congrArg some (by kernel_rfl))
 f20:=⟨Tryz.f232.name,by decide,Tryz.func232.trans (congrArg some (by kernel_rfl))⟩
 f21:=⟨Tryz.f233.name,by decide,Tryz.func233.trans (congrArg some (by kernel_rfl))⟩
 f22:=⟨Tryz.f234.name,by decide,Tryz.func234.trans (congrArg some (by kernel_rfl))⟩
 f23:=⟨Tryz.f235.name,by decide,Tryz.func235.trans (congrArg some (by kernel_rfl))⟩
 f24:=⟨Tryz.f236.name,by decide,Tryz.func236.trans (congrArg some (by kernel_rfl))⟩
 f25:=⟨Tryz.f237.name,by decide,Tryz.func237.trans (congrArg some (by kernel_rfl))⟩
 f26:=⟨Tryz.f238.name,by decide,Tryz.func238.trans (congrArg some (by kernel_rfl))⟩
 f27:=⟨Tryz.f239.name,by decide,Tryz.func239.trans (congrArg some (by kernel_rfl))⟩
 f28:=Tryz.func240.trans (congrArg some (by kernel_rfl))
 f29:=Tryz.func186.trans (congrArg some (by kernel_rfl))
 f46:=⟨Tryz.f243.name,by decide,Tryz.func243.trans (congrArg some (by kernel_rfl))⟩
 f47:=Tryz.func244.trans (congrArg some (by kernel_rfl))
 f48:=Tryz.func245.trans (congrArg some (by kernel_rfl))
 f49:=⟨Tryz.f246.name,by decide,Tryz.func246.trans (congrArg some (by kernel_rfl))⟩
 f50:=⟨Tryz.f247.name,by decide,Tryz.func247.trans (congrArg some (by kernel_rfl))⟩
 f57:=⟨Tryz.f248.name,by decide,Tryz.func248.trans (congrArg some (by kernel_rfl))⟩
 t0:=Tryz.underlying0
 a0:=Tryz.isAgg0
 z0:=Tryz.sizeOf0
 v0:=Tryz.zeroValue0
 t3:=Tryz.underlying3
 a3:=Tryz.isAgg3
 z3:=Tryz.sizeOf3
 v3:=Tryz.zeroValue3
 t4:=Tryz.underlying4
 a4:=Tryz.isAgg4
 z4:=Tryz.sizeOf4
 v4:=Tryz.zeroValue4
 t5:=Tryz.underlying5
 a5:=Tryz.isAgg5
 z5:=Tryz.sizeOf5
 v5:=Tryz.zeroValue5
 t9:=Tryz.underlying9
 a9:=Tryz.isAgg9
 z9:=Tryz.sizeOf9
 v9:=Tryz.zeroValue9
 t22:=Tryz.underlying62
 a22:=Tryz.isAgg62
 z22:=Tryz.sizeOf62
 v22:=Tryz.zeroValue62
 t25:=Tryz.underlying279
 a25:=Tryz.isAgg279
 z25:=Tryz.sizeOf279
 v25:=Tryz.zeroValue279
 t39:=Tryz.underlying200
 a39:=Tryz.isAgg200
 z39:=Tryz.sizeOf200
 v39:=Tryz.zeroValue200
 t45:=Tryz.underlying297
 a45:=Tryz.isAgg297
 z45:=Tryz.sizeOf297
 v45:=Tryz.zeroValue297
 t46:=Tryz.underlying298
 a46:=Tryz.isAgg298
 z46:=Tryz.sizeOf298
 v46:=Tryz.zeroValue298
 t50:=Tryz.underlying294
 a50:=Tryz.isAgg294
 z50:=Tryz.sizeOf294
 v50:=Tryz.zeroValue294
 t53:=Tryz.underlying216
 a53:=Tryz.isAgg216
 z53:=Tryz.sizeOf216
 v53:=Tryz.zeroValue216
 t55:=Tryz.underlying222
 a55:=Tryz.isAgg222
 z55:=Tryz.sizeOf222
 v55:=Tryz.zeroValue222
 t66:=Tryz.underlying304
 a66:=Tryz.isAgg304
 z66:=Tryz.sizeOf304
 v66:=Tryz.zeroValue304
 t70:=Tryz.underlying308
 a70:=Tryz.isAgg308
 z70:=Tryz.sizeOf308
 v70:=Tryz.zeroValue308
 t76:=Tryz.underlying310
 a76:=Tryz.isAgg310
 z76:=Tryz.sizeOf310
 v76:=Tryz.zeroValue310
 t77:=Tryz.underlying46
 a77:=Tryz.isAgg46
 z77:=Tryz.sizeOf46
 v77:=Tryz.zeroValue46 }
end Go.Proofs
