/- Own facts, put together: no statement of its own. -/
import Derived.Test.YtipdclphpkgceaaGreatDoorA22
import Derived.Test.YtipdclphpkgceaaGreatDoorA12
import Derived.Test.YtipdclphpkgceaaGreatDoorA05
import Derived.Deep.RegionHeld3
import Derived.Deep.DeepCutAuto
import Derived.Deep.LoopGhost
import Derived.Deep.AppendLies
import Derived.Laws.StructEq
import Derived.Deep.CutRange
import Derived.BigQuiet
import Derived.Test.YtipdclphpkgceaaGreatDoorA06
import Derived.Test.YtipdclphpkgceaaGreatDoorA07
import Derived.Test.YtipdclphpkgceaaGreatDoorA01
import Derived.Test.YtipdclphpkgceaaGreatDoorA10
import Derived.Test.YtipdclphpkgceaaGreatDoorA09
import Derived.Test.YtipdclphpkgceaaGreatDoorA11
import Derived.Test.YtipdclphpkgceaaGreatDoorA24
import Derived.Test.YtipdclphpkgceaaGreatDoorA25
import Derived.Test.YtipdclphpkgceaaGreatDoorA23
import Derived.Test.YtipdclphpkgceaaGreatDoorA14
import Derived.Maps.AppendAt
set_option maxHeartbeats 2000000
set_option maxRecDepth 100000

namespace Go.Proofs.YtipdclphpkgceaaGreatDoor
open Go.RowKit
structure EU (w:World) (g n:Nat) (f:Nat → Int):Prop where
 cell:∀ i,i < n → w.cell? ⟨g,i,none⟩=some (.int .i64 (f i))
 frozen:∀ i,w.frozen? ⟨g,i,none⟩=false
 lt:g < w.heap.size
section
variable {w w':World} {g n:Nat} {f:Nat → Int}
theorem V7 (w:World) (n:Nat) (t:TypeId):EU (w.alloc (.cells (madeCells #[.int .i64 0] n) t)) w.heap.size n (fun _=>0):=by
 refine ⟨fun i hi=>?_,fun i=>World.frozen?_alloc_new w _ _ i,by simp⟩
 rw [World.cell?_alloc_at _ _ _ _ rfl]
 exact Km _ _ _ hi
theorem EU.of_block (h:EU w g n f) (hb:w'.heap[g]? = w.heap[g]?) (hs:w.heap.size ≤ w'.heap.size):EU w' g n f:=
 ⟨fun i hi=>(World.cell?_of_block (a:=⟨g,i,none⟩) hb).trans (h.cell i hi),fun i=>(World.frozen?_of_block (a:=⟨g,i,none⟩) hb).trans (h.frozen i),Nat.lt_of_lt_of_le h.lt hs⟩
theorem EU.but {S:Nat → Prop} (h:EU w g n f) (hb:But S w w') (hs:¬ S g):EU w' g n f:=h.of_block (hb.block g h.lt hs) hb.size
theorem EU.put (h:EU w g n f) {k:Nat} (hk:k < n) (x:Int):EU (w.setCell ⟨g,k,none⟩ (.int .i64 x)) g n (Au f k x):=by
 refine ⟨fun i hi=>?_,fun i=>by rw [World.frozen?_setCell];exact h.frozen i,by simp [World.setCell];exact h.lt⟩
 by_cases e:k=i
 ·
  subst e
  rw [World.cell?_setCell_same' _ _ _ (by rw [h.cell k hk];rfl),Aq]
 · rw [World.cell?_setCell_other _ _ _ _ (by intro e';cases e';exact e rfl),h.cell i hi,Al _ _ (fun e'=>e e'.symm)]
end
structure CJ (w:World) (g:Nat) (pv qv gv:Value) (gm:Nat) (cur:Int) (rv:Value):Prop where
 c0:w.cell? ⟨g,0,none⟩=some pv
 c1:w.cell? ⟨g,1,none⟩=some qv
 c2:w.cell? ⟨g,2,none⟩=some gv
 c3:w.cell? ⟨g,3,none⟩=some (.map (some gm))
 c4:w.cell? ⟨g,4,none⟩=some (.int .i64 cur)
 c5:w.cell? ⟨g,5,none⟩=some rv
 free:∀ i,w.frozen? ⟨g,i,none⟩=false
section
variable {w w':World} {g gm:Nat} {pv qv gv rv:Value} {cur:Int}
theorem CJ.lt (h:CJ w g pv qv gv gm cur rv):g < w.heap.size:=Ck h.c0
theorem CJ.but {S:Nat → Prop} (h:CJ w g pv qv gv gm cur rv) (hb:But S w w') (hs:¬ S g):CJ w' g pv qv gv gm cur rv:=by
 have e:∀ i,w'.cell? ⟨g,i,none⟩=w.cell? ⟨g,i,none⟩:=fun i=>hb.cell (p:=⟨g,i,none⟩) h.lt hs
 exact ⟨by rw [e];exact h.c0,by rw [e];exact h.c1,by rw [e];exact h.c2,by rw [e];exact h.c3,by rw [e];exact h.c4,by rw [e];exact h.c5,fun i=>by rw [hb.frozen (p:=⟨g,i,none⟩) h.lt hs];exact h.free i⟩
theorem OJ (w:World) (g i j:Nat) (v:Value) (h:i ≠ j):(w.setCell ⟨g,i,none⟩ v).cell? ⟨g,j,none⟩=w.cell? ⟨g,j,none⟩:=
 World.cell?_setCell_other _ _ _ _ (fun e=>h (by injection e))
theorem CJ.setV (h:CJ w g pv qv gv gm cur rv) (x:Int):CJ (w.setCell ⟨g,4,none⟩ (.int .i64 x)) g pv qv gv gm x rv:=
 ⟨by rw [OJ _ _ _ _ _ (by omega)];exact h.c0,by rw [OJ _ _ _ _ _ (by omega)];exact h.c1,by rw [OJ _ _ _ _ _ (by omega)];exact h.c2,by rw [OJ _ _ _ _ _ (by omega)];exact h.c3,World.cell?_setCell_same _ _ _ h.c4,by rw [OJ _ _ _ _ _ (by omega)];exact h.c5,fun i=>by rw [World.frozen?_setCell];exact h.free i⟩
theorem CJ.setR (h:CJ w g pv qv gv gm cur rv) (v:Value):CJ (w.setCell ⟨g,5,none⟩ v) g pv qv gv gm cur v:=
 ⟨by rw [OJ _ _ _ _ _ (by omega)];exact h.c0,by rw [OJ _ _ _ _ _ (by omega)];exact h.c1,by rw [OJ _ _ _ _ _ (by omega)];exact h.c2,by rw [OJ _ _ _ _ _ (by omega)];exact h.c3,by rw [OJ _ _ _ _ _ (by omega)];exact h.c4,World.cell?_setCell_same _ _ _ h.c5,fun i=>by rw [World.frozen?_setCell];exact h.free i⟩
end
def D7 (g gt gm:Nat) (rv:Value) (k:Nat):Prop:=k=g ∨ k=gt ∨ k=gm ∨ rv.ownBlock=some k
structure BB (B g gt gm n:Nat) (pv qv:Value) (w:World) (rv:Value) (q:FQ):Prop where
 cells:CJ w g pv qv (.slice (some ⟨gt,0,none⟩) n n) gm q.v rv
 given:EU w gt n q.tag
 tells:Fq Tryz.prog 3 3 w gm q.last
 row:w.ownsRow B 3 1 rv q.q.length (ints (Am q.q))
 apart:gt ≠ g ∧ gm ≠ g ∧ gm ≠ gt
 rapart:rv.ownBlock ≠ some g ∧ rv.ownBlock ≠ some gt ∧ rv.ownBlock ≠ some gm
 le:B ≤ g ∧ B ≤ gt ∧ B ≤ gm
section
variable {B g gt gm n:Nat} {pv qv:Value} {w w':World} {rv:Value} {q:FQ}
theorem BB.foot (h:BB B g gt gm n pv qv w rv q):∀ k,D7 g gt gm rv k → B ≤ k ∧ k < w.heap.size:=by
 rintro k (rfl | rfl | rfl | hk)
 · exact ⟨h.le.1,h.cells.lt⟩
 · exact ⟨h.le.2.1,h.given.lt⟩
 · exact ⟨h.le.2.2,h.tells.lt⟩
 · exact AX h.row hk
theorem BB.but {S:Nat → Prop} (h:BB B g gt gm n pv qv w rv q) (hb:But S w w') (hs:∀ k,D7 g gt gm rv k → ¬ S k):BB B g gt gm n pv qv w' rv q:=
 ⟨h.cells.but hb (hs g (.inl rfl)),h.given.but hb (hs gt (.inr (.inl rfl))),h.tells.but hb (hs gm (.inr (.inr (.inl rfl)))),Av h.row (fun k hv hk=>hb.block k hk (hs k (.inr (.inr (.inr hv))))),h.apart,h.rapart,h.le⟩
theorem BB.later (h:BB B g gt gm n pv qv w rv q) (hb:Below w.heap.size w w'):BB B g gt gm n pv qv w' rv q:=h.but (S:=fun _=>False) (.ofBelow hb) (fun _ _ h=>h)
theorem R5 (w:World) (g i:Nat) (v:Value):But (fun k=>k=g) w (w.setCell ⟨g,i,none⟩ v):=But.setCell (S:=fun k=>k=g) (But.refl _ w) (p:=⟨g,i,none⟩) rfl v
theorem BB.setTag (h:BB B g gt gm n pv qv w rv q) {k:Nat} (hk:k < n) (x:Int):BB B g gt gm n pv qv (w.setCell ⟨gt,k,none⟩ (.int .i64 x)) rv { q with tag:=Au q.tag k x }:=by
 have hb:=R5 w gt k (.int .i64 x)
 exact ⟨h.cells.but hb (fun e=>h.apart.1 e.symm),h.given.put hk x,h.tells.but hb h.apart.2.2,Av h.row (fun k hv hk=>hb.block k hk (fun e=>h.rapart.2.1 (by rw [← e];exact hv))),h.apart,h.rapart,h.le⟩
theorem BB.setLast (h:BB B g gt gm n pv qv w rv q) {l:Nat → Int} (hg:w.grownBy w' (some gm)) (ht:Fq Tryz.prog 3 3 w' gm l):BB B g gt gm n pv qv w' rv { q with last:=l } ∧ But (fun k=>k=gm) w w':=by
 have hb:But (fun k=>k=gm) w w':=⟨hg.os,hg.tape,hg.output,hg.size,fun k hk hn=>hg.block k hk (fun e=>hn (Option.some.inj e))⟩
 exact ⟨⟨h.cells.but hb (fun e=>h.apart.2.1 e.symm),h.given.but hb (fun e=>h.apart.2.2 e.symm),ht,Av h.row (fun k hv hk=>hb.block k hk (fun e=>h.rapart.2.2 (by rw [← e];exact hv))),h.apart,h.rapart,h.le⟩,hb⟩
theorem BB.setV (h:BB B g gt gm n pv qv w rv q) (x:Int):BB B g gt gm n pv qv (w.setCell ⟨g,4,none⟩ (.int .i64 x)) rv { q with v:=x }:=by
 have hb:=R5 w g 4 (.int .i64 x)
 exact ⟨h.cells.setV x,h.given.but hb h.apart.1,h.tells.but hb h.apart.2.1,Av h.row (fun k hv hk=>hb.block k hk (fun e=>h.rapart.1 (by rw [← e];exact hv))),h.apart,h.rapart,h.le⟩
theorem BB.setR (h:BB B g gt gm n pv qv w rv q) {w2:World} {v':Value} {r':List Nat} (hbut:But (fun k=>rv.ownBlock=some k) w w2) (hown:w2.ownsRow B 3 1 v' r'.length (ints (Am r'))) (hnew:∀ k,v'.ownBlock=some k → rv.ownBlock=some k ∨ w.heap.size ≤ k) :
  BB B g gt gm n pv qv (w2.setCell ⟨g,5,none⟩ v') v' { q with q:=r' }:=by
 have hne:∀ j,j < w.heap.size → rv.ownBlock ≠ some j → v'.ownBlock ≠ some j:=fun j hj hr e=>by
  rcases hnew j e with h' | h'
  · exact hr h'
  · omega
 have hg:=hne g h.cells.lt h.rapart.1
 have hb:=R5 w2 g 5 v'
 exact ⟨(h.cells.but hbut (fun e=>h.rapart.1 e)).setR v',(h.given.but hbut (fun e=>h.rapart.2.1 e)).but hb h.apart.1,(h.tells.but hbut (fun e=>h.rapart.2.2 e)).but hb h.apart.2.1,Av hown (fun k hv hk=>hb.block k hk (fun e=>hg (by rw [← e];exact hv))),h.apart,⟨hg,hne gt h.given.lt h.rapart.2.1,hne gm h.tells.lt h.rapart.2.2⟩,h.le⟩
end
structure Bf (B:Nat) (W0:World) (g gt gm n:Nat) (pv qv:Value) (w:World) (D:Nat → Prop) (q:FQ):Prop where
 env:Below B W0 w
 parts:∃ rv,BB B g gt gm n pv qv w rv q ∧ ∀ k,D k ↔ D7 g gt gm rv k
section
variable {B:Nat} {W0:World} {g gt gm n:Nat} {pv qv:Value} {w w':World} {D:Nat → Prop} {q:FQ}
theorem Bf.foot (h:Bf B W0 g gt gm n pv qv w D q):∀ k,D k → B ≤ k ∧ k < w.heap.size:=by
 obtain ⟨rv,h1,h2⟩:=h.parts
 exact fun k hk=>h1.foot k ((h2 k).1 hk)
theorem Bf.le (h:Bf B W0 g gt gm n pv qv w D q):B ≤ w.heap.size:=by
 obtain ⟨rv,h1,h2⟩:=h.parts
 have:=h1.cells.lt
 have:=h1.le.1
 omega
theorem Bf.but {S:Nat → Prop} (h:Bf B W0 g gt gm n pv qv w D q) (hb:But S w w') (hs:∀ k,D k → ¬ S k) (hB:∀ k,S k → B ≤ k):Bf B W0 g gt gm n pv qv w' D q:=by
 obtain ⟨rv,h1,h2⟩:=h.parts
 exact ⟨h.env.trans (hb.below h.le hB),rv,h1.but hb (fun k hk=>hs k ((h2 k).2 hk)),h2⟩
theorem Bf.later (h:Bf B W0 g gt gm n pv qv w D q) (hb:Below w.heap.size w w'):Bf B W0 g gt gm n pv qv w' D q:=h.but (S:=fun _=>False) (.ofBelow hb) (fun _ _ h=>h) (fun _ h=>h.elim)
theorem Bf.alloc (h:Bf B W0 g gt gm n pv qv w D q) (o:Obj):Bf B W0 g gt gm n pv qv (w.alloc o) D q:=h.later ((Below.refl _ _).alloc (Nat.le_refl _) _)
theorem Zr (B:Nat) (W0:World) (g gt gm n:Nat) (pv qv:Value):Gc (Bf B W0 g gt gm n pv qv) B:=⟨fun _ _ _ h=>h.foot,fun _ _ _ _ _ h hb hs hB=>h.but hb hs hB⟩
theorem Bf.leaves {rv rv':Value} {q':FQ} (h:Bf B W0 g gt gm n pv qv w D q) (hD:∀ k,D k ↔ D7 g gt gm rv k) (hbut:But D w w') (hat:BB B g gt gm n pv qv w' rv' q') (hnew:∀ k,rv'.ownBlock=some k → rv.ownBlock=some k ∨ w.heap.size ≤ k):Az (Bf B W0 g gt gm n pv qv) w w' D q':=
 ⟨D7 g gt gm rv',⟨h.env.trans (hbut.below h.le fun k hk=>(h.foot k hk).1),rv',hat,fun _=>Iff.rfl⟩,hbut,fun k hk=>by
  rcases hk with hk | hk | hk | hk
  · exact .inl ((hD k).2 (.inl hk))
  · exact .inl ((hD k).2 (.inr (.inl hk)))
  · exact .inl ((hD k).2 (.inr (.inr (.inl hk))))
  ·
   rcases hnew k hk with h' | h'
   · exact .inl ((hD k).2 (.inr (.inr (.inr h'))))
   · exact .inr h'⟩
end
def ae (Dd Db:Int → List (Int × Int) → Option Int → Prop) (k:Nat) (per:Int) (L:List (Int × Int)) (o:Option Int):Prop:=(k=1 ∧ Dd per L o) ∨ (k ≠ 1 ∧ Db per L o)
def Co (S:List (Int × Int) → List (Int × Int) → Int → List (Int × Int) → Prop) (Dd Db:Int → List (Int × Int) → Option Int → Prop) (cs:List (List (Int × Int))) (k:Nat) (per:Int) (o:Option Int):Prop:=(GN S cs ∧ o=none) ∨ ∃ L,EA S cs L ∧ ae Dd Db k per L o
def NumEnd (o:Option Int) (w:World) (e:Ending) (w':World):Prop:=Below w.heap.size w w' ∧ ((o=none ∧ ∃ E,e=.returned (.tuple #[.int .i64 0,E]) ∧ AR w' E 4 (-1)) ∨ ∃ n,o=some n ∧ e=.returned (.tuple #[.int .i64 n,.nilIface]))
structure UQ (S:List (Int × Int) → List (Int × Int) → Int → List (Int × Int) → Prop) (Dd Db:Int → List (Int × Int) → Option Int → Prop):Prop where
 way:Jc S
 sumOf:∀ (a1 a2:Option Addr) (cap1 cap2:Nat) (la lb:List (Int × Int)) (w:World),AL w a1 la → AL w a2 lb → Ag la → Ag lb → Calls Tryz.prog 58 #[.slice a1 la.length cap1,.slice a2 lb.length cap2] w fun e w'=>∃ a cap code L,e=.returned (.tuple #[.slice a L.length cap,.int .i64 code]) ∧ S la lb code L ∧ AL w' a L ∧ L.length ≤ cap ∧ cap ≤ maxLen ∧ Below w.heap.size w w'
 delay1:∀ per L o o',Ag L → 1 ≤ per → per ≤ 1000 → Dd per L o → Dd per L o' → o=o'
 busy1:∀ per L o o',Ag L → 1 ≤ per → per ≤ 1000 → Db per L o → Db per L o' → o=o'
 delay:∀ (a:Option Addr) (cap:Nat) (L:List (Int × Int)) (per:Int) (w:World) (ad:Nat → Addr),AP w ad → AL w a L → L.length ≤ cap → cap ≤ maxLen → Ag L → 1 ≤ per → per ≤ 1000 → Calls Tryz.prog 35 #[.slice a L.length cap,.int .i64 per] w fun e w'=>∃ o,Dd per L o ∧ NumEnd o w e w'
 busy:∀ (a:Option Addr) (cap:Nat) (L:List (Int × Int)) (per:Int) (w:World) (ad:Nat → Addr),AP w ad → AL w a L → L.length ≤ cap → cap ≤ maxLen → Ag L → 1 ≤ per → per ≤ 1000 → Calls Tryz.prog 36 #[.slice a L.length cap,.int .i64 per] w fun e w'=>∃ o,Db per L o ∧ NumEnd o w e w'
 bad:∀ (ca:Option Addr) (ccap:Nat) (cs:List (List (Int × Int))) (kb:ByteArray) (per:Int) (na:Option Addr) (ncap:Nat) (ns:List Int) (w:World) (ad:Nat → Addr) (c p:Int),AP w ad → Dk w ca ccap cs na ncap ns → DT cs (kindOf kb.toList) per ns c p → 0 < c →
  Calls Tryz.prog 46 #[.agg #[.slice ca cs.length ccap,.string kb,.int .i64 per,.slice na ns.length ncap]] w fun e w'=>∃ E,e=.returned (.tuple #[.int .i64 0,E]) ∧ AR w' E c p ∧ Below w.heap.size w w'
 good:∀ (ca:Option Addr) (ccap:Nat) (cs:List (List (Int × Int))) (kb:ByteArray) (per:Int) (na:Option Addr) (ncap:Nat) (ns:List Int) (w:World) (ad:Nat → Addr),AP w ad → Dk w ca ccap cs na ncap ns → FD cs (kindOf kb.toList) per ns →
  Calls Tryz.prog 46 #[.agg #[.slice ca cs.length ccap,.string kb,.int .i64 per,.slice na ns.length ncap]] w fun e w'=>∃ o,Co S Dd Db cs (kindOf kb.toList) per o ∧ NumEnd o w e w'
theorem QI {S:List (Int × Int) → List (Int × Int) → Int → List (Int × Int) → Prop} {Dd Db:Int → List (Int × Int) → Option Int → Prop} (hS:Jc S) {cs:List (List (Int × Int))} (hc:Cv (Af cs)) {k:Nat} {per:Int} {o:Option Int} (h:Co S Dd Db cs k per o) (hn:GN S cs):o=none:=by
 rcases h with ⟨-,h⟩ | ⟨L,h,-⟩
 · exact h
 · exact absurd hn (h.no hS hc)
theorem Sk {S:List (Int × Int) → List (Int × Int) → Int → List (Int × Int) → Prop} {Dd Db:Int → List (Int × Int) → Option Int → Prop} (hS:Jc S) {cs:List (List (Int × Int))} (hc:Cv (Af cs)) {k:Nat} {per:Int} {o:Option Int} {L:List (Int × Int)} (h:Co S Dd Db cs k per o) (hL:EA S cs L):ae Dd Db k per L o:=by
 rcases h with ⟨hn,-⟩ | ⟨L',h,hd⟩
 · exact absurd hn (hL.no hS hc)
 · rw [hL.one hS hc h];exact hd
section
end
def C9 (x:Int × Int):List (Int × Int) → Bool
 | []=>false
 | [t]=>decide (x.1 ≤ t.1)
 | t :: u :: _=>decide (x.1 ≤ t.1) || decide ((x.1 - t.1) * (u.2 - t.2) ≤ (t.1 - u.1) * (t.2 - x.2))
def BZ (x:Int × Int):List (Int × Int) → List (Int × Int)
 | []=>[]
 | t :: r=>if C9 x (t :: r)=true then BZ x r else t :: r
def Dy:List (Int × Int) → List (Int × Int) → List (Int × Int)
 | T,[]=>T
 | T,x :: r=>Dy (x :: BZ x T) r
theorem Z7 {a b:Int} (h1 : -20000 ≤ a) (h2:a ≤ 20000) (h3 : -100000 ≤ b) (h4:b ≤ 100000) : -2000000000 ≤ a * b ∧ a * b ≤ 2000000000:=by
 have h:=Int.natAbs_mul a b
 have ha:a.natAbs ≤ 20000:=by omega
 have hb:b.natAbs ≤ 100000:=by omega
 have:=Nat.mul_le_mul ha hb
 omega
theorem TN (a:Option Addr) (cap:Nat) (T:List (Int × Int)) (x:Int × Int) (w:World) (hl:AL w a T.reverse) (h1:1 ≤ T.length) (hn:T.length ≤ 1000) (hok:BJ T) (hx:BF x.1 x.2=true) :
  Calls Tryz.prog 182 #[.slice a T.length cap,.agg #[.int .i64 x.1,.int .i64 x.2]] w fun e w'=>e=.returned (.bool (C9 x T)) ∧ Below w.heap.size w w':=by
 obtain ⟨b,off,rfl,hlt,hc⟩:=hl.some (by simpa using h1)
 clear hl
 obtain ⟨x1,x2⟩:=x
 obtain ⟨q1,q2,q3,q4⟩:=Ap hx
 simp only [] at q1 q2 q3 q4
 match T,h1,hn,hok,hc with
 | [t],_,_,hok,hc=>
  obtain ⟨t1,t2⟩:=t
  have c:=hc 0 t1 t2 rfl
  have c0:w.cell? ⟨b,off,none⟩=some (.int .i64 t1):=by simpa using c.1
  have c1:w.cell? ⟨b,off+1,none⟩=some (.int .i64 t2):=by simpa using c.2
  have HR:Hid (C9 (x1,x2) [(t1,t2)]=decide (x1 ≤ t1)):=rfl
  clear hc c hok hx
  by_cases hle:x1 ≤ t1
  ·
   go_enter Tryz.func182,Tryz.ntmps182
   go_wp2
   go_ret
   exact ⟨congrArg (fun z=>Ending.returned (.bool z)) (by rw [HR.out];exact (decide_eq_true hle).symm),((Below.refl _ _).alloc (Nat.le_refl _) _).alloc (by simp) _⟩
  ·
   go_enter Tryz.func182,Tryz.ntmps182
   go_wp2
   go_ret
   exact ⟨congrArg (fun z=>Ending.returned (.bool z)) (by rw [HR.out];exact (decide_eq_false (by omega)).symm),((Below.refl _ _).alloc (Nat.le_refl _) _).alloc (by simp) _⟩
 | t :: u :: r,_,hn,hok,hc=>
  obtain ⟨t1,t2⟩:=t
  obtain ⟨u1,u2⟩:=u
  obtain ⟨a1,a2,a3,a4⟩:=Ap (hok _ (List.mem_cons_self ..))
  obtain ⟨b1,b2,b3,b4⟩:=Ap (hok _ (List.mem_cons_of_mem _ (List.mem_cons_self ..)))
  simp only [] at a1 a2 a3 a4 b1 b2 b3 b4
  have et:((t1,t2) :: (u1,u2) :: r).reverse=r.reverse ++ [(u1,u2),(t1,t2)]:=by simp
  have ct:=hc (r.length+1) t1 t2 (by rw [et];simp)
  have cu:=hc r.length u1 u2 (by rw [et];simp)
  obtain ⟨m,hm⟩:∃ m,r.length=m:=⟨_,rfl⟩
  rw [hm] at ct cu
  rw [show ((t1,t2) :: (u1,u2) :: r).length=m+2 by simp [hm]]
  have hm':m ≤ 998:=by simp at hn;omega
  have HR:Hid (C9 (x1,x2) ((t1,t2) :: (u1,u2) :: r)=(decide (x1 ≤ t1) || decide ((x1 - t1) * (u2 - t2) ≤ (t1 - u1) * (t2 - x2)))):=rfl
  obtain ⟨k1,k2⟩:=ct
  obtain ⟨k3,k4⟩:=cu
  obtain ⟨p1,p2⟩:=Z7 (show -20000 ≤ x1 - t1 by omega) (show x1 - t1 ≤ 20000 by omega) (show -100000 ≤ u2 - t2 by omega) (show u2 - t2 ≤ 100000 by omega)
  obtain ⟨p3,p4⟩:=Z7 (show -20000 ≤ t1 - u1 by omega) (show t1 - u1 ≤ 20000 by omega) (show -100000 ≤ t2 - x2 by omega) (show t2 - x2 ≤ 100000 by omega)
  clear hc hok hx et hm hn
  by_cases hle:x1 ≤ t1
  ·
   go_enter Tryz.func182,Tryz.ntmps182
   go_wp2
   go_ret
   exact ⟨congrArg (fun z=>Ending.returned (.bool z)) (by rw [HR.out,decide_eq_true hle];rfl),((Below.refl _ _).alloc (Nat.le_refl _) _).alloc (by simp) _⟩
  ·
   go_enter Tryz.func182,Tryz.ntmps182
   go_wp2
   go_ret
   exact ⟨congrArg (fun z=>Ending.returned (.bool z)) (by rw [HR.out,decide_eq_false (show ¬ x1 ≤ t1 by omega),Bool.false_or]),(((Below.refl _ _).alloc (Nat.le_refl _) _).alloc (by simp) _).alloc (by simp;omega) _⟩
theorem XB (l:List (Int × Int)):∀ (T:List (Int × Int)) (x:Int × Int),Dy T (l ++ [x])=x :: BZ x (Dy T l):=by
 induction l with
 | nil=>intro T x;rfl
 | cons y r ih=>intro T x;exact ih _ x
theorem Fy (x:Int × Int) (T:List (Int × Int)):∀ p,p ∈ BZ x T → p ∈ T:=by
 induction T with
 | nil=>intro p hp;exact hp
 | cons t r ih=>
  intro p hp
  unfold BZ at hp
  split at hp
  · exact List.mem_cons_of_mem _ (ih p hp)
  · exact hp
theorem Yl (x:Int × Int) (T:List (Int × Int)):(BZ x T).length ≤ T.length:=by
 induction T with
 | nil=>exact Nat.le_refl _
 | cons t r ih=>
  unfold BZ
  split
  · simp;omega
  · exact Nat.le_refl _
theorem M5 (l:List (Int × Int)):∀ T p,p ∈ Dy T l → p ∈ T ∨ p ∈ l:=by
 induction l with
 | nil=>intro T p hp;exact .inl hp
 | cons x r ih=>
  intro T p hp
  rcases ih (x :: BZ x T) p hp with h | h
  ·
   rcases List.mem_cons.1 h with rfl | h
   · exact .inr (List.mem_cons_self ..)
   · exact .inl (Fy x T p h)
  · exact .inr (List.mem_cons_of_mem _ h)
theorem Rm (l:List (Int × Int)):∀ T,(Dy T l).length ≤ T.length+l.length:=by
 induction l with
 | nil=>intro T;exact Nat.le_refl _
 | cons x r ih=>
  intro T
  have:=ih (x :: BZ x T)
  have:=Yl x T
  show (Dy (x :: BZ x T) r).length ≤ _
  simp at *
  omega
theorem Rz {w w':World} {b:Nat} {o:Obj} (hb:Below w.heap.size w w') (h:w.heap[b]? = some o):w'.heap[b]? = some o:=by
 rw [hb.block b ?_];exact h
 rcases Nat.lt_or_ge b w.heap.size with h' | h'
 · exact h'
 · simp [Array.getElem?_eq_none h'] at h
theorem A9.later {w w':World} {B:Nat} {v:Value} {ls:List (Int × Int)} (h:A9 w B v ls) (hb:Below w.heap.size w w'):A9 w' B v ls:=by
 obtain ⟨h1,h2 | ⟨g,cap,cur,hv,hB,hg,r⟩⟩:=h
 · exact ⟨h1,.inl h2⟩
 · exact ⟨h1,.inr ⟨g,cap,cur,hv,hB,Rz hb hg,r⟩⟩
theorem A9.pop {w:World} {B g cap:Nat} {t:Int × Int} {r:List (Int × Int)} (h:A9 w B (.slice (some ⟨g,0,none⟩) (r.length+1) cap) (t :: r).reverse):A9 w B (.slice (some ⟨g,0,none⟩) r.length cap) r.reverse:=by
 unfold A9 at *
 rw [List.reverse_cons,E9,List.length_append,List.length_reverse] at h
 rw [List.length_reverse]
 exact ownsRow_pop (by rw [Fg,List.length_reverse]) h
theorem A9.push {w:World} {B:Nat} {v:Value} {T:List (Int × Int)} {x y:Int} (h:w.ownsRow B 83 2 v (T.length+1) (Ar T.reverse ++ [.int .i64 x,.int .i64 y])):A9 w B v ((x,y) :: T).reverse:=by
 unfold A9
 rw [List.reverse_cons,E9,List.length_append,List.length_reverse]
 exact h
theorem A9.grownT {w0 w w':World} {v:Value} {ls:List (Int × Int)} (hB:Below w0.heap.size w0 w) (ho:A9 w w0.heap.size v ls) (hg:w.grownBy w' v.ownBlock):Below w0.heap.size w0 w':=
 hB.grown hg hB.size fun k hk=>(World.ownsRow.lt ho k hk).1
theorem Et (x y:Int):∀ u ∈ [Value.int .i64 x,.int .i64 y],u.oneCell'=true:=by
 intro u hu
 simp at hu
 rcases hu with rfl | rfl <;> rfl
theorem Er (w:World) (x y:Int):∀ j u,[Value.int .i64 x,.int .i64 y][j]? = some u → (w.alloc (.cells #[.int .i64 x,.int .i64 y] 83)).cell? ((⟨w.heap.size,0,none⟩:Addr).add j)=some u:=by
 intro j u h
 match j,h with
 | 0,h=>simp at h;subst h;simp [Addr.add]
 | 1,h=>simp at h;subst h;simp [Addr.add]
 | j+2,h=>simp at h
theorem WW (ad:Addr) (cap:Nat) (ls:List (Int × Int)) (w:World) (hl:AL w (some ad) ls) (h1:1 ≤ ls.length) (hn:ls.length ≤ 500) (hok:BJ ls) :
  Calls Tryz.prog 150 #[.slice (some ad) ls.length cap] w fun e w'=>∃ v ls',e=.returned v ∧ ls'.Perm ls ∧ CO ls' ∧ A9 w' w.heap.size v (Dy [] ls').reverse ∧ Below w.heap.size w w':=by
 have HC:=(show Hid (Calls Tryz.prog 181 #[.slice (some ad) ls.length cap] w fun e w'=>∃ g cap' ls',e=.returned (.slice (some ⟨g,0,none⟩) ls'.length cap') ∧ ls'.Perm ls ∧ CO ls' ∧ AL w' (some ⟨g,0,none⟩) ls' ∧ Below w.heap.size w w') from RN ad cap ls w hl h1 (by omega))
 have HO:Hid (BJ ls):=hok
 obtain ⟨i0,hi,hz0,hz1,hz2⟩:=info_parts Tryz.infoLine
 clear hl hok
 go_enter Tryz.func150,Tryz.ntmps150
 go_wp2_with fail
 refine HC.out.mono ?_
 rintro e W ⟨g,cap',ls',rfl,hp,hs,hl',hbW⟩
 have hlen:ls'.length ≤ 500:=by rw [hp.length_eq];exact hn
 have HP:Hid (ls'.Perm ls ∧ CO ls' ∧ Below w.heap.size w W):=⟨hp,hs,hbW⟩
 have HO':Hid (BJ ls'):=fun p hp'=>HO.out p (hp.mem_iff.1 hp')
 have HL:Hid (AL W (some ⟨g,0,none⟩) ls'):=hl'
 clear hp hs hl' hbW
 go_wp2_with fail
 go_loopg [3,9] ls'.length (fun gk v i wr=>∃ k:Nat,gk+k=ls'.length ∧ i=.int .i64 k ∧ A9 wr W.heap.size v (Dy [] (ls'.take k)).reverse ∧ Below W.heap.size W wr)
 case atStart=>exact ⟨0,rfl,rfl,World.ownsRow_nil _ _ _ _,Below.refl _ _⟩
 case round=>
  obtain ⟨k,hgk,rfl,hown,hbr⟩:=hrel
  have HBR:Hid (Below W.heap.size W wr):=hbr
  by_cases hkn:k < ls'.length
  ·
   obtain ⟨⟨x,y⟩,hp,hmem⟩:=Ai ls' k hkn
   obtain ⟨b,off,hge,hlt,hc⟩:=HL.out.some (by omega)
   injection hge with hge
   injection hge with hb1 hb2
   subst hb1 hb2
   have c1:wr.cell? ⟨g,k * 2,none⟩=some (.int .i64 x):=by have:=cell_later hbr (hc k x y hp).1;simpa using this
   have c2:wr.cell? ⟨g,k * 2+1,none⟩=some (.int .i64 y):=by have:=cell_later hbr (hc k x y hp).2;simpa using this
   have HX:Hid (BF x y=true):=HO'.out _ hmem
   have hts:ls'.take (k+1)=ls'.take k ++ [(x,y)]:=by rw [List.take_add_one,hp];rfl
   have HS:Hid (Dy [] (ls'.take (k+1))=(x,y) :: BZ (x,y) (Dy [] (ls'.take k))):=by show _=_;rw [hts];exact XB _ _ _
   have hTok:BJ (Dy [] (ls'.take k)):=fun p hp'=>by
    rcases M5 _ _ p hp' with h | h
    · cases h
    · exact HO'.out p (List.mem_of_mem_take h)
   have hTlen:(Dy [] (ls'.take k)).length ≤ 500:=by have:=Rm (ls'.take k) [];rw [List.length_take] at this;simp at this;omega
   generalize Dy [] (ls'.take k)=T0 at *
   obtain ⟨a0,n0,k0,rfl⟩:∃ a0 n0 k0,u3=.slice a0 n0 k0:=by obtain ⟨a,c,e,_⟩:=hown.open;exact ⟨_,_,_,e⟩
   have HT:Hid (BJ T0 ∧ T0.length ≤ 500):=⟨hTok,hTlen⟩
   have hb1:Below wr.heap.size wr (wr.alloc (.cells #[.int .i64 x,.int .i64 y] 83)):=(Below.refl _ _).alloc (Nat.le_refl _) _
   have hx1:(wr.alloc (.cells #[.int .i64 x,.int .i64 y] 83)).cell? ⟨wr.heap.size,0,none⟩=some (.int .i64 x):=by simp
   have hx2:(wr.alloc (.cells #[.int .i64 x,.int .i64 y] 83)).cell? ⟨wr.heap.size,1,none⟩=some (.int .i64 y):=by simp
   have hown1:=hown.later hb1
   have hbr1:Below W.heap.size W (wr.alloc (.cells #[.int .i64 x,.int .i64 y] 83)):=hbr.trans (hb1.mono hbr.size)
   clear hc hp hmem hts hTok hTlen hown hbr
   go_wp2_with fail
   generalize wr.alloc (.cells #[.int .i64 x,.int .i64 y] 83)=W1 at *
   have HX1:Hid (W1.cell? ⟨wr.heap.size,0,none⟩=some (.int .i64 x) ∧ W1.cell? ⟨wr.heap.size,1,none⟩=some (.int .i64 y)):=⟨hx1,hx2⟩
   have HBR1:Hid (Below W.heap.size W W1):=hbr1
   have HOW1:Hid (A9 W1 W.heap.size (.slice a0 n0 k0) T0.reverse):=hown1
   clear hx1 hx2 hbr1 hown1 hb1
   obtain ⟨GK,rfl⟩:∃ z,z=gk:=⟨gk,rfl⟩
   obtain ⟨wO,rfl⟩:∃ z,z=wr:=⟨wr,rfl⟩
   go_loopg [3] T0.length (fun gi v wr2=>∃ T a1 k1,gi=T.length ∧ v=.slice a1 T.length k1 ∧ A9 wr2 W.heap.size v T.reverse ∧ BZ (x,y) T=BZ (x,y) T0 ∧ BJ T ∧ T.length ≤ 500 ∧ Below W1.heap.size W1 wr2)
   case atStart=>
    obtain ⟨a,c,e,_⟩:=HOW1.out.open
    injection e with e1 e2 e3
    rw [List.length_reverse] at e2
    subst e2
    exact ⟨T0,a0,k0,rfl,rfl,HOW1.out,rfl,HT.out.1,HT.out.2,Below.refl _ _⟩
   case round=>
    obtain ⟨T,a1,k1,hgi,rfl,hown2,hpop,hTok,hTlen,hb2⟩:=hrel
    have HPop:Hid (BZ (x,y) T=BZ (x,y) T0):=hpop
    have HB12:Hid (Below W1.heap.size W1 wr):=hb2
    have HB2:Hid (Below W.heap.size W wr):=HBR1.out.trans (hb2.mono HBR1.out.size)
    have HTok:Hid (BJ T):=hTok
    have y1:=cell_later hb2 HX1.out.1
    have y2:=cell_later hb2 HX1.out.2
    have HOW:Hid (A9 wr W.heap.size (.slice a1 T.length k1) T.reverse):=hown2
    clear hpop hb2 hTok hown2
    match T,hgi,hTlen,HPop,HTok,HOW with
    | [],hgi,hTlen,HPop,HTok,HOW=>
     have HOWr:Hid (wr.ownsRow W.heap.size 83 2 (.slice a1 0 k1) 0 (Ar ([]:List (Int × Int)).reverse)):=HOW.out
     go_wp2_with (at_builtin;refine wpList_append_own _ rfl _ _ 62 rfl W.heap.size 83 i0 (.agg #[.int .i64 0,.int .i64 0]) 2 16 Tryz.underlying62 hi hz0 hz1 hz2 rfl (by decide) (.slice a1 0 k1) 0 (Ar ([]:List (Int × Int)).reverse) rfl (HOWr.out.alloc _) ⟨wr.heap.size,0,none⟩ 1 1 [.int .i64 x,.int .i64 y] rfl rfl (Er wr x y) (Et x y) (by unfold maxLen;omega) (by omega) (Nat.le_trans HB2.out.size (by simp)) ?_;intro v3 w3 hown3 hgrow3 _)
     have HB3:Hid (Below W.heap.size W w3):=A9.grownT (ls:=([]:List (Int × Int)).reverse) (HB2.out.alloc HB2.out.size _) (by unfold A9;rw [List.length_reverse];exact HOWr.out.alloc _) hgrow3
     have HO3:Hid (A9 w3 W.heap.size v3 ((x,y) :: ([]:List (Int × Int))).reverse):=A9.push hown3
     obtain ⟨a3,n3,k3,rfl⟩:∃ a3 n3 k3,v3=.slice a3 n3 k3:=by obtain ⟨a,c,e,_⟩:=HO3.out.open;exact ⟨_,_,_,e⟩
     clear hown3 hgrow3
     go_wp2_with fail
     go_roundg (GK - 1)
     case measure=>omega
     case rel=>exact ⟨k+1,by omega,by go_num,by rw [HS.out,← HPop.out,show BZ (x,y) []=[] from rfl];exact HO3.out,HB3.out⟩
    | t :: r,hgi,hTlen,HPop,HTok,HOW=>
     have HOWr:Hid (wr.ownsRow W.heap.size 83 2 (.slice a1 (r.length+1) k1) (r.length+1) (Ar (t :: r).reverse)):=by have:=HOW.out;unfold A9 at this;rw [List.length_reverse] at this;exact this
     obtain ⟨g1,cp1,hv1,hg1,hg2⟩:=World.ownsRow.form HOWr.out (Nat.succ_pos _)
     injection hv1 with hv1 _ hv3
     subst hv1 hv3
     have hLies:AL wr (some ⟨g1,0,none⟩) (t :: r).reverse:=(A9.lies HOW.out).2.2.2
     have hcapk:(t :: r).reverse.length ≤ k1 ∧ k1 ≤ maxLen:=⟨(A9.lies HOW.out).2.1,(A9.lies HOW.out).2.2.1⟩
     rw [List.length_reverse] at hcapk
     obtain ⟨hcap1,hcap2⟩:=hcapk
     simp only [List.length_cons] at hcap1 hTlen
     unfold maxLen at hcap2
     have HCv:=(show Hid (Calls Tryz.prog 182 #[.slice (some ⟨g1,0,none⟩) (r.length+1) k1,.agg #[.int .i64 x,.int .i64 y]] wr fun e w'=>e=.returned (.bool (C9 (x,y) (t :: r))) ∧ Below wr.heap.size wr w') from TN (some ⟨g1,0,none⟩) k1 (t :: r) (x,y) wr hLies (by simp) (by simp;omega) HTok.out HX.out)
     clear hLies
     simp only [List.length_cons]
     cases hcov:C9 (x,y) (t :: r) with
     | true=>
      have HV:Hid (C9 (x,y) (t :: r)=true):=hcov
      clear hcov
      go_wp2_with fail
      refine HCv.out.mono ?_
      rintro e w4 ⟨rfl,hb4⟩
      rw [HV.out]
      have HB14:Hid (Below W1.heap.size W1 w4):=HB12.out.trans (hb4.mono HB12.out.size)
      have HOW4:Hid (A9 w4 W.heap.size (.slice (some ⟨g1,0,none⟩) r.length k1) r.reverse):=A9.pop (HOW.out.later hb4)
      clear hb4
      go_wp2_with fail
      go_roundg r.length
      case measure=>simp at hgi;omega
      case rel=>
       refine ⟨r,some ⟨g1,0,none⟩,k1,rfl,?_,?_,?_,fun p hp=>HTok.out p (List.mem_cons_of_mem _ hp),by omega,HB14.out⟩
       · simp
       · simpa using HOW4.out
       ·
        rw [← HPop.out]
        show BZ (x,y) r=BZ (x,y) (t :: r)
        conv=>rhs;unfold BZ
        rw [if_pos HV.out]
     | false=>
      have HV:Hid (C9 (x,y) (t :: r)=false):=hcov
      clear hcov
      go_wp2_with fail
      refine HCv.out.mono ?_
      rintro e w4 ⟨rfl,hb4⟩
      rw [HV.out]
      have HB4:Hid (Below W.heap.size W w4):=HB2.out.trans (hb4.mono HB2.out.size)
      have z1:=cell_later hb4 y1
      have z2:=cell_later hb4 y2
      have HOW4:Hid (w4.ownsRow W.heap.size 83 2 (.slice (some ⟨g1,0,none⟩) (r.length+1) k1) (r.length+1) (Ar (t :: r).reverse)):=by have:=HOW.out.later hb4;unfold A9 at this;rw [List.length_reverse] at this;exact this
      clear hb4 y1 y2
      go_wp2_with (at_builtin;refine wpList_append_own _ rfl _ _ 62 rfl W.heap.size 83 i0 (.agg #[.int .i64 0,.int .i64 0]) 2 16 Tryz.underlying62 hi hz0 hz1 hz2 rfl (by decide) (.slice (some ⟨g1,0,none⟩) (r.length+1) k1) (r.length+1) (Ar (t :: r).reverse) rfl (HOW4.out.alloc _) ⟨w4.heap.size,0,none⟩ 1 1 [.int .i64 x,.int .i64 y] rfl rfl (Er w4 x y) (Et x y) (by unfold maxLen;omega) (by omega) (Nat.le_trans HB4.out.size (by simp)) ?_;intro v3 w3 hown3 hgrow3 _)
      have HB3:Hid (Below W.heap.size W w3):=A9.grownT (ls:=(t :: r).reverse) (HB4.out.alloc HB4.out.size _) (by unfold A9;rw [List.length_reverse];exact HOW4.out.alloc _) hgrow3
      have HO3:Hid (A9 w3 W.heap.size v3 ((x,y) :: (t :: r)).reverse):=A9.push hown3
      obtain ⟨a3,n3,k3,rfl⟩:∃ a3 n3 k3,v3=.slice a3 n3 k3:=by obtain ⟨a,c,e,_⟩:=HO3.out.open;exact ⟨_,_,_,e⟩
      clear hown3 hgrow3
      go_wp2_with fail
      go_roundg (GK - 1)
      case measure=>omega
      case rel=>exact ⟨k+1,by omega,by go_num,by rw [HS.out,← HPop.out,show BZ (x,y) (t :: r)=t :: r by unfold BZ;rw [if_neg (by rw [HV.out];decide)]];exact HO3.out,HB3.out⟩
  ·
   have hk':k=ls'.length:=by omega
   subst hk'
   rw [List.take_length] at hown
   obtain ⟨a0,n0,k0,rfl⟩:∃ a0 n0 k0,u3=.slice a0 n0 k0:=by obtain ⟨a,c,e,_⟩:=hown.open;exact ⟨_,_,_,e⟩
   have HOW:Hid (A9 wr W.heap.size (.slice a0 n0 k0) (Dy [] ls').reverse):=hown
   clear hown hbr
   go_wp2_with fail
   go_ret
   exact ⟨_,ls',rfl,HP.out.1,HP.out.2.1,CR HOW.out HP.out.2.2.size,HP.out.2.2.trans (HBR.out.mono HP.out.2.2.size)⟩
def EC (x:Int × Int) (lb:List (Int × Int)):List (Int × Int):=lb.map fun y=>(x.1+y.1,x.2+y.2)
def Bi (la lb:List (Int × Int)):List (Int × Int):=la.flatMap fun x=>EC x lb
theorem Pf (x:Int × Int) (lb:List (Int × Int)) (y:Int × Int):EC x (lb ++ [y])=EC x lb ++ [(x.1+y.1,x.2+y.2)]:=by simp [EC]
theorem Oe (la lb:List (Int × Int)) (x:Int × Int):Bi (la ++ [x]) lb=Bi la lb ++ EC x lb:=by simp [Bi]
theorem EI (la lb:List (Int × Int)):(Bi la lb).length=la.length * lb.length:=by
 induction la with
 | nil=>simp [Bi]
 | cons x r ih=>
  have e:Bi (x :: r) lb=EC x lb ++ Bi r lb:=by simp [Bi]
  rw [e,List.length_append,ih]
  simp [EC,Nat.add_mul]
  omega
theorem A9.snoc {w:World} {B:Nat} {v:Value} {T:List (Int × Int)} {x y:Int} (h:w.ownsRow B 83 2 v (T.length+1) (Ar T ++ [.int .i64 x,.int .i64 y])):A9 w B v (T ++ [(x,y)]):=by
 unfold A9
 rw [E9,List.length_append]
 exact h
theorem VH (a1 a2:Option Addr) (cap1 cap2:Nat) (la lb:List (Int × Int)) (w:World) (h1:AL w a1 la) (h2:AL w a2 lb) (n1:la.length ≤ 6) (n2:lb.length ≤ 6) (k1:BJ la) (k2:BJ lb) :
  Calls Tryz.prog 149 #[.slice a1 la.length cap1,.slice a2 lb.length cap2] w fun e w'=>∃ v,e=.returned v ∧ A9 w' w.heap.size v (Bi la lb) ∧ Below w.heap.size w w':=by
 have HA:Hid (AL w a1 la):=h1
 have HB:Hid (AL w a2 lb):=h2
 have KA:Hid (BJ la):=k1
 have KB:Hid (BJ lb):=k2
 obtain ⟨i0,hi,hz0,hz1,hz2⟩:=info_parts Tryz.infoLine
 clear h1 h2 k1 k2
 go_enter Tryz.func149,Tryz.ntmps149
 go_wp2_with fail
 go_loopg [5,12] la.length (fun gk v i wr=>∃ k:Nat,gk+k=la.length ∧ i=.int .i64 k ∧ A9 wr w.heap.size v (Bi (la.take k) lb) ∧ Below w.heap.size w wr)
 case atStart=>exact ⟨0,rfl,rfl,World.ownsRow_nil _ _ _ _,Below.refl _ _⟩
 case round=>
  obtain ⟨k,hgk,rfl,hown,hbr⟩:=hrel
  have HBR:Hid (Below w.heap.size w wr):=hbr
  by_cases hkn:k < la.length
  ·
   obtain ⟨⟨x,y⟩,hp,hmem⟩:=Ai la k hkn
   obtain ⟨b,off,rfl,hlt,hc⟩:=HA.out.some (by omega)
   have c1:=cell_later hbr (hc k x y hp).1
   have c2:=cell_later hbr (hc k x y hp).2
   obtain ⟨q1,q2,q3,q4⟩:=Ap (KA.out _ hmem)
   simp only [] at q1 q2 q3 q4
   have hts:la.take (k+1)=la.take k ++ [(x,y)]:=by rw [List.take_add_one,hp];rfl
   have HS:Hid (Bi (la.take (k+1)) lb=Bi (la.take k) lb ++ EC (x,y) lb):=by show _=_;rw [hts];exact Oe _ _ _
   have hTlen:(Bi (la.take k) lb).length ≤ 36:=by
    rw [EI,List.length_take]
    exact Nat.le_trans (Nat.mul_le_mul (show min k la.length ≤ 6 by omega) n2) (by decide)
   generalize Bi (la.take k) lb=T0 at *
   obtain ⟨a0,n0,k0,rfl⟩:∃ a0 n0 k0,u5=.slice a0 n0 k0:=by obtain ⟨a,c,e,_⟩:=hown.open;exact ⟨_,_,_,e⟩
   have hb1:Below wr.heap.size wr (wr.alloc (.cells #[.int .i64 x,.int .i64 y] 83)):=(Below.refl _ _).alloc (Nat.le_refl _) _
   have hx1:(wr.alloc (.cells #[.int .i64 x,.int .i64 y] 83)).cell? ⟨wr.heap.size,0,none⟩=some (.int .i64 x):=by simp
   have hx2:(wr.alloc (.cells #[.int .i64 x,.int .i64 y] 83)).cell? ⟨wr.heap.size,1,none⟩=some (.int .i64 y):=by simp
   have hown1:=hown.later hb1
   have hbr1:Below w.heap.size w (wr.alloc (.cells #[.int .i64 x,.int .i64 y] 83)):=hbr.trans (hb1.mono hbr.size)
   have hne:(Value.slice a0 n0 k0).ownBlock ≠ some wr.heap.size:=fun e=>by have:=(World.ownsRow.lt hown _ e).2;omega
   clear hc hp hmem hts hown hbr hb1
   go_wp2_with fail
   generalize wr.alloc (.cells #[.int .i64 x,.int .i64 y] 83)=W1 at *
   have HX1:Hid (W1.cell? ⟨wr.heap.size,0,none⟩=some (.int .i64 x) ∧ W1.cell? ⟨wr.heap.size,1,none⟩=some (.int .i64 y)):=⟨hx1,hx2⟩
   have HBR1:Hid (Below w.heap.size w W1):=hbr1
   have HOW1:Hid (A9 W1 w.heap.size (.slice a0 n0 k0) T0):=hown1
   have HNE:Hid ((Value.slice a0 n0 k0).ownBlock ≠ some wr.heap.size):=hne
   clear hx1 hx2 hbr1 hown1 hne c1 c2
   obtain ⟨GK,rfl⟩:∃ z,z=gk:=⟨gk,rfl⟩
   obtain ⟨wO,rfl⟩:∃ z,z=wr:=⟨wr,rfl⟩
   go_loopg [5,18] lb.length (fun gi v i wr2=>∃ j:Nat,gi+j=lb.length ∧ i=.int .i64 j ∧ A9 wr2 w.heap.size v (T0 ++ EC (x,y) (lb.take j)) ∧ wr2.cell? ⟨wO.heap.size,0,none⟩=some (.int .i64 x) ∧ wr2.cell? ⟨wO.heap.size,1,none⟩=some (.int .i64 y) ∧ v.ownBlock ≠ some wO.heap.size ∧ Below w.heap.size w wr2)
   case atStart=>exact ⟨0,rfl,rfl,by have:=HOW1.out;simpa [EC] using this,HX1.out.1,HX1.out.2,HNE.out,HBR1.out⟩
   case round=>
    obtain ⟨j,hgi,rfl,hown2,d1,d2,hne2,hb2⟩:=hrel
    have HB2:Hid (Below w.heap.size w wr):=hb2
    by_cases hjn:j < lb.length
    ·
     obtain ⟨⟨x',y'⟩,hp,hmem⟩:=Ai lb j hjn
     obtain ⟨b',off',rfl,hlt',hc⟩:=HB.out.some (by omega)
     have e1:=cell_later hb2 (hc j x' y' hp).1
     have e2:=cell_later hb2 (hc j x' y' hp).2
     obtain ⟨r1,r2,r3,r4⟩:=Ap (KB.out _ hmem)
     simp only [] at r1 r2 r3 r4
     have hts:lb.take (j+1)=lb.take j ++ [(x',y')]:=by rw [List.take_add_one,hp];rfl
     have HSJ:Hid (T0 ++ EC (x,y) (lb.take (j+1))=(T0 ++ EC (x,y) (lb.take j)) ++ [(x+x',y+y')]):=by show _=_;rw [hts,Pf,List.append_assoc]
     have hT1:(T0 ++ EC (x,y) (lb.take j)).length ≤ 42:=by simp [EC];omega
     generalize T0 ++ EC (x,y) (lb.take j)=T1 at *
     obtain ⟨a3,n3,k3,rfl⟩:∃ a3 n3 k3,u5=.slice a3 n3 k3:=by obtain ⟨a,c,e,_⟩:=hown2.open;exact ⟨_,_,_,e⟩
     have HOWr:Hid (wr.ownsRow w.heap.size 83 2 (.slice a3 n3 k3) T1.length (Ar T1)):=hown2
     have HNE2:Hid ((Value.slice a3 n3 k3).ownBlock ≠ some wO.heap.size):=hne2
     have hlt0:=Ck d1
     have HNW:Hid (∀ j u,[Value.int .i64 (x+x'),.int .i64 (y+y')][j]? = some u → ((wr.alloc (.cells #[.int .i64 x',.int .i64 y'] 83)).alloc (.cells #[.int .i64 (x+x'),.int .i64 (y+y')] 83)).cell? ((⟨wr.heap.size+1,0,none⟩:Addr).add j)=some u):=by
      have:=Er (wr.alloc (.cells #[.int .i64 x',.int .i64 y'] 83)) (x+x') (y+y')
      rw [show (wr.alloc (.cells #[.int .i64 x',.int .i64 y'] 83)).heap.size=wr.heap.size+1 by simp] at this
      exact this
     simp only [] at hlt0
     clear hc hp hmem hts hown2 hne2 hb2
     go_wp2_with (at_builtin;refine wpList_append_own_at _ rfl _ _ 62 rfl w.heap.size 83 i0 (.agg #[.int .i64 0,.int .i64 0]) 2 16 Tryz.underlying62 hi hz0 hz1 hz2 rfl (by decide) (.slice a3 n3 k3) T1.length (Ar T1) rfl ((HOWr.out.alloc _).alloc _) ⟨wr.heap.size+1,0,none⟩ 1 1 [.int .i64 (x+x'),.int .i64 (y+y')] rfl rfl HNW.out (Et _ _) (by unfold maxLen;omega) (by omega) (Nat.le_trans HB2.out.size (by simp;omega)) ?_;intro v3 w3 hown3 hgrow3 _ hat3)
     have HB3:Hid (Below w.heap.size w w3):=A9.grownT (ls:=T1) ((HB2.out.alloc HB2.out.size _).alloc (by have:=HB2.out.size;simp;omega) _) ((HOWr.out.alloc _).alloc _) hgrow3
     have HO3:Hid (A9 w3 w.heap.size v3 (T1 ++ [(x+x',y+y')])):=A9.snoc hown3
     have HN3:Hid (v3.ownBlock ≠ some wO.heap.size):=by
      show _ ≠ _
      rcases hat3 with h | h
      · rw [h];exact HNE2.out
      · rw [h];intro e;injection e with e;simp at e;omega
     have f1:w3.cell? ⟨wO.heap.size,0,none⟩=some (.int .i64 x):=hgrow3.cell (cell_later (((Below.refl _ _).alloc (Nat.le_refl _) _).alloc (by simp) _) d1) (fun e=>HNE2.out e.symm)
     have f2:w3.cell? ⟨wO.heap.size,1,none⟩=some (.int .i64 y):=hgrow3.cell (cell_later (((Below.refl _ _).alloc (Nat.le_refl _) _).alloc (by simp) _) d2) (fun e=>HNE2.out e.symm)
     obtain ⟨a4,n4,k4,rfl⟩:∃ a4 n4 k4,v3=.slice a4 n4 k4:=by obtain ⟨a,c,e,_⟩:=HO3.out.open;exact ⟨_,_,_,e⟩
     clear hown3 hgrow3 hat3 d1 d2
     go_wp2_with fail
     go_roundg (gk - 1)
     case measure=>omega
     case rel=>exact ⟨j+1,by omega,by go_num,by rw [HSJ.out];exact HO3.out,f1,f2,HN3.out,HB3.out⟩
    ·
     have hj':j=lb.length:=by omega
     subst hj'
     rw [List.take_length] at hown2
     have HO3:Hid (A9 wr w.heap.size u5 (T0 ++ EC (x,y) lb)):=hown2
     obtain ⟨a3,n3,k3,rfl⟩:∃ a3 n3 k3,u5=.slice a3 n3 k3:=by obtain ⟨a,c,e,_⟩:=hown2.open;exact ⟨_,_,_,e⟩
     clear hown2 hb2 hne2 d1 d2
     go_wp2_with fail
     go_roundg (GK - 1)
     case measure=>omega
     case rel=>exact ⟨k+1,by omega,by go_num,by rw [HS.out];exact HO3.out,HB2.out⟩
  ·
   have hk':k=la.length:=by omega
   subst hk'
   rw [List.take_length] at hown
   obtain ⟨a0,n0,k0,rfl⟩:∃ a0 n0 k0,u5=.slice a0 n0 k0:=by obtain ⟨a,c,e,_⟩:=hown.open;exact ⟨_,_,_,e⟩
   have HOW:Hid (A9 wr w.heap.size (.slice a0 n0 k0) (Bi la lb)):=hown
   clear hown hbr
   go_wp2_with fail
   go_ret
   exact ⟨_,rfl,HOW.out,HBR.out⟩
end Go.Proofs.YtipdclphpkgceaaGreatDoor
