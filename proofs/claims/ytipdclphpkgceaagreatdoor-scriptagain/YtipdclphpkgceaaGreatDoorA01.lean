/- Own facts, put together: no statement of its own. -/
import Derived.Below
import Derived.Test.YtipdclphpkgceaaGreatDoorRows
import Derived.WalkKit
import Derived.WalkSpells
import Derived.WalkLawsBesides
import Derived.BigQuiet
import Derived.Test.YtipdclphpkgceaaGreatDoorTie
import Derived.ProofKit
import Derived.OpenShut
import Derived.ShutString
import Derived.ChangeOld
import Derived.ChangeVars
import Derived.Deep.SlicePairs
import Derived.Lib.SmallJoins
import Derived.LaidMore
import Derived.LaidLaws
import Derived.LaidHandle
import Derived.Stop.LaidErr
import Derived.Stop.Joined
import Derived.Laws.MakeOwn
set_option maxRecDepth 100000

namespace Go.Proofs.YtipdclphpkgceaaGreatDoor
open Go.RowKit
structure But (S:Nat → Prop) (w w':World):Prop where
 os:w'.os=w.os
 tape:w'.tape=w.tape
 output:w'.output=w.output
 size:w.heap.size ≤ w'.heap.size
 block:∀ k,k < w.heap.size → ¬ S k → w'.heap[k]? = w.heap[k]?
theorem But.refl (S:Nat → Prop) (w:World):But S w w:=⟨rfl,rfl,rfl,Nat.le_refl _,fun _ _ _=>rfl⟩
theorem But.trans {S:Nat → Prop} {a b c:World} (h:But S a b) (k:But S b c):But S a c:=
 ⟨k.os.trans h.os,k.tape.trans h.tape,k.output.trans h.output,Nat.le_trans h.size k.size,fun i hi hs=>(k.block i (Nat.lt_of_lt_of_le hi h.size) hs).trans (h.block i hi hs)⟩
theorem But.mono {S S':Nat → Prop} {w w':World} (h:But S w w') (hS:∀ k,S k → S' k):But S' w w':=⟨h.os,h.tape,h.output,h.size,fun k hk hs=>h.block k hk fun h'=>hs (hS k h')⟩
theorem But.ofBelow {S:Nat → Prop} {w w':World} (h:Below w.heap.size w w'):But S w w':=⟨h.os,h.tape,h.output,h.size,fun k hk _=>h.block k hk⟩
theorem But.below {S:Nat → Prop} {B:Nat} {w w':World} (h:But S w w') (hB:B ≤ w.heap.size) (hS:∀ k,S k → B ≤ k):Below B w w':=
 ⟨h.os,h.tape,h.output,h.size,fun k hk=>h.block k (Nat.lt_of_lt_of_le hk hB) fun h'=>by have:=hS k h';omega⟩
theorem But.alloc {S:Nat → Prop} {a w:World} (h:But S a w) (o:Obj):But S a (w.alloc o):=h.trans (.ofBelow ((Below.refl _ _).alloc (Nat.le_refl _) o))
theorem But.drew {S:Nat → Prop} {a w:World} (h:But S a w):But S a w.drew:=⟨h.os,h.tape,h.output,h.size,h.block⟩
theorem But.setCell {S:Nat → Prop} {a w:World} (h:But S a w) {p:Addr} (hp:S p.block) (u:Value):But S a (w.setCell p u):=
 h.trans ⟨rfl,rfl,rfl,by simp [World.setCell],fun k _ hs=>Below.heap_setCell _ _ _ _ fun e=>hs (by rw [e];exact hp)⟩
theorem But.cell {S:Nat → Prop} {w w':World} (h:But S w w') {p:Addr} (hp:p.block < w.heap.size) (hs:¬ S p.block):w'.cell? p=w.cell? p:=World.cell?_of_block (w:=w) (h.block p.block hp hs)
theorem But.frozen {S:Nat → Prop} {w w':World} (h:But S w w') {p:Addr} (hp:p.block < w.heap.size) (hs:¬ S p.block):w'.frozen? p=w.frozen? p:=World.frozen?_of_block (w:=w) (h.block p.block hp hs)
theorem Ai {α:Type} (l:List α) (k:Nat) (h:k < l.length):∃ p,l[k]? = some p ∧ p ∈ l:=⟨l[k],by simp [h],List.getElem_mem h⟩
theorem Ck {w:World} {a:Addr} {v:Value} (h:w.cell? a=some v):a.block < w.heap.size:=by
 rcases Nat.lt_or_ge a.block w.heap.size with h' | h'
 · exact h'
 · simp [World.cell?,Array.getElem?_eq_none h'] at h
theorem CR {w:World} {base base':Nat} {e:TypeId} {size:Nat} {v:Value} {n:Nat} {xs:List Value} (h:w.ownsRow base e size v n xs) (hb:base' ≤ base):w.ownsRow base' e size v n xs:=by
 obtain ⟨h1,h2 | ⟨g,cap,cur,hv,hB,r⟩⟩:=h
 · exact ⟨h1,.inl h2⟩
 · exact ⟨h1,.inr ⟨g,cap,cur,hv,Nat.le_trans hb hB,r⟩⟩
theorem But.one {g:Nat} {B:Nat} {w w':World} (h:But (fun k=>k=g) w w') (hB:B ≤ w.heap.size) (hg:B ≤ g):Below B w w':=h.below hB (fun k hk=>by rw [hk];exact hg)
structure Ii (w:World) (ad:Nat → Addr):Prop where
 c1:w.cell? ⟨0,0,none⟩=some (.iface 312 (.pointer (some (ad 1))))
 c4:w.cell? ⟨4,0,none⟩=some (.iface 312 (.pointer (some (ad 4))))
theorem Ii.below {w w':World} {ad:Nat → Addr} (h:Ii w ad) (hb:Below w.heap.size w w'):Ii w' ad:=
 ⟨cell_later hb h.c1,cell_later hb h.c4⟩
def Ec (ad:Nat → Addr):Nat → Value
 | 0=>.nilIface
 | k+1=>.iface 312 (.pointer (some (ad k)))
end Go.Proofs.YtipdclphpkgceaaGreatDoor

namespace Go.Proofs.YtipdclphpkgceaaGreatDoor
open Go.ChangeShapes Go.WideShapes Go.ChangeAt Go.RowKit
theorem Tryz.own:ownKnob Tryz.prog.godebug=none:=by kernel_rfl
theorem Tryz.laidOut:laidOutB Tryz.prog=true:=by kernel_rfl
theorem Tryz.cellsInt:Tryz.prog.cellsOf 3=1:=by kernel_rfl
theorem Tryz.cellsES:Tryz.prog.cellsOf 330=1:=by kernel_rfl
theorem Tryz.cellsStr:Tryz.prog.cellsOf 9=1:=by kernel_rfl
def PQ:String:=match (Rows.laid_floodgate_api_ErrBound:DataW Unit) with | .iface n _=>n | _ => "none"
theorem Wm {P:Program} {tp:TypeId} {s:String} (hs:s=PQ) (h:((List.range P.types.size).all fun u=>P.typeName? 3 u != some PQ || u == tp)=true):((List.range P.types.size).all fun u=>P.typeName? 3 u != some s || u == tp)=true:=by
 rw [hs]
 exact h
theorem Tryz.rowPES (u:TypeId) (h:Tryz.prog.typeName? 3 u=some PQ):u=312:=
 typeName_ptr_named (P:=Tryz.prog) (nm := "errors.errorString") (tp:=312) (Wm (by decide) (by kernel_rfl)) (by kernel_rfl) (by decide) u (h.trans (congrArg some (by decide)))
theorem Cs {n nm:String} {text:List UInt8} {r:List (String × DataW Unit)} {W:World} {g:Nat}
  (h:laidMet Tryz.prog ((n,.iface nm (.ptr (.agg [.lit (.string text)]))) :: r) W)
  (hnm:nm=PQ) (hg:Tryz.prog.globalNamed n=some g) (ht:(Tryz.prog.globals[g]?).map (·.type)=some 25) :
  ∃ (a:Addr) (s:ByteArray),W.cell? ⟨g,0,none⟩=some (.iface 312 (.pointer (some a))) ∧ W.cell? a=some (.string s) ∧ s.data.toList=text ∧ ∃ c t,W.heap[a.block]? = some (.cells c t (0,0)):=by
 obtain ⟨ps,⟨g0,t0,cs0,f0,p0,q0,hg0,ht0,hv0,hd0,_,e0⟩,_,hrows⟩:=h
 obtain rfl:=Option.some.inj (hg.symm.trans hg0)
 obtain rfl:=Option.some.inj (ht.symm.trans ht0)
 subst e0
 obtain ⟨l0⟩:=cs0
 have ok0:∀ u v,l0=[.iface u v] → Value.okWide Tryz.prog W .any 0 u v:=fun u v e=>by
  subst e
  exact (hrows g 0 (by simp [MemPlace.row])).2 u v (by simpa using World.var?_cell hg0 hv0 0)
 obtain ⟨a0,s0,rfl,hc0,hs0,hz0,rfl⟩:=errorString_of_trod Tryz.underlying25 (fun u hu=>Tryz.rowPES u (by rw [← hnm];exact hu)) Tryz.underlying312 Tryz.underlying330 rfl rfl Tryz.underlying9 Tryz.cellsES Tryz.cellsStr hd0 ok0
 exact ⟨a0,s0,by simpa using World.var?_cell hg0 hv0 0,hc0,hs0,(hrows a0.block a0.off (by simp [MemPlace.row])).1⟩
end Go.Proofs.YtipdclphpkgceaaGreatDoor

namespace Go.Proofs.YtipdclphpkgceaaGreatDoor
open Go.RowKit
def BF (x y:Int):Bool:=decide (1 ≤ x ∧ x ≤ 20000 ∧ 0 ≤ y ∧ y ≤ 100000)
theorem Ap {x y:Int} (h:BF x y=true):1 ≤ x ∧ x ≤ 20000 ∧ 0 ≤ y ∧ y ≤ 100000:=of_decide_eq_true h
def Bq (t x y:Int):Int:=x+y * t / 1000
def BL (t:Int):Int → List (Int × Int) → Int
 | m,[]=>m
 | m,p :: r=>BL t (min m (Bq t p.1 p.2)) r
def Bt (t:Int):List (Int × Int) → Int
 | []=>0
 | p :: r=>BL t (Bq t p.1 p.2) r
def BJ (ls:List (Int × Int)):Prop:=∀ p,p ∈ ls → BF p.1 p.2=true
def Ag (ls:List (Int × Int)):Prop:=1 ≤ ls.length ∧ ls.length ≤ 6 ∧ BJ ls
theorem Qc (t:Int) (l:List (Int × Int)):∀ (m:Int) (p:Int × Int),BL t m (l ++ [p])=min (BL t m l) (Bq t p.1 p.2):=by
 induction l with
 | nil=>intro m p;rfl
 | cons q r ih=>intro m p;exact ih _ p
theorem Y9 (a b:Int):(if b < a then b else a)=min a b:=by split <;> omega
theorem Ql {y t:Int} (h0:0 ≤ y) (h1:y ≤ 100000) (t0:0 ≤ t) (t1:t ≤ 1099511627776):0 ≤ y * t ∧ y * t ≤ 109951162777600000:=by
 refine ⟨Int.mul_nonneg h0 t0,?_⟩
 have a:y * t ≤ 100000 * t:=Int.mul_le_mul_of_nonneg_right h1 t0
 omega
theorem K9 {t x y:Int} (h:BF x y=true) (t0:0 ≤ t) (t1:t ≤ 1099511627776):1 ≤ Bq t x y ∧ Bq t x y ≤ 109951162797600000:=by
 obtain ⟨a,b,c,d⟩:=Ap h
 have:=Ql c d t0 t1
 unfold Bq
 omega
theorem T9 (t:Int) (t0:0 ≤ t) (t1:t ≤ 1099511627776) (l:List (Int × Int)):∀ m:Int,1 ≤ m → m ≤ 109951162797600000 → BJ l → 1 ≤ BL t m l ∧ BL t m l ≤ 109951162797600000 ∧ BL t m l ≤ m:=by
 induction l with
 | nil=>intro m h1 h2 _;exact ⟨h1,h2,Int.le_refl _⟩
 | cons q r ih=>
  intro m h1 h2 hok
  have hb:=K9 (hok q (List.mem_cons_self ..)) t0 t1
  have:=ih (min m (Bq t q.1 q.2)) (by omega) (by omega) (fun p hp=>hok p (List.mem_cons_of_mem _ hp))
  exact ⟨this.1,this.2.1,by show BL t (min m (Bq t q.1 q.2)) r ≤ m;have:=this.2.2;omega⟩
end Go.Proofs.YtipdclphpkgceaaGreatDoor

namespace Go.Proofs.YtipdclphpkgceaaGreatDoor
theorem U0 (t:Int) (l:List (Int × Int)):∀ m:Int,BL t m l ≤ m ∧ ∀ p,p ∈ l → BL t m l ≤ Bq t p.1 p.2:=by
 induction l with
 | nil=>intro m;exact ⟨Int.le_refl _,fun p hp=>by cases hp⟩
 | cons q r ih=>
  intro m
  have:=ih (min m (Bq t q.1 q.2))
  refine ⟨?_,fun p hp=>?_⟩
  ·
   show BL t (min m (Bq t q.1 q.2)) r ≤ m
   have:=this.1;omega
  ·
   show BL t (min m (Bq t q.1 q.2)) r ≤ _
   rcases List.mem_cons.1 hp with rfl | hp
   · have:=this.1;omega
   · exact this.2 p hp
theorem TW (t:Int) (l:List (Int × Int)):∀ m:Int,BL t m l=m ∨ ∃ p,p ∈ l ∧ BL t m l=Bq t p.1 p.2:=by
 induction l with
 | nil=>intro m;exact .inl rfl
 | cons q r ih=>
  intro m
  show BL t (min m (Bq t q.1 q.2)) r=m ∨ ∃ p,p ∈ q :: r ∧ BL t (min m (Bq t q.1 q.2)) r=Bq t p.1 p.2
  rcases ih (min m (Bq t q.1 q.2)) with h | ⟨p,hp,h⟩
  ·
   rw [h]
   by_cases hm:m ≤ Bq t q.1 q.2
   · exact .inl (by omega)
   · exact .inr ⟨q,List.mem_cons_self ..,by omega⟩
  · exact .inr ⟨p,List.mem_cons_of_mem _ hp,h⟩
theorem Ip (t:Int) (ls:List (Int × Int)) (p:Int × Int) (hp:p ∈ ls):Bt t ls ≤ Bq t p.1 p.2:=by
 cases ls with
 | nil=>cases hp
 | cons q r=>
  have:=U0 t r (Bq t q.1 q.2)
  rcases List.mem_cons.1 hp with rfl | hp
  · exact this.1
  · exact this.2 p hp
theorem Ib (t:Int) (ls:List (Int × Int)) (h:1 ≤ ls.length):∃ p,p ∈ ls ∧ Bt t ls=Bq t p.1 p.2:=by
 cases ls with
 | nil=>simp at h
 | cons q r=>
  rcases TW t r (Bq t q.1 q.2) with h | ⟨p,hp,h⟩
  · exact ⟨q,List.mem_cons_self ..,h⟩
  · exact ⟨p,List.mem_cons_of_mem _ hp,h⟩
theorem Nz (t:Int) (ls:List (Int × Int)) (h:Ag ls) (t0:0 ≤ t) (t1:t ≤ 1099511627776):1 ≤ Bt t ls ∧ Bt t ls ≤ 109951162797600000:=by
 obtain ⟨p,hp,e⟩:=Ib t ls h.1
 rw [e]
 exact K9 (h.2.2 p hp) t0 t1
structure Bk where
 most:Int
 rate:Int
 has:Int
 last:Int
structure Bk.Ok (b:Bk):Prop where
 m0:1000 ≤ b.most
 m1:b.most ≤ 20000000
 r0:0 ≤ b.rate
 r1:b.rate ≤ 100000
 h0:0 ≤ b.has
 h1:b.has ≤ b.most
 l0:0 ≤ b.last
 l1:b.last ≤ 1099511627776
def Bk.lev (b:Bk) (t:Int):Int:=min b.most (b.has+b.rate * (t - b.last))
def Bk.take (b:Bk) (t n:Int):Bk:=if n * 1000 ≤ b.lev t then ⟨b.most,b.rate,b.lev t - n * 1000,t⟩ else ⟨b.most,b.rate,b.lev t,t⟩
def Bk.when (b:Bk) (t n:Int):Option Int:=
 if n * 1000 ≤ b.lev t then some t
 else if b.most < n * 1000 ∨ b.rate=0 then none
 else if 1099511627776 - t < (n * 1000 - b.lev t+b.rate - 1) / b.rate then none
 else some (t+(n * 1000 - b.lev t+b.rate - 1) / b.rate)
def DD (last t:Int):Nat:=if 0 ≤ t ∧ t ≤ 1099511627776 then (if t < last then 5 else 0) else 2
def Dq (last t n:Int):Nat:=if 1 ≤ n ∧ n ≤ 1500 then DD last t else 2
theorem Vu {last t:Int}:DD last t=0 ↔ 0 ≤ t ∧ t ≤ 1099511627776 ∧ last ≤ t:=by unfold DD;split <;> (try split) <;> simp <;> omega
theorem Jl {last t n:Int}:Dq last t n=0 ↔ 1 ≤ n ∧ n ≤ 1500 ∧ 0 ≤ t ∧ t ≤ 1099511627776 ∧ last ≤ t:=by unfold Dq;split <;> simp [Vu] <;> omega
def F7 (p:Int × Int):Bk:=⟨p.1 * 1000,p.2,p.1 * 1000,0⟩
theorem Z5 {p:Int × Int} (h:BF p.1 p.2=true):(F7 p).Ok:=by
 obtain ⟨a,b,c,d⟩:=Ap h
 constructor <;> simp [F7] <;> omega
theorem Ha (r a b c:Int):r * (a - c)=r * (b - c)+r * (a - b):=by
 simp only [Int.mul_sub];omega
theorem Bk.Ok.grow {b:Bk} (h:b.Ok) {t:Int} (ht:b.last ≤ t) (t1:t ≤ 1099511627776):0 ≤ b.rate * (t - b.last) ∧ b.rate * (t - b.last) ≤ 109951162777600000:=
 Ql h.r0 h.r1 (by omega) (by have:=h.l0;omega)
theorem Bk.Ok.lev_bd {b:Bk} (h:b.Ok) {t:Int} (ht:b.last ≤ t):0 ≤ b.lev t ∧ b.lev t ≤ b.most:=by
 have:=Int.mul_nonneg h.r0 (show 0 ≤ t - b.last by omega)
 have:=h.h0;have:=h.h1;have:=h.m0
 unfold Bk.lev;omega
theorem Bk.lev_mono {b:Bk} (h:0 ≤ b.rate) {s t:Int} (hs:s ≤ t):b.lev s ≤ b.lev t:=by
 have:=Ha b.rate t s b.last
 have:=Int.mul_nonneg h (show 0 ≤ t - s by omega)
 unfold Bk.lev;omega
theorem Bk.Ok.take {b:Bk} (h:b.Ok) {t n:Int} (ht:b.last ≤ t) (t1:t ≤ 1099511627776) (hn:0 ≤ n):(b.take t n).Ok:=by
 have:=h.lev_bd ht
 have:=h.l0
 unfold Bk.take
 split <;> exact ⟨h.m0,h.m1,h.r0,h.r1,by simp;omega,by simp;omega,by simp;omega,by simp;omega⟩
theorem Bk.take_last (b:Bk) (t n:Int):(b.take t n).last=t:=by unfold Bk.take;split <;> rfl
theorem XU {r x:Int} (hr:0 < r):x ≤ r * ((x+r - 1) / r) ∧ r * ((x+r - 1) / r) < x+r:=by
 have h1:=Int.mul_ediv_add_emod (x+r - 1) r
 have h2:=Int.emod_nonneg (x+r - 1) (show r ≠ 0 by omega)
 have h3:=Int.emod_lt_of_pos (x+r - 1) hr
 omega
theorem Bk.when_some {b:Bk} (h:b.Ok) {t n T:Int} (t1:t ≤ 1099511627776) (e:b.when t n=some T) :
  t ≤ T ∧ T ≤ 1099511627776 ∧ n * 1000 ≤ b.lev T ∧ ∀ s,t ≤ s → s < T → b.lev s < n * 1000:=by
 unfold Bk.when at e
 split at e
 ·
  rename_i h1
  cases e
  exact ⟨Int.le_refl _,t1,h1,fun s h2 h3=>by omega⟩
 ·
  rename_i h1
  split at e
  · cases e
  ·
   rename_i h2
   split at e
   · cases e
   ·
    rename_i h3
    have hr:0 < b.rate:=by have:=h.r0;omega
    have hd:=XU (r:=b.rate) (x:=n * 1000 - b.lev t) hr
    have hm:¬ b.most < n * 1000:=fun h=>h2 (.inl h)
    generalize hk:(n * 1000 - b.lev t+b.rate - 1) / b.rate=k at e h3 hd
    cases e
    have hk0:0 < k:=by
     by_cases h0:0 < k
     · exact h0
     ·
      have:=Int.mul_le_mul_of_nonneg_left (show k ≤ 0 by omega) h.r0
      simp at this;omega
    have hlt:b.lev t=b.has+b.rate * (t - b.last):=by unfold Bk.lev at h1 ⊢;omega
    have hT:=Ha b.rate (t+k) t b.last
    rw [show t+k - t=k by omega] at hT
    refine ⟨by omega,by omega,?_,fun s h4 h5=>?_⟩
    · unfold Bk.lev;omega
    ·
     have hS:=Ha b.rate s t b.last
     have h6:b.rate * (s - t) ≤ b.rate * (k - 1):=Int.mul_le_mul_of_nonneg_left (by omega) h.r0
     have h7:b.rate * (k - 1)=b.rate * k - b.rate:=by simp [Int.mul_sub]
     unfold Bk.lev;omega
structure Pk where
 flow:Int
 size:Int
 tick:Int
def Jr (p:Pk):Bool:=decide (0 ≤ p.flow ∧ p.flow < 8 ∧ 1 ≤ p.size ∧ p.size ≤ 1500 ∧ 0 ≤ p.tick ∧ p.tick ≤ 1099511627776)
theorem Bb {p:Pk} (h:Jr p=true):0 ≤ p.flow ∧ p.flow < 8 ∧ 1 ≤ p.size ∧ p.size ≤ 1500 ∧ 0 ≤ p.tick ∧ p.tick ≤ 1099511627776:=of_decide_eq_true h
theorem ZA {p:Pk} (h:0 ≤ p.flow ∧ p.flow < 8 ∧ 1 ≤ p.size ∧ p.size ≤ 1500 ∧ 0 ≤ p.tick ∧ p.tick ≤ 1099511627776):Jr p=true:=decide_eq_true h
def ahead (ps:List Pk):Nat → Int
 | 0=>0
 | i+1=>match ps[i]? with | some p=>p.tick | none=>0
structure Aj (ps:List Pk):Prop where
 few:ps.length ≤ 300
 each:∀ i p,ps[i]? = some p → Jr p=true ∧ ahead ps i ≤ p.tick
theorem Eh:Aj []:=⟨by simp,fun i p h=>by simp at h⟩
def total:List Pk → Int
 | []=>0
 | p :: r=>p.size+total r
theorem Uy (ps:List Pk) (p:Pk):total (ps ++ [p])=total ps+p.size:=by
 induction ps with
 | nil=>simp [total]
 | cons q r ih=>simp [total,ih];omega
def ends:List Pk → List (Int × Int)
 | []=>[]
 | p :: r=>(p.tick,total (p :: r)) :: ends r
theorem PL (ps:List Pk) (p:Pk) (a s:Int):(a,s) ∈ ends (ps ++ [p]) ↔ (a,s - p.size) ∈ ends ps ∨ (a=p.tick ∧ s=p.size):=by
 induction ps with
 | nil=>simp [ends,total]
 | cons q r ih=>
  show (a,s) ∈ (q.tick,total (q :: (r ++ [p]))) :: ends (r ++ [p]) ↔ (a,s - p.size) ∈ (q.tick,total (q :: r)) :: ends r ∨ _
  have ht:total (q :: (r ++ [p]))=total (q :: r)+p.size:=Uy (q :: r) p
  simp only [List.mem_cons,Prod.mk.injEq,ht,ih]
  constructor
  ·
   rintro (⟨h1,h2⟩ | h | h)
   · exact .inl (.inl ⟨h1,by omega⟩)
   · exact .inl (.inr h)
   · exact .inr h
  ·
   rintro ((⟨h1,h2⟩ | h) | h)
   · exact .inl ⟨h1,by omega⟩
   · exact .inr (.inl h)
   · exact .inr (.inr h)
def D5 (ls:List (Int × Int)) (ps:List Pk) (p:Pk):Prop:=∀ a s,(a,s) ∈ ends (ps ++ [p]) → s ≤ Bt (p.tick - a) ls
def JX (ls:List (Int × Int)) (a c:Int):List Pk → Bool
 | []=>true
 | p :: r=>decide (c+p.size ≤ Bt (p.tick - a) ls) && JX ls a (c+p.size) r
def Oa (ls:List (Int × Int)):List Pk → Bool
 | []=>true
 | p :: r=>JX ls p.tick 0 (p :: r) && Oa ls r
theorem R8 (ls:List (Int × Int)) (a:Int) (ps:List Pk) (p:Pk):∀ c,JX ls a c (ps ++ [p])=true ↔ JX ls a c ps=true ∧ c+total (ps ++ [p]) ≤ Bt (p.tick - a) ls:=by
 induction ps with
 | nil=>intro c;simp [JX,total]
 | cons q r ih=>
  intro c
  have ht:total (q :: r ++ [p])=q.size+total (r ++ [p]):=rfl
  simp only [List.cons_append,JX,Bool.and_eq_true,ih] at *
  rw [ht,Int.add_assoc,and_assoc]
theorem TS (ls:List (Int × Int)) (ps:List Pk) (p:Pk):Oa ls (ps ++ [p])=true ↔ Oa ls ps=true ∧ D5 ls ps p:=by
 induction ps with
 | nil=>simp [Oa,JX,D5,ends,total]
 | cons q r ih=>
  have h1:=R8 ls q.tick (q :: r) p 0
  simp only [List.cons_append] at h1
  simp only [List.cons_append,Oa,Bool.and_eq_true,h1,ih]
  have h2:D5 ls (q :: r) p ↔ 0+total (q :: (r ++ [p])) ≤ Bt (p.tick - q.tick) ls ∧ D5 ls r p:=by
   show (∀ a s,(a,s) ∈ (q.tick,total (q :: (r ++ [p]))) :: ends (r ++ [p]) → _) ↔ _
   simp only [List.mem_cons,Prod.mk.injEq,Int.zero_add]
   constructor
   ·
    intro h
    exact ⟨h _ _ (.inl ⟨rfl,rfl⟩),fun a s hm=>h a s (.inr hm)⟩
   ·
    rintro ⟨h,h'⟩ a s (⟨rfl,rfl⟩ | hm)
    · exact h
    · exact h' a s hm
  rw [h2]
  exact ⟨fun ⟨⟨a,b⟩,c,d⟩=>⟨⟨a,c⟩,b,d⟩,fun ⟨⟨a,c⟩,b,d⟩=>⟨⟨a,b⟩,c,d⟩⟩
theorem TM (t s:Int) (ls:List (Int × Int)) (h:1 ≤ ls.length):s ≤ Bt t ls ↔ ∀ p,p ∈ ls → s ≤ Bq t p.1 p.2:=by
 constructor
 ·
  intro hs p hp
  have:=Ip t ls p hp
  omega
 ·
  intro hs
  obtain ⟨p,hp,e⟩:=Ib t ls h
  rw [e]
  exact hs p hp
theorem ND (ls:List (Int × Int)) (h:1 ≤ ls.length) (ps:List Pk) (p:Pk):D5 ls ps p ↔ ∀ q,q ∈ ls → D5 [q] ps p:=by
 have h1:∀ q:Int × Int,∀ t s,s ≤ Bt t [q] ↔ s ≤ Bq t q.1 q.2:=fun q t s=>by simp [Bt,BL]
 simp only [D5,TM _ _ ls h,h1]
 exact ⟨fun H q hq a s hm=>H a s hm q hq,fun H a s hm q hq=>H q hq a s hm⟩
structure Passed (q:Int × Int) (ps:List Pk) (b:Bk):Prop where
 most:b.most=q.1 * 1000
 rate:b.rate=q.2
 lev:∀ t v,b.last ≤ t → (v ≤ b.lev t ↔ v ≤ q.1 * 1000 ∧ ∀ a s,(a,s) ∈ ends ps → v+s * 1000 ≤ q.1 * 1000+q.2 * (t - a))
theorem Sz (q:Int × Int) (h:0 ≤ q.2):Passed q [] (F7 q):=by
 refine ⟨rfl,rfl,fun t v ht=>?_⟩
 have:=Int.mul_nonneg h (show 0 ≤ t - 0 by simpa [F7] using ht)
 simp only [Bk.lev,F7,ends] at *
 constructor
 · intro hv;exact ⟨by omega,fun a s hm=>by cases hm⟩
 · intro hv;omega
theorem Passed.fits {q:Int × Int} {ps:List Pk} {b:Bk} (h:Passed q ps b) (p:Pk) (hp:b.last ≤ p.tick):p.size * 1000 ≤ b.lev p.tick ↔ D5 [q] ps p:=by
 rw [h.lev _ _ hp]
 have h1:∀ t s,s ≤ Bt t [q] ↔ s * 1000 ≤ q.1 * 1000+q.2 * t:=fun t s=>by simp [Bt,BL,Bq];omega
 simp only [D5,h1,PL]
 constructor
 ·
  rintro ⟨h2,h3⟩ a s (hm | ⟨rfl,rfl⟩)
  · have:=h3 a _ hm;omega
  · simp;omega
 ·
  intro H
  refine ⟨by have:=H p.tick p.size (.inr ⟨rfl,rfl⟩);simp at this;omega,fun a s hm=>?_⟩
  have:=H a (s+p.size) (.inl (by simpa using hm))
  omega
theorem Passed.pass {q:Int × Int} {ps:List Pk} {b:Bk} (h:Passed q ps b) (r0:0 ≤ b.rate) (p:Pk) (ht:b.last ≤ p.tick) (hn:p.size * 1000 ≤ b.lev p.tick):Passed q (ps ++ [p]) (b.take p.tick p.size):=by
 have e:b.take p.tick p.size=⟨b.most,b.rate,b.lev p.tick - p.size * 1000,p.tick⟩:=by unfold Bk.take;rw [if_pos hn]
 refine ⟨by rw [e];exact h.most,by rw [e];exact h.rate,fun s v hs=>?_⟩
 rw [e] at hs ⊢
 simp only at hs
 have h2:=Int.mul_nonneg r0 (show 0 ≤ s - p.tick by omega)
 have hl:=h.lev p.tick (v+p.size * 1000 - b.rate * (s - p.tick)) ht
 have hm:=h.most
 have hr:=h.rate
 have key:v ≤ (Bk.mk b.most b.rate (b.lev p.tick - p.size * 1000) p.tick).lev s ↔ v ≤ b.most ∧ v+p.size * 1000 - b.rate * (s - p.tick) ≤ b.lev p.tick:=by simp only [Bk.lev];omega
 rw [key,hl,hm,hr]
 simp only [PL]
 constructor
 ·
  rintro ⟨h3,h4,h5⟩
  refine ⟨h3,fun a z hz=>?_⟩
  rcases hz with hz | ⟨rfl,rfl⟩
  ·
   have:=h5 a _ hz
   have:=Ha q.2 s p.tick a
   omega
  · omega
 ·
  rintro ⟨h3,h4⟩
  refine ⟨h3,?_,fun a z hz=>?_⟩
  · have:=h4 p.tick p.size (.inr ⟨rfl,rfl⟩);omega
  ·
   have:=h4 a (z+p.size) (.inl (by simpa using hz))
   have:=Ha q.2 s p.tick a
   omega
end Go.Proofs.YtipdclphpkgceaaGreatDoor

namespace Go.Proofs.YtipdclphpkgceaaGreatDoor
open Go.RowKit
def AO (w:World) (a:Option Addr) (ps:List Pk):Prop:=
 ps=[] ∨ ∃ b off,a=some ⟨b,off,none⟩ ∧ b < w.heap.size ∧ ∀ (i:Nat) p,ps[i]? = some p → w.cell? ⟨b,off+i * 3,none⟩=some (.int .i64 p.flow) ∧ w.cell? ⟨b,off+i * 3+1,none⟩=some (.int .i64 p.size) ∧ w.cell? ⟨b,off+i * 3+2,none⟩=some (.int .i64 p.tick)
theorem AO.place {w:World} {a:Option Addr} {ps:List Pk} (h:AO w a ps) (h1:1 ≤ ps.length) :
  ∃ b off,a=some ⟨b,off,none⟩ ∧ b < w.heap.size ∧ ∀ (i:Nat) p,ps[i]? = some p → w.cell? ⟨b,off+i * 3,none⟩=some (.int .i64 p.flow) ∧ w.cell? ⟨b,off+i * 3+1,none⟩=some (.int .i64 p.size) ∧ w.cell? ⟨b,off+i * 3+2,none⟩=some (.int .i64 p.tick):=by
 rcases h with rfl | h
 · simp at h1
 · exact h
theorem AO.but {S:Nat → Prop} {w w':World} {a:Option Addr} {ps:List Pk} (h:AO w a ps) (hb:But S w w') (hs:∀ ad,a=some ad → ¬ S ad.block):AO w' a ps:=by
 rcases h with rfl | ⟨b,off,rfl,hlt,hc⟩
 · exact .inl rfl
 ·
  have hn:¬ S b:=hs _ rfl
  refine .inr ⟨b,off,rfl,Nat.lt_of_lt_of_le hlt hb.size,fun i p hi=>?_⟩
  have:=hc i p hi
  exact ⟨by rw [hb.cell (p:=⟨b,off+i * 3,none⟩) hlt hn];exact this.1,by rw [hb.cell (p:=⟨b,off+i * 3+1,none⟩) hlt hn];exact this.2.1,by rw [hb.cell (p:=⟨b,off+i * 3+2,none⟩) hlt hn];exact this.2.2⟩
theorem AO.below {w w':World} {a:Option Addr} {ps:List Pk} (h:AO w a ps) (hb:Below w.heap.size w w'):AO w' a ps:=
 h.but (S:=fun _=>False) (.ofBelow hb) (fun _ _ h=>h)
def BR (ps:List Pk):List Value:=ps.flatMap fun p=>[.int .i64 p.flow,.int .i64 p.size,.int .i64 p.tick]
theorem Ja (p:Pk) (r:List Pk):BR (p :: r)=.int .i64 p.flow :: .int .i64 p.size :: .int .i64 p.tick :: BR r:=rfl
theorem GA (a b:List Pk):BR (a ++ b)=BR a ++ BR b:=by simp [BR]
theorem Fa (ps:List Pk):(BR ps).length=ps.length * 3:=by
 induction ps with
 | nil=>rfl
 | cons p r ih=>rw [Ja];simp [ih];omega
theorem JI (ps:List Pk):∀ (i:Nat) p,ps[i]? = some p → (BR ps)[i * 3]? = some (.int .i64 p.flow) ∧ (BR ps)[i * 3+1]? = some (.int .i64 p.size) ∧ (BR ps)[i * 3+2]? = some (.int .i64 p.tick):=by
 induction ps with
 | nil=>intro i p h;simp at h
 | cons q r ih=>
  intro i p h
  rw [Ja]
  cases i with
  | zero=>simp at h;subst h;exact ⟨rfl,rfl,rfl⟩
  | succ i=>
   have:=ih i p (by simpa using h)
   rw [show (i+1) * 3=i * 3+1+1+1 by omega]
   exact ⟨by simpa using this.1,by simpa using this.2.1,by simpa using this.2.2⟩
theorem Pi (ps:List Pk):∀ j u,(BR ps)[j]? = some u → ∃ (i:Nat) (p:Pk),ps[i]? = some p ∧ ((j=i * 3 ∧ u=.int .i64 p.flow) ∨ (j=i * 3+1 ∧ u=.int .i64 p.size) ∨ (j=i * 3+2 ∧ u=.int .i64 p.tick)):=by
 induction ps with
 | nil=>intro j u h;simp [BR] at h
 | cons p r ih=>
  intro j u h
  rw [Ja] at h
  match j,h with
  | 0,h=>exact ⟨0,p,rfl,.inl ⟨rfl,by simpa using h.symm⟩⟩
  | 1,h=>exact ⟨0,p,rfl,.inr (.inl ⟨rfl,by simpa using h.symm⟩)⟩
  | 2,h=>exact ⟨0,p,rfl,.inr (.inr ⟨rfl,by simpa using h.symm⟩)⟩
  | j+3,h=>
   obtain ⟨i,q,hi,hj⟩:=ih j u (by simpa using h)
   refine ⟨i+1,q,by simpa using hi,?_⟩
   rcases hj with ⟨e,f⟩ | ⟨e,f⟩ | ⟨e,f⟩
   · exact .inl ⟨by omega,f⟩
   · exact .inr (.inl ⟨by omega,f⟩)
   · exact .inr (.inr ⟨by omega,f⟩)
theorem Nq (ps:List Pk):∀ u ∈ BR ps,u.oneCell'=true:=by
 intro u hu
 obtain ⟨j,hj⟩:=List.mem_iff_getElem?.1 hu
 obtain ⟨i,p,-,h⟩:=Pi ps j u hj
 rcases h with ⟨-,rfl⟩ | ⟨-,rfl⟩ | ⟨-,rfl⟩ <;> rfl
def DC (w:World) (B:Nat) (v:Value) (ps:List Pk):Prop:=w.ownsRow B 58 3 v ps.length (BR ps)
theorem DC.open {w:World} {B:Nat} {v:Value} {ps:List Pk} (h:DC w B v ps) :
  ∃ a cap,v=.slice a ps.length cap ∧ ps.length ≤ cap ∧ cap ≤ maxLen ∧ AO w a ps ∧ (∀ ad,a=some ad → B ≤ ad.block) ∧ (a=none → ps=[] ∧ cap=0):=by
 obtain ⟨hlen,⟨rfl,h0⟩ | ⟨g,cap,cur,rfl,hB,hg,hn,hm,hc,ht⟩⟩:=h
 · exact ⟨none,0,by rw [h0],by omega,by simp [maxLen],.inl (List.length_eq_zero_iff.1 h0),(fun ad e=>by cases e),fun _=>⟨List.length_eq_zero_iff.1 h0,rfl⟩⟩
 ·
  refine ⟨_,cap,rfl,hn,hm,.inr ⟨g,0,rfl,?_,fun i p hi=>?_⟩,(fun ad e=>by cases e;exact hB),fun e=>by cases e⟩
  ·
   rcases Nat.lt_or_ge g w.heap.size with h | h
   · exact h
   · simp [Array.getElem?_eq_none h] at hg
  ·
   have hh:w.ownsRow B 58 3 (.slice (some ⟨g,0,none⟩) ps.length cap) ps.length (BR ps):=⟨hlen,.inr ⟨g,cap,cur,rfl,hB,hg,hn,hm,hc,ht⟩⟩
   have hil:i < ps.length:=by
    rcases Nat.lt_or_ge i ps.length with h | h
    · exact h
    · simp [List.getElem?_eq_none h] at hi
   have:=JI ps i p hi
   rw [hh.cellAt _ (by omega),hh.cellAt _ (by omega),hh.cellAt _ (by omega),Nat.zero_add]
   exact this
theorem Mw {w:World} {ad:Addr} {ps:List Pk} (h:AO w (some ad) ps):∀ j u,(BR ps)[j]? = some u → w.cell? (ad.add j)=some u:=by
 intro j u hj
 obtain ⟨i,p,hi,hc⟩:=Pi ps j u hj
 rcases h with rfl | ⟨b,off,e,-,h⟩
 · simp at hi
 ·
  cases e
  have:=h i p hi
  rw [Addr.add_lit]
  rcases hc with ⟨rfl,rfl⟩ | ⟨rfl,rfl⟩ | ⟨rfl,rfl⟩
  · exact this.1
  · exact this.2.1
  · exact this.2.2
theorem Tryz.infoPkt:(Tryz.prog.info? 58).map (fun i=>(i.zero,i.size,i.bytes))=some (some (.agg #[.int .i64 0,.int .i64 0,.int .i64 0]),3,24):=by kernel_rfl
theorem Av {w w':World} {base:Nat} {e:TypeId} {size:Nat} {v:Value} {n:Nat} {xs:List Value} (h:w.ownsRow base e size v n xs) (hb:∀ g,v.ownBlock=some g → g < w.heap.size → w'.heap[g]? = w.heap[g]?):w'.ownsRow base e size v n xs:=by
 obtain ⟨h1,h2 | ⟨g,cap,cur,rfl,hB,hg,r⟩⟩:=h
 · exact ⟨h1,.inl h2⟩
 · exact ⟨h1,.inr ⟨g,cap,cur,rfl,hB,(hb g rfl (lt_of_block hg)).trans hg,r⟩⟩
theorem AX {w:World} {base:Nat} {e:TypeId} {size:Nat} {v:Value} {n:Nat} {xs:List Value} (h:w.ownsRow base e size v n xs) {g:Nat} (hg:v.ownBlock=some g):base ≤ g ∧ g < w.heap.size:=by
 obtain ⟨h1,⟨rfl,-⟩ | ⟨g',cap,cur,rfl,hB,hgc,r⟩⟩:=h
 · cases hg
 ·
  cases hg
  exact ⟨hB,lt_of_block hgc⟩
theorem Tryz.infoInt:(Tryz.prog.info? 3).map (fun i=>(i.zero,i.size,i.bytes))=some (some (.int .i64 0),1,8):=by kernel_rfl
theorem Km (u:Value) (n j:Nat) (h:j < n):(madeCells #[u] n)[j]? = some u:=by
 rw [Array.getElem?_eq_getElem (by rw [size_madeCells];exact h)]
 simp [madeCells,Nat.mod_one]
def AV (w:World) (a:Option Addr) (xs:List Int):Prop:=
 xs=[] ∨ ∃ b off,a=some ⟨b,off,none⟩ ∧ b < w.heap.size ∧ ∀ (i:Nat) x,xs[i]? = some x → w.cell? ⟨b,off+i,none⟩=some (.int .i64 x)
theorem AV.place {w:World} {a:Option Addr} {xs:List Int} (h:AV w a xs) (h1:1 ≤ xs.length):∃ b off,a=some ⟨b,off,none⟩ ∧ b < w.heap.size ∧ ∀ (i:Nat) x,xs[i]? = some x → w.cell? ⟨b,off+i,none⟩=some (.int .i64 x):=by
 rcases h with rfl | h
 · simp at h1
 · exact h
theorem AV.below {w w':World} {a:Option Addr} {xs:List Int} (h:AV w a xs) (hb:Below w.heap.size w w'):AV w' a xs:=by
 rcases h with rfl | ⟨b,off,rfl,hlt,hc⟩
 · exact .inl rfl
 · exact .inr ⟨b,off,rfl,Nat.lt_of_lt_of_le hlt hb.size,fun i x hi=>cell_later hb (hc i x hi)⟩
end Go.Proofs.YtipdclphpkgceaaGreatDoor

namespace Go.Proofs.YtipdclphpkgceaaGreatDoor
structure Sn where
 num:Int
 beg:Int
 fin:Int
structure Que (σ:Type) where
 come:σ → Nat → σ
 pick:σ → Nat
 left:σ → σ
 rest:σ → Nat
 idle:σ → σ:=fun q=>q
structure St (σ:Type) where
 out:List Sn
 now:Int
 next:Nat
 q:σ
structure Steps {σ:Type} (Q:Que σ) (per:Int) (ps:List Pk) (q0:σ) (C:St σ → Prop):Prop where
 start:C ⟨[],0,0,q0⟩
 come:∀ s p,C s → ps[s.next]? = some p → p.tick ≤ s.now → C ⟨s.out,s.now,s.next+1,Q.come s.q s.next⟩
 send:∀ s p,C s → (∀ r,ps[s.next]? = some r → s.now < r.tick) → 0 < Q.rest s.q → ps[Q.pick s.q]? = some p → C ⟨s.out ++ [⟨Q.pick s.q,s.now,s.now+per * p.size⟩],s.now+per * p.size,s.next,Q.left s.q⟩
 idle:∀ s p,C s → ps[s.next]? = some p → s.now < p.tick → Q.rest s.q=0 → C ⟨s.out,p.tick,s.next,Q.idle s.q⟩
def Reaches {σ:Type} (Q:Que σ) (per:Int) (ps:List Pk) (q0:σ) (s:St σ):Prop:=∀ C:St σ → Prop,Steps Q per ps q0 C → C s
section
variable {σ:Type} {Q:Que σ} {per:Int} {ps:List Pk} {q0:σ}
theorem Reaches.start:Reaches Q per ps q0 ⟨[],0,0,q0⟩:=fun _ h=>h.start
theorem Reaches.come (s:St σ) (p:Pk) (hs:Reaches Q per ps q0 s) (h1:ps[s.next]? = some p) (h2:p.tick ≤ s.now):Reaches Q per ps q0 ⟨s.out,s.now,s.next+1,Q.come s.q s.next⟩:=
 fun C h=>h.come s p (hs C h) h1 h2
theorem Reaches.send (s:St σ) (p:Pk) (hs:Reaches Q per ps q0 s) (h1:∀ r,ps[s.next]? = some r → s.now < r.tick) (h2:0 < Q.rest s.q) (h3:ps[Q.pick s.q]? = some p):Reaches Q per ps q0 ⟨s.out ++ [⟨Q.pick s.q,s.now,s.now+per * p.size⟩],s.now+per * p.size,s.next,Q.left s.q⟩:=
 fun C h=>h.send s p (hs C h) h1 h2 h3
theorem Reaches.idle (s:St σ) (p:Pk) (hs:Reaches Q per ps q0 s) (h1:ps[s.next]? = some p) (h2:s.now < p.tick) (h3:Q.rest s.q=0):Reaches Q per ps q0 ⟨s.out,p.tick,s.next,Q.idle s.q⟩:=
 fun C h=>h.idle s p (hs C h) h1 h2 h3
theorem Reaches.by_steps {C:St σ → Prop} {s:St σ} (h:Reaches Q per ps q0 s) (h0:C ⟨[],0,0,q0⟩)
  (h1:∀ s p,Reaches Q per ps q0 s → ps[s.next]? = some p → p.tick ≤ s.now → C s → C ⟨s.out,s.now,s.next+1,Q.come s.q s.next⟩)
  (h2:∀ s p,Reaches Q per ps q0 s → (∀ r,ps[s.next]? = some r → s.now < r.tick) → 0 < Q.rest s.q → ps[Q.pick s.q]? = some p → C s → C ⟨s.out ++ [⟨Q.pick s.q,s.now,s.now+per * p.size⟩],s.now+per * p.size,s.next,Q.left s.q⟩)
  (h3:∀ s p,Reaches Q per ps q0 s → ps[s.next]? = some p → s.now < p.tick → Q.rest s.q=0 → C s → C ⟨s.out,p.tick,s.next,Q.idle s.q⟩):C s:=
 (h (fun s=>Reaches Q per ps q0 s ∧ C s) ⟨⟨.start,h0⟩,fun s p hs a b=>⟨.come s p hs.1 a b,h1 s p hs.1 a b hs.2⟩,fun s p hs a b c=>⟨.send s p hs.1 a b c,h2 s p hs.1 a b c hs.2⟩,fun s p hs a b c=>⟨.idle s p hs.1 a b c,h3 s p hs.1 a b c hs.2⟩⟩).2
end
structure Ia {σ:Type} (Q:Que σ) (per:Int) (ps:List Pk) (q0:σ):Prop where
 none:Q.rest q0=0
 come:∀ s,Reaches Q per ps q0 s → s.next < ps.length → Q.rest (Q.come s.q s.next)=Q.rest s.q+1
 left:∀ s,Reaches Q per ps q0 s → 0 < Q.rest s.q → Q.rest (Q.left s.q)+1=Q.rest s.q
 pick:∀ s,Reaches Q per ps q0 s → 0 < Q.rest s.q → Q.pick s.q < s.next
 idle:∀ s,Reaches Q per ps q0 s → Q.rest s.q=0 → Q.rest (Q.idle s.q)=0
def Que.asked {σ:Type} (Q:Que σ) (q:σ):σ:=if Q.rest q=0 then Q.idle q else q
theorem JZ {σ:Type} (Q:Que σ) (h:∀ q,Q.idle q=q) (q:σ):Q.asked q=q:=by
 unfold Que.asked
 split
 · exact h q
 · rfl
theorem Ad {α:Type} {l:List α} {k:Nat} {x:α} (h:l[k]? = some x):k < l.length:=by
 rcases Nat.lt_or_ge k l.length with h' | h'
 · exact h'
 · simp [List.getElem?_eq_none h'] at h
section
variable {σ:Type} {Q:Que σ} {per:Int} {ps:List Pk} {q0:σ} {s:St σ}
theorem Reaches.next_le (h:Reaches Q per ps q0 s):s.next ≤ ps.length:=by
 refine h.by_steps (C:=fun s=>s.next ≤ ps.length) (Nat.zero_le _) ?_ ?_ ?_
 ·
  intro s p _ hp _ _
  exact Ad hp
 ·
  intro s p _ _ _ _ ih
  exact ih
 ·
  intro s p _ _ _ _ ih
  exact ih
theorem Reaches.count (hq:Ia Q per ps q0) (h:Reaches Q per ps q0 s):s.out.length+Q.rest s.q=s.next:=by
 refine h.by_steps (C:=fun s=>s.out.length+Q.rest s.q=s.next) (by simp [hq.none]) ?_ ?_ ?_
 ·
  intro s p hs hp _ ih
  have:=hq.come s hs (Ad hp)
  simp only
  omega
 ·
  intro s p hs _ h0 _ ih
  have:=hq.left s hs h0
  simp only [List.length_append,List.length_cons,List.length_nil]
  omega
 ·
  intro s p hs _ _ h0 ih
  have:=hq.idle s hs h0
  simp only
  omega
theorem Reaches.now_in (hper:1 ≤ per ∧ per ≤ 1000) (ho:Aj ps) (h:Reaches Q per ps q0 s):0 ≤ s.now ∧ s.now ≤ 1099511627776+1500000 * s.out.length:=by
 refine h.by_steps (C:=fun s=>0 ≤ s.now ∧ s.now ≤ 1099511627776+1500000 * s.out.length) ⟨Int.le_refl _,by simp⟩ ?_ ?_ ?_
 ·
  intro s p _ _ _ ih
  exact ih
 ·
  intro s p _ _ _ hp ih
  obtain ⟨-,-,h1,h2,-,-⟩:=Bb (ho.each _ p hp).1
  have a1:0 ≤ per * p.size:=Int.mul_nonneg (by omega) (by omega)
  have a2:per * p.size ≤ 1000 * 1500:=Int.mul_le_mul (by omega) h2 (by omega) (by omega)
  simp only [List.length_append,List.length_cons,List.length_nil]
  omega
 ·
  intro s p _ hp _ _ ih
  obtain ⟨-,-,-,-,h1,h2⟩:=Bb (ho.each _ p hp).1
  simp only
  omega
end
def Ay (ps:List Pk) (j:Nat):Int:=match ps[j]? with | some p=>p.tick | none=>0
def bytesOf (ps:List Pk) (j:Nat):Int:=match ps[j]? with | some p=>p.size | none=>0
theorem AJ {ps:List Pk} {j:Nat} {p:Pk} (h:ps[j]? = some p):Ay ps j=p.tick:=by simp [Ay,h]
theorem Gp {ps:List Pk} {j:Nat} {p:Pk} (h:ps[j]? = some p):bytesOf ps j=p.size:=by simp [bytesOf,h]
theorem VA {ps:List Pk} (ho:Aj ps):∀ (d i:Nat),i+d < ps.length → Ay ps i ≤ Ay ps (i+d):=by
 intro d
 induction d with
 | zero=>intro i _;exact Int.le_refl _
 | succ d ih=>
  intro i h
  have h1:=ih i (by omega)
  have e1:ps[i+d]? = some ps[i+d]:=List.getElem?_eq_getElem (by omega)
  have e2:ps[i+d+1]? = some ps[i+d+1]:=List.getElem?_eq_getElem (by omega)
  have h2:=(ho.each (i+d+1) _ e2).2
  simp only [ahead,e1] at h2
  rw [AJ e1] at h1
  rw [show i+(d+1)=i+d+1 by omega,AJ e2]
  omega
theorem D6 {ps:List Pk} (ho:Aj ps) {i k:Nat} (h:i ≤ k) (hk:k < ps.length):Ay ps i ≤ Ay ps k:=by
 have:=VA ho (k - i) i (by omega)
 rwa [show i+(k - i)=k by omega] at this
def lto (per:Int) (ps:List Pk):Nat → Int
 | 0=>0
 | j+1=>max (lto per ps j) (Ay ps j)+per * bytesOf ps j
def Vs (per:Int) (ps:List Pk) (j:Nat):Sn:=⟨j,max (lto per ps j) (Ay ps j),lto per ps (j+1)⟩
def BH (per:Int) (ps:List Pk) (j:Nat):List Sn:=(List.range j).map (Vs per ps)
theorem Nn (per:Int) (ps:List Pk) (j:Nat):(BH per ps j).length=j:=by simp [BH]
theorem Ti {per:Int} {ps:List Pk} {j k:Nat} (h:k < j):(BH per ps j)[k]? = some (Vs per ps k):=by simp [BH,h]
theorem J6 (per:Int) (ps:List Pk) (j:Nat):BH per ps (j+1)=BH per ps j ++ [Vs per ps j]:=by simp [BH,List.range_succ]
theorem Q8 {per:Int} {ps:List Pk} {j k:Nat} (h:k ≤ j):(BH per ps j).take k=BH per ps k:=by
 rw [BH,← List.map_take,List.take_range,Nat.min_eq_left h];rfl
def Hf:Que (List Nat):=⟨fun q k=>q ++ [k],fun q=>q.headD 0,fun q=>q.tail,fun q=>q.length,fun q=>q⟩
structure VN (per:Int) (ps:List Pk) (s:St (List Nat)) (j:Nat):Prop where
 le:j ≤ s.next
 q:s.q=List.range' j (s.next - j)
 out:s.out=BH per ps j
 came:∀ i,i < s.next → Ay ps i ≤ s.now
 now:max s.now (Ay ps j)=max (lto per ps j) (Ay ps j)
theorem N7 {per:Int} {ps:List Pk} {s:St (List Nat)} (hper:0 ≤ per) (ho:Aj ps) (h:Reaches Hf per ps [] s):∃ j,VN per ps s j:=by
 refine h.by_steps (C:=fun s=>∃ j,VN per ps s j) ⟨0,Nat.le_refl _,rfl,rfl,fun i h=>absurd h (Nat.not_lt_zero _),rfl⟩ ?_ ?_ ?_
 ·
  intro s p hs hp ht ih
  obtain ⟨j,h1,h2,h3,h4,h5⟩:=ih
  refine ⟨j,by simp only;omega,?_,h3,fun i hi=>?_,h5⟩
  ·
   simp only [Hf,h2]
   rw [show s.next+1 - j=(s.next - j)+1 by omega,List.range'_concat,Nat.one_mul,show j+(s.next - j)=s.next by omega]
  ·
   simp only at hi ⊢
   rcases Nat.lt_or_ge i s.next with h | h
   · exact h4 i h
   ·
    obtain rfl:i=s.next:=by omega
    rw [AJ hp];exact ht
 ·
  intro s p hs hall h0 hp ih
  obtain ⟨j,h1,h2,h3,h4,h5⟩:=ih
  have hlt:j < s.next:=by
   rcases Nat.lt_or_ge j s.next with h | h
   · exact h
   ·
    rw [h2,show s.next - j=0 by omega] at h0
    simp [Hf] at h0
  have hr:List.range' j (s.next - j)=j :: List.range' (j+1) (s.next - (j+1)):=by
   rw [show s.next - j=(s.next - (j+1))+1 by omega,List.range'_succ]
  have hpick:Hf.pick s.q=j:=by rw [h2,hr];rfl
  rw [hpick] at hp
  have e1:=AJ hp
  have e2:=Gp hp
  have hn:s.now=max (lto per ps j) (Ay ps j):=by
   have:=h4 j hlt
   omega
  have hpos:0 ≤ per * p.size:=Int.mul_nonneg hper (by have:=Bb (ho.each _ p hp).1;omega)
  refine ⟨j+1,by simp only;omega,?_,?_,fun i hi=>?_,?_⟩
  · simp only [Hf];rw [h2,hr];rfl
  ·
   simp only [hpick]
   rw [J6,h3]
   simp only [Vs,lto,e2,hn]
  ·
   have:=h4 i hi
   simp only
   omega
  · simp only [lto,e2,hn]
 ·
  intro s p hs hp ht h0 ih
  obtain ⟨j,h1,h2,h3,h4,h5⟩:=ih
  have hj:j=s.next:=by
   have h0':s.q.length=0:=h0
   rw [h2,List.length_range'] at h0'
   omega
  subst hj
  have e1:=AJ hp
  refine ⟨s.next,Nat.le_refl _,h2,h3,fun i hi=>?_,?_⟩
  ·
   have:=h4 i hi
   simp only
   omega
  ·
   simp only [e1] at h5 ⊢
   omega
theorem YH {per:Int} {ps:List Pk} (hper:0 ≤ per) (ho:Aj ps):Ia Hf per ps [] where
 none:=rfl
 come:=fun s _ _=>by simp [Hf]
 left:=fun s _ h=>by
  simp only [Hf] at h ⊢
  rw [List.length_tail]
  omega
 pick:=fun s hs h=>by
  obtain ⟨j,h1,h2,-,-,-⟩:=N7 hper ho hs
  have h':0 < s.q.length:=h
  rw [h2,List.length_range'] at h'
  show s.q.headD 0 < s.next
  rw [h2,show s.next - j=(s.next - (j+1))+1 by omega,List.range'_succ]
  simp
  omega
 idle:=fun _ _ h=>h
theorem Ya {per:Int} {ps:List Pk} {s:St (List Nat)} (hper:0 ≤ per) (ho:Aj ps) (h:Reaches Hf per ps [] s) (hn:¬ s.next < ps.length) (hr:Hf.rest s.q=0):s.out=BH per ps ps.length:=by
 obtain ⟨j,h1,h2,h3,-,-⟩:=N7 hper ho h
 have:=h.next_le
 have h':s.q.length=0:=hr
 rw [h2,List.length_range'] at h'
 rw [h3,show j=ps.length by omega]
end Go.Proofs.YtipdclphpkgceaaGreatDoor
